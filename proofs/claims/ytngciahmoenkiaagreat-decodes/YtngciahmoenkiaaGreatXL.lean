import Derived.Test.YtngciahmoenkiaaGreatXE
import Derived.Test.YtngciahmoenkiaaGreatXB
import Derived.Test.YtngciahmoenkiaaGreatXD
set_option linter.unusedVariables false
set_option linter.unusedSimpArgs false
set_option maxRecDepth 100000
set_option maxHeartbeats 4000000
namespace Go.Proofs.YtngciahmoenkiaaGreat
open Go.RowKit
structure Rst where
 at_:Int
 code:Int
 count:Int
def rF (s:ByteArray) (st:Rst) (j:Nat):Value:=[Value.string s,.int .i64 st.at_,.int .i64 st.code,.int .i64 st.count].getD j undef
def rfail (st:Rst) (e:Int):Rst:=if st.code=0 then { st with code:=e } else st
def rbyte (s:ByteArray) (st:Rst):Int×Rst:=if st.code=0∧st.at_<s.size then (bt s st.at_.toNat,{ st with at_:=st.at_+1 }) else (0,rfail st 1401)
def rmoved (st:Rst) (x:Int×Int×Int):Int×Rst:=if ¬st.code=0 then (0,st) else if x.2.2=0 then (x.1,{ st with at_:=x.2.1 }) else if x.2.2=1201 then (0,rfail st 1401) else (0,rfail st 1400)
def rnum (s:ByteArray) (st:Rst):Int×Rst:=rmoved st (ulR s st.at_ 32)
def rsgn (s:ByteArray) (st:Rst) (b:Int):Int×Rst:=rmoved st (usR s st.at_ b)
def rnought (s:ByteArray) (st:Rst):Rst:=if (rbyte s st).1=0 then (rbyte s st).2 else rfail (rbyte s st).2 1400
def Rin (s:ByteArray) (st:Rst):Prop:=0≤st.at_∧st.at_≤s.size
theorem rfail_in {s:ByteArray} {st:Rst} (h:Rin s st) (e:Int):Rin s (rfail st e):=by
 unfold rfail
 split <;> exact h
theorem rbyte_in {s:ByteArray} {st:Rst} (h:Rin s st):Rin s (rbyte s st).2:=by
 unfold rbyte
 split
 · rename_i h1
   exact⟨by have:=h.1;show 0≤st.at_+1;omega,by have:=h1.2;show st.at_+1≤_;omega⟩
 · exact rfail_in h _
def Rs (q:Nat) (w wr:World) (s:ByteArray) (st:Rst):Prop:=Turned q w wr∧wr.rowIs q 122 4 (rF s st)∧∃F0,w.rowIs q 122 4 F0
variable {q:Nat} {w wr wr':World} {s:ByteArray} {st st':Rst}
theorem Rs.start (h:w.rowIs q 122 4 (rF s st)):Rs q w w s st:=⟨Turned.refl h,h,_,h⟩
theorem Rs.later (h:Rs q w wr s st) (hl:Later wr wr'):Rs q w wr' s st:=⟨h.1.later hl,rowIs_later hl h.2.1,h.2.2⟩
theorem Rs.trans (h:Rs q w wr s st) (h2:Rs q wr wr' s st'):Rs q w wr' s st':=by
 obtain⟨h1,_,F0,h3⟩:=h
 exact⟨h1.trans h3 h2.1,h2.2.1,F0,h3⟩
theorem Rs.set (h:Rs q w wr s st) (i:Nat) (v:Value) (h2:∀j,j<4→(if j=i then v else rF s st j)=rF s st' j):Rs q w (wr.setCell ⟨q,i,none⟩ v) s st':=by
 obtain⟨h1,h3,F0,h4⟩:=h
 refine⟨h1.set h4 i v,?_,F0,h4⟩
 obtain⟨cs,e1,e2,e3⟩:=h3.set i v
 exact⟨cs,e1,e2,fun j hj=>by rw [e3 j hj];exact congrArg some (h2 j hj)⟩
theorem Rs.cell (h:Rs q w wr s st) (i:Nat) (hi:i<4):wr.cell? ⟨q,i,none⟩=some (rF s st i):=h.2.1.cell hi
theorem Rs.frozen (h:Rs q w wr s st) (i:Nat):wr.frozen? ⟨q,i,none⟩=false:=h.2.1.frozen i
theorem Rs.block (h:Rs q w wr s st) {k:Nat} (hk:k≠q) (hl:k<w.heap.size):wr.heap[k]?=w.heap[k]?:=h.1.block hk hl
theorem Rs.size (h:Rs q w wr s st):w.heap.size≤wr.heap.size:=h.1.size
theorem set1 {a b c a':Int}:∀j,j<4→(if j=1 then Value.int .i64 a' else rF s ⟨a,b,c⟩ j)=rF s ⟨a',b,c⟩ j:=fun j hj=>by
 match j,hj with
 | 0,_=>rfl
 | 1,_=>rfl
 | 2,_=>rfl
 | 3,_=>rfl
theorem fail_any (e:Int) (w:World) (h:w.rowIs q 122 4 (rF s st)) :
    Calls Tryz.prog 84 #[.pointer (some ⟨q,0,none⟩),.int .i64 e] w fun e' w'=>e'=.returned (.tuple #[])∧Hid (Rs q w w' s (rfail st e)):=by
 have R:=Rs.start h
 have c2:w.cell? ⟨q,2,none⟩=some (.int .i64 st.code):=R.cell 2 (by decide)
 have f2:=R.frozen 2
 have hl:=cell_lt c2
 unfold rfail
 by_cases h0:st.code=0
 · rw [if_pos h0]
   have R2:Hid (Rs q w (w.setCell ⟨q,2,none⟩ (.int .i64 e)) s { st with code:=e }):=R.set 2 _ (fun j hj=>by
    match j,hj with
    | 0,_=>rfl
    | 1,_=>rfl
    | 2,_=>rfl
    | 3,_=>rfl)
   clear R h
   go_enter Tryz.func84,Tryz.ntmps84
   go_wp2_with fail
   go_end0
   exact⟨rfl,R2⟩
 · rw [if_neg h0]
   have h1:(st.code==0)=false:=beq_false h0
   replace R:Hid (Rs q w w s st):=R
   clear h
   go_enter Tryz.func84,Tryz.ntmps84
   go_wp2_with fail
   go_end0
   exact⟨rfl,R⟩
theorem byte_any (hs:s.size<9223372036854775000) (hin:Rin s st) (w:World) (h:w.rowIs q 122 4 (rF s st)) :
    Calls Tryz.prog 82 #[.pointer (some ⟨q,0,none⟩)] w fun e' w'=>e'=.returned (.int .i64 (rbyte s st).1)∧Hid (Rs q w w' s (rbyte s st).2):=by
 have R:=Rs.start h
 obtain⟨a0,cd,ct⟩:=st
 have c0:w.cell? ⟨q,0,none⟩=some (.string s):=R.cell 0 (by decide)
 have c1:w.cell? ⟨q,1,none⟩=some (.int .i64 a0):=R.cell 1 (by decide)
 have c2:w.cell? ⟨q,2,none⟩=some (.int .i64 cd):=R.cell 2 (by decide)
 have f1:=R.frozen 1
 have hl:=cell_lt c2
 obtain⟨a,ha⟩:=Int.eq_ofNat_of_zero_le hin.1
 have ha':a0=(a:Int):=ha
 subst ha'
 have ha2:a≤s.size:=by have:=hin.2;simp only [] at this;omega
 unfold rbyte
 simp only []
 by_cases h0:cd=0
 · subst h0
   by_cases h1:(a:Int)<s.size
   · rw [if_pos ⟨rfl,h1⟩]
     have hasz:a<s.size:=by omega
     have hb:bt s (a:Int).toNat=(s[a].toNat:Int):=by rw [Int.toNat_natCast];exact dif_pos hasz
     rw [hb]
     have h3:¬(s.size:Int)≤(a:Int):=by omega
     have hwr:wrap64 (s[a].toNat:Int)=(s[a].toNat:Int):=by have:=s[a].toNat_lt;unfold wrap64;omega
     replace R:Hid (Rs q w w s ⟨(a:Int),0,ct⟩):=R
     clear h hb hin ha
     go_enter Tryz.func82,Tryz.ntmps82
     go_wp2_with fail
     go_quiet (fail)
     go_wp2_with fail
     go_quiet (fail)
     go_wp2_with fail
     go_ret
     exact⟨by show Ending.returned (.int .i64 (wrap64 _))=_;rw [hwr],((R.out.later (Ln (Lz _))).set (st':=⟨(a:Int)+1,0,ct⟩) 1 _ set1).later (Ln (Lz _))⟩
   · rw [if_neg (fun x=>h1 x.2)]
     have h3:(s.size:Int)≤(a:Int):=by omega
     replace R:Hid (Rs q w w s ⟨(a:Int),0,ct⟩):=R
     have hfail:Hid (∀W,Later w W→Calls Tryz.prog 84 #[.pointer (some ⟨q,0,none⟩),.int .i64 1401] W fun e' w'=>e'=.returned (.tuple #[])∧Hid (Rs q W w' s (rfail ⟨(a:Int),0,ct⟩ 1401))):=fun W hW=>fail_any 1401 W (R.out.later hW).2.1
     clear h hin ha
     go_enter Tryz.func82,Tryz.ntmps82
     go_wp2_with fail
     go_quiet (fail)
     go_wp2_with (go_at_call 84;refine (hfail.out _ (Ln (Lz _))).mono ?_;rintro e w2 ⟨rfl,R2⟩)
     go_ret
     exact⟨rfl,(R.out.later (Ln (Lz _))).trans R2.out⟩
 · rw [if_neg (fun x=>h0 x.1)]
   have h3:(cd != 0)=true:=by simpa using h0
   replace R:Hid (Rs q w w s ⟨(a:Int),cd,ct⟩):=R
   have hfail:Hid (∀W,Later w W→Calls Tryz.prog 84 #[.pointer (some ⟨q,0,none⟩),.int .i64 1401] W fun e' w'=>e'=.returned (.tuple #[])∧Hid (Rs q W w' s (rfail ⟨(a:Int),cd,ct⟩ 1401))):=fun W hW=>fail_any 1401 W (R.out.later hW).2.1
   clear h hin ha
   go_enter Tryz.func82,Tryz.ntmps82
   go_wp2_with fail
   go_quiet (fail)
   go_wp2_with (go_at_call 84;refine (hfail.out _ (Ln (Lz _))).mono ?_;rintro e w2 ⟨rfl,R2⟩)
   go_ret
   exact⟨rfl,(R.out.later (Ln (Lz _))).trans R2.out⟩
theorem moved_any (x to e:Int) (w:World) (h:w.rowIs q 122 4 (rF s st)) :
    Calls Tryz.prog 98 #[.pointer (some ⟨q,0,none⟩),.int .i64 x,.int .i64 to,.int .i64 e] w fun e' w'=>e'=.returned (.int .i64 (rmoved st (x,to,e)).1)∧Hid (Rs q w w' s (rmoved st (x,to,e)).2):=by
 have R:=Rs.start h
 obtain⟨a0,cd,ct⟩:=st
 have c2:w.cell? ⟨q,2,none⟩=some (.int .i64 cd):=R.cell 2 (by decide)
 have c1:w.cell? ⟨q,1,none⟩=some (.int .i64 a0):=R.cell 1 (by decide)
 have f1:=R.frozen 1
 have hl:=cell_lt c2
 have hfail:Hid (∀(er:Int) W,Later w W→Calls Tryz.prog 84 #[.pointer (some ⟨q,0,none⟩),.int .i64 er] W fun e' w'=>e'=.returned (.tuple #[])∧Hid (Rs q W w' s (rfail ⟨a0,cd,ct⟩ er))):=fun er W hW=>fail_any er W (R.later hW).2.1
 replace R:Hid (Rs q w w s ⟨a0,cd,ct⟩):=R
 clear h
 unfold rmoved
 simp only []
 by_cases h0:cd=0
 · subst h0
   rw [if_neg (fun x=>x rfl)]
   by_cases h1:e=0
   · subst h1
     rw [if_pos rfl]
     go_enter Tryz.func98,Tryz.ntmps98
     go_wp2_with fail
     go_ret
     exact⟨rfl,R.out.set (st':=⟨to,0,ct⟩) 1 _ set1⟩
   · rw [if_neg h1]
     have n1:=beq_false h1
     by_cases h2:e=1201
     · subst h2
       rw [if_pos rfl]
       go_enter Tryz.func98,Tryz.ntmps98
       go_wp2_with (go_at_call 84;refine (hfail.out 1401 _ (Lz _)).mono ?_;rintro e w2 ⟨rfl,R2⟩)
       go_ret
       exact⟨rfl,R2⟩
     · rw [if_neg h2]
       have n2:=beq_false h2
       go_enter Tryz.func98,Tryz.ntmps98
       go_wp2_with (go_at_call 84;refine (hfail.out 1400 _ (Lz _)).mono ?_;rintro e w2 ⟨rfl,R2⟩)
       go_ret
       exact⟨rfl,R2⟩
 · rw [if_pos h0]
   have h3:(cd != 0)=true:=by simpa using h0
   go_enter Tryz.func98,Tryz.ntmps98
   go_wp2_with fail
   go_ret
   exact⟨rfl,R⟩
theorem num_rd (hs:s.size<9223372036854775000) (w:World) (h:w.rowIs q 122 4 (rF s st)) :
    Calls Tryz.prog 92 #[.pointer (some ⟨q,0,none⟩)] w fun e' w'=>e'=.returned (.int .i64 (rnum s st).1)∧Hid (Rs q w w' s (rnum s st).2):=by
 have R:=Rs.start h
 have c0:w.cell? ⟨q,0,none⟩=some (.string s):=R.cell 0 (by decide)
 have c1:w.cell? ⟨q,1,none⟩=some (.int .i64 st.at_):=R.cell 1 (by decide)
 have hl:=cell_lt c1
 unfold rnum
 have hu:Hid (∀W,Calls Tryz.prog 12 #[.string s,.int .i64 st.at_,.int .i64 32] W fun e w'=>e=.returned (.tuple #[.int .i64 (ulR s st.at_ 32).1,.int .i64 (ulR s st.at_ 32).2.1,.int .i64 (ulR s st.at_ 32).2.2])∧w'=W):=unleb_any s hs st.at_ 32
 generalize ulR s st.at_ 32=X at *
 obtain⟨x,to,e⟩:=X
 have hm:Hid (∀W,Later w W→Calls Tryz.prog 98 #[.pointer (some ⟨q,0,none⟩),.int .i64 x,.int .i64 to,.int .i64 e] W fun e' w'=>e'=.returned (.int .i64 (rmoved st (x,to,e)).1)∧Hid (Rs q W w' s (rmoved st (x,to,e)).2)):=fun W hW=>moved_any x to e W (R.later hW).2.1
 replace R:Hid (Rs q w w s st):=R
 clear h
 go_enter Tryz.func92,Tryz.ntmps92
 go_wp2_with fail
 go_quiet (first|(go_at_call 12;exact Calls.quiet_of_same (hu.out _)))
 go_wp2_with (go_at_call 98;refine (hm.out _ (Ln (Lz _))).mono ?_;rintro e1 w2 ⟨rfl,R2⟩)
 go_ret
 exact⟨rfl,(R.out.later (Ln (Lz _))).trans R2.out⟩
theorem signed_rd (hs:s.size<9223372036854775000) (b:Int) (w:World) (h:w.rowIs q 122 4 (rF s st)) :
    Calls Tryz.prog 100 #[.pointer (some ⟨q,0,none⟩),.int .i64 b] w fun e' w'=>e'=.returned (.int .i64 (rsgn s st b).1)∧Hid (Rs q w w' s (rsgn s st b).2):=by
 have R:=Rs.start h
 have c0:w.cell? ⟨q,0,none⟩=some (.string s):=R.cell 0 (by decide)
 have c1:w.cell? ⟨q,1,none⟩=some (.int .i64 st.at_):=R.cell 1 (by decide)
 have hl:=cell_lt c1
 unfold rsgn
 have hu:Hid (∀W,Calls Tryz.prog 105 #[.string s,.int .i64 st.at_,.int .i64 b] W fun e w'=>e=.returned (.tuple #[.int .i64 (usR s st.at_ b).1,.int .i64 (usR s st.at_ b).2.1,.int .i64 (usR s st.at_ b).2.2])∧w'=W):=unsleb_any s hs st.at_ b
 generalize usR s st.at_ b=X at *
 obtain⟨x,to,e⟩:=X
 have hm:Hid (∀W,Later w W→Calls Tryz.prog 98 #[.pointer (some ⟨q,0,none⟩),.int .i64 x,.int .i64 to,.int .i64 e] W fun e' w'=>e'=.returned (.int .i64 (rmoved st (x,to,e)).1)∧Hid (Rs q W w' s (rmoved st (x,to,e)).2)):=fun W hW=>moved_any x to e W (R.later hW).2.1
 replace R:Hid (Rs q w w s st):=R
 clear h
 go_enter Tryz.func100,Tryz.ntmps100
 go_wp2_with fail
 go_quiet (first|(go_at_call 105;exact Calls.quiet_of_same (hu.out _)))
 go_wp2_with (go_at_call 98;refine (hm.out _ (Ln (Lz _))).mono ?_;rintro e1 w2 ⟨rfl,R2⟩)
 go_ret
 exact⟨rfl,(R.out.later (Ln (Lz _))).trans R2.out⟩
theorem nought_any (hs:s.size<9223372036854775000) (hin:Rin s st) (w:World) (h:w.rowIs q 122 4 (rF s st)) :
    Calls Tryz.prog 93 #[.pointer (some ⟨q,0,none⟩)] w fun e' w'=>e'=.returned (.tuple #[])∧Hid (Rs q w w' s (rnought s st)):=by
 have hb:Hid (Calls Tryz.prog 82 #[.pointer (some ⟨q,0,none⟩)] w fun e' w'=>e'=.returned (.int .i64 (rbyte s st).1)∧Hid (Rs q w w' s (rbyte s st).2)):=byte_any hs hin w h
 have hf:Hid (∀W,Rs q w W s (rbyte s st).2→Calls Tryz.prog 84 #[.pointer (some ⟨q,0,none⟩),.int .i64 1400] W fun e' w'=>e'=.returned (.tuple #[])∧Hid (Rs q W w' s (rfail (rbyte s st).2 1400))):=fun W hW=>fail_any 1400 W hW.2.1
 unfold rnought
 generalize rbyte s st=K at *
 obtain⟨b,st1⟩:=K
 simp only [] at hb hf ⊢
 clear h
 by_cases h0:b=0
 · subst h0
   rw [if_pos rfl]
   go_enter Tryz.func93,Tryz.ntmps93
   go_wp2_with (go_at_call 82;refine hb.out.mono ?_;rintro e1 w1 ⟨rfl,R1⟩)
   go_end0
   exact⟨rfl,R1⟩
 · rw [if_neg h0]
   have h1:(b != 0)=true:=by simpa using h0
   go_enter Tryz.func93,Tryz.ntmps93
   go_wp2_with (first|(go_at_call 82;refine hb.out.mono ?_;rintro e1 w1 ⟨rfl,R1⟩)|(go_at_call 84;refine (hf.out _ R1.out).mono ?_;rintro e1 w2 ⟨rfl,R2⟩))
   go_end0
   exact⟨rfl,R1.out.trans R2.out⟩
end Go.Proofs.YtngciahmoenkiaaGreat
namespace Go.Proofs.YtngciahmoenkiaaGreat
open Go.RowKit
def rbF (s:ByteArray):Nat→Nat→Int→Rst→Int×Rst
 | 0,i,x,st=>(x,st)
 | r+1,i,x,st=>rbF s r (i+1) (bits .or .i64 x (wrap64 ((rbyte s st).1*2 ^ (8*i)))) (rbyte s st).2
def rbits (s:ByteArray) (k:Nat) (st:Rst):Int×Rst:=rbF s k 0 0 st
def rlit (s:ByteArray) (op:Int) (st:Rst):Int×Rst:=if op=65 then ((rsgn s st 32).1 % 4294967296,(rsgn s st 32).2) else if op=66 then rsgn s st 64 else if op=67 then rbits s 4 st else rbits s 8 st
variable {q:Nat} {s:ByteArray} {st:Rst}
theorem bits_rd (hs:s.size<9223372036854775000) (hin:Rin s st) (k:Nat) (hk:k≤8) (w:World) (h:w.rowIs q 122 4 (rF s st)) :
    Calls Tryz.prog 101 #[.pointer (some ⟨q,0,none⟩),.int .i64 (k:Int)] w fun e' w'=>e'=.returned (.int .i64 (rbits s k st).1)∧Hid (Rs q w w' s (rbits s k st).2):=by
 have R:=Rs.start h
 replace R:Hid (Rs q w w s st):=R
 unfold rbits
 clear h
 go_enter Tryz.func101,Tryz.ntmps101
 go_wp2_with fail
 go_loopw [5,6] (fun v i wr=>∃(j:Nat) (x:Int) (st1:Rst),j≤k∧i=.int .i64 (j:Nat)∧v=.int .i64 x∧Rin s st1∧Rs q w wr s st1∧rbF s k 0 0 st=rbF s (k - j) j x st1) (fun v i _=>k - (intOf i).toNat)
 case atStart=>exact⟨0,0,st,Nat.zero_le _,rfl,rfl,hin,R.out,rfl⟩
 case round =>
  obtain⟨j,x,st1,hj,rfl,rfl,hin1,R1,hr⟩:=hrel
  by_cases hlt:j<k
  · have hl1:(j:Int)<(k:Int):=by omega
    have h8:8*(j:Int)<64:=by omega
    rw [show k - j=(k - (j+1))+1 by omega] at hr
    conv at hr=>rhs;unfold rbF
    have hb:Hid (Calls Tryz.prog 82 #[.pointer (some ⟨q,0,none⟩)] wr fun e' w'=>e'=.returned (.int .i64 (rbyte s st1).1)∧Hid (Rs q wr w' s (rbyte s st1).2)):=byte_any hs hin1 wr R1.2.1
    have hin2:Hid (Rin s (rbyte s st1).2):=rbyte_in hin1
    replace hr:Hid (rbF s k 0 0 st=rbF s (k - (j+1)) (j+1) (bits .or .i64 x (wrap64 ((rbyte s st1).1*2 ^ (8*j)))) (rbyte s st1).2):=hr
    replace R1:Hid (Rs q w wr s st1):=R1
    generalize (rbyte s st1).2=st2 at *
    generalize (rbyte s st1).1=b at *
    go_wp2_with (go_at_call 82;refine hb.out.mono ?_;clear hb;rintro e1 w1 ⟨rfl,R2⟩)
    go_roundw
    case rel=>exact⟨j+1,_,st2,by omega,by go_num,rfl,hin2.out,R1.out.trans R2.out,hr.out⟩
    case measure=>simp [intOf];omega
  · have hje:j=k:=by omega
    subst hje
    have hr2:Hid (rbF s j 0 0 st=(x,st1)):=by show _=_;rw [hr,Nat.sub_self];rfl
    replace R1:Hid (Rs q w wr s st1):=R1
    clear hr
    go_wp2_with fail
    go_ret
    rw [hr2.out]
    exact⟨rfl,R1⟩
theorem literal_rd (hs:s.size<9223372036854775000) (hin:Rin s st) (op:Int) (w:World) (h:w.rowIs q 122 4 (rF s st)) :
    Calls Tryz.prog 94 #[.pointer (some ⟨q,0,none⟩),.int .i64 op] w fun e' w'=>e'=.returned (.int .i64 (rlit s op st).1)∧Hid (Rs q w w' s (rlit s op st).2):=by
 have h32:Hid (Calls Tryz.prog 100 #[.pointer (some ⟨q,0,none⟩),.int .i64 32] w fun e' w'=>e'=.returned (.int .i64 (rsgn s st 32).1)∧Hid (Rs q w w' s (rsgn s st 32).2)):=signed_rd hs 32 w h
 have h64:Hid (Calls Tryz.prog 100 #[.pointer (some ⟨q,0,none⟩),.int .i64 64] w fun e' w'=>e'=.returned (.int .i64 (rsgn s st 64).1)∧Hid (Rs q w w' s (rsgn s st 64).2)):=signed_rd hs 64 w h
 have h4:Hid (Calls Tryz.prog 101 #[.pointer (some ⟨q,0,none⟩),.int .i64 4] w fun e' w'=>e'=.returned (.int .i64 (rbits s 4 st).1)∧Hid (Rs q w w' s (rbits s 4 st).2)):=bits_rd hs hin 4 (by decide) w h
 have h8:Hid (Calls Tryz.prog 101 #[.pointer (some ⟨q,0,none⟩),.int .i64 8] w fun e' w'=>e'=.returned (.int .i64 (rbits s 8 st).1)∧Hid (Rs q w w' s (rbits s 8 st).2)):=bits_rd hs hin 8 (by decide) w h
 have hlow:Hid (∀x w,Calls Tryz.prog 99 #[.int .i64 x] w fun e w'=>e=.returned (.int .i64 (x % 4294967296))∧w'=w):=rlow_any
 unfold rlit
 generalize rsgn s st 32=K1 at *
 generalize rsgn s st 64=K2 at *
 generalize rbits s 4 st=K3 at *
 generalize rbits s 8 st=K4 at *
 clear h
 by_cases n65:op=65
 · subst n65
   rw [if_pos rfl]
   clear h64 h4 h8
   go_enter Tryz.func94,Tryz.ntmps94
   go_wp2_with (first|(go_at_call 100;refine h32.out.mono ?_;rintro e1 w1 ⟨rfl,R2⟩)|(go_at_call 99;refine (hlow.out _ _).mono ?_;rintro e2 w2 ⟨rfl,hw⟩;obtain rfl:w1=w2:=hw.symm))
   go_ret
   exact⟨rfl,R2⟩
 rw [if_neg n65]
 have m65:=beq_false n65
 by_cases n66:op=66
 · subst n66
   rw [if_pos rfl]
   clear h32 h4 h8
   go_enter Tryz.func94,Tryz.ntmps94
   go_wp2_with (go_at_call 100;refine h64.out.mono ?_;rintro e1 w1 ⟨rfl,R2⟩)
   go_ret
   exact⟨rfl,R2⟩
 rw [if_neg n66]
 have m66:=beq_false n66
 by_cases n67:op=67
 · subst n67
   rw [if_pos rfl]
   clear h32 h64 h8
   go_enter Tryz.func94,Tryz.ntmps94
   go_wp2_with (go_at_call 101;refine h4.out.mono ?_;rintro e1 w1 ⟨rfl,R2⟩)
   go_ret
   exact⟨rfl,R2⟩
 rw [if_neg n67]
 have m67:=beq_false n67
 clear h32 h64 h4
 go_enter Tryz.func94,Tryz.ntmps94
 go_wp2_with (go_at_call 101;refine h8.out.mono ?_;rintro e1 w1 ⟨rfl,R2⟩)
 go_ret
 exact⟨rfl,R2⟩
end Go.Proofs.YtngciahmoenkiaaGreat
namespace Go.Proofs.YtngciahmoenkiaaGreat
open Go.RowKit
structure On where
 a:Int:=0
 b:Int:=0
 bi:Int:=0
 ty:Int:=0
 ls:List Int:=[]
 bo:Fs:=.nil
 el:Fs:=.nil
def rlab (s:ByteArray):Nat→Rst→List Int×Rst
 | 0,st=>([],st)
 | n+1,st=>if st.code=0 then ((rnum s st).1 :: (rlab s n (rnum s st).2).1,(rlab s n (rnum s st).2).2) else ([],st)
def rtyp (s:ByteArray) (st:Rst):Rst:=if (rbyte s st).2.code=0∧¬(rbyte s st).1=64∧¬(124≤(rbyte s st).1∧(rbyte s st).1≤127) then rfail (rbyte s st).2 1400 else (rbyte s st).2
def rcap (x:Int) (st:Rst):Rst:=if x≥1024 then rfail st 1400 else st
def ro (L:Int→Bool→Rst→Fs×Bool×Rst) (s:ByteArray) (op deep:Int) (st:Rst):On×Rst :=
 if fo op=1∨fo op=2 then
  if deep≥32 then ({},rfail st 1402)
  else if (L (deep+1) (decide (op=4)) (rtyp s st)).2.1=true then
   ({ ty:=(rbyte s st).1,bo:=(L (deep+1) (decide (op=4)) (rtyp s st)).1,el:=(L (deep+1) false (L (deep+1) (decide (op=4)) (rtyp s st)).2.2).1 },(L (deep+1) false (L (deep+1) (decide (op=4)) (rtyp s st)).2.2).2.2)
  else ({ ty:=(rbyte s st).1,bo:=(L (deep+1) (decide (op=4)) (rtyp s st)).1 },(L (deep+1) (decide (op=4)) (rtyp s st)).2.2)
 else if fo op=3 then ({ a:=(rnum s st).1 },(rnum s st).2)
 else if fo op=4 then ({ ls:=(rlab s ((rnum s st).1.toNat+1) (rcap (rnum s st).1 (rnum s st).2)).1 },(rlab s ((rnum s st).1.toNat+1) (rcap (rnum s st).1 (rnum s st).2)).2)
 else if fo op=5 then ({ a:=(rnum s st).1 },rnought s (rnum s st).2)
 else if fo op=6 then ({ a:=(rnum s st).1,b:=(rnum s (rnum s st).2).1 },(rnum s (rnum s st).2).2)
 else if fo op=7 then ({},rnought s st)
 else if fo op=8 then ({ bi:=(rlit s op st).1 },(rlit s op st).2)
 else ({},st)
def met (st:Rst):Rst:={ st with count:=st.count+1 }
def rl (s:ByteArray):Nat→Int→Bool→Rst→Fs×Bool×Rst
 | 0,deep,other,st=>(.nil,false,st)
 | n+1,deep,other,st =>
  if st.code=0 then
   if ¬(rbyte s st).2.code=0∨(rbyte s st).1=11 then (.nil,false,(rbyte s st).2)
   else if (rbyte s st).1=5∧other=true then (.nil,true,(rbyte s st).2)
   else if fo (rbyte s st).1=9 then (.nil,false,rfail (rbyte s st).2 1403)
   else if (rbyte s st).2.count+1 > 8192 then (.nil,false,rfail (met (rbyte s st).2) 1400)
   else (.cons (rbyte s st).1 (ro (rl s n) s (rbyte s st).1 deep (met (rbyte s st).2)).1.a (ro (rl s n) s (rbyte s st).1 deep (met (rbyte s st).2)).1.b (ro (rl s n) s (rbyte s st).1 deep (met (rbyte s st).2)).1.bi (ro (rl s n) s (rbyte s st).1 deep (met (rbyte s st).2)).1.ty (ro (rl s n) s (rbyte s st).1 deep (met (rbyte s st).2)).1.ls (ro (rl s n) s (rbyte s st).1 deep (met (rbyte s st).2)).1.bo (ro (rl s n) s (rbyte s st).1 deep (met (rbyte s st).2)).1.el
       (rl s n deep other (ro (rl s n) s (rbyte s st).1 deep (met (rbyte s st).2)).2).1,
    (rl s n deep other (ro (rl s n) s (rbyte s st).1 deep (met (rbyte s st).2)).2).2.1,(rl s n deep other (ro (rl s n) s (rbyte s st).1 deep (met (rbyte s st).2)).2).2.2)
  else (.nil,false,st)
variable {q:Nat} {w wr:World} {s:ByteArray} {st:Rst} {lab:Nat→Nat} {W W':World} {B0 p:Nat} {F:Nat→Value}
theorem Rs.other (h:Rs q w W s st) {p:Nat} (hp:w.heap.size≤p) (i:Nat) (u:Value) (hb:∃T F,W.rowIs p T 8 F):Rs q w (W.setCell ⟨p,i,none⟩ u) s st:=by
 obtain⟨h1,h2,F0,h3⟩:=h
 have hq:q<w.heap.size:=h3.lt
 obtain⟨T,F,hr⟩:=hb
 have ht:Turned p W (W.setCell ⟨p,i,none⟩ u):=(Turned.refl hr).set hr i u
 refine⟨?_,h2.of_block (ht.block (by omega) h2.lt),F0,h3⟩
 obtain⟨cs,bs,n,e⟩:=h1
 have hL:Later (w.setRow q cs) W:=⟨bs,n,e⟩
 have hs:(w.setRow q cs).heap.size=w.heap.size:=by simp
 obtain⟨bs',n',e'⟩:=hL.turned hr (by omega) ht
 exact⟨cs,bs',n',e'⟩
def zer (j:Nat):Value:=[Value.int .i64 0,.int .i64 0,.int .i64 0,.int .i64 0,.int .i64 0,.slice none 0 0,.slice none 0 0,.slice none 0 0].getD j undef
def Oz (q:Nat) (w W:World) (s:ByteArray) (st:Rst) (F:Nat→Value):Prop:=Rs q w W s st∧W.rowIs w.heap.size 89 8 zer∧W.rowIs (w.heap.size+1) 89 8 F
theorem row8 (w:World) (x0 x1 x2 x3 x4 x5 x6 x7:Value):(w.alloc (.cells #[x0,x1,x2,x3,x4,x5,x6,x7] 89)).rowIs w.heap.size 89 8 (fun j=>[x0,x1,x2,x3,x4,x5,x6,x7].getD j undef):=⟨_,heap_alloc_new w _,rfl,fun i hi=>by
    match i,hi with
    | 0,_=>rfl
    | 1,_=>rfl
    | 2,_=>rfl
    | 3,_=>rfl
    | 4,_=>rfl
    | 5,_=>rfl
    | 6,_=>rfl
    | 7,_=>rfl⟩
theorem Oz.start (h:w.rowIs q 122 4 (rF s st)) (op:Int):Oz q w ((w.alloc (.cells #[.int .i64 0,.int .i64 0,.int .i64 0,.int .i64 0,.int .i64 0,.slice none 0 0,.slice none 0 0,.slice none 0 0] 89)).alloc (.cells #[.int .i64 op,.int .i64 0,.int .i64 0,.int .i64 0,.int .i64 0,.slice none 0 0,.slice none 0 0,.slice none 0 0] 89)) s st (fun j=>[.int .i64 op,.int .i64 0,.int .i64 0,.int .i64 0,.int .i64 0,.slice none 0 0,.slice none 0 0,.slice none 0 0].getD j undef):=by
 refine⟨(Rs.start h).later (La (La (Lz _))),rowIs_later (La (Lz _)) (row8 w _ _ _ _ _ _ _ _),?_⟩
 have:=row8 (w.alloc (.cells #[.int .i64 0,.int .i64 0,.int .i64 0,.int .i64 0,.int .i64 0,.slice none 0 0,.slice none 0 0,.slice none 0 0] 89)) (.int .i64 op) (.int .i64 0) (.int .i64 0) (.int .i64 0) (.int .i64 0) (.slice none 0 0) (.slice none 0 0) (.slice none 0 0)
 rwa [show (w.alloc (.cells #[.int .i64 0,.int .i64 0,.int .i64 0,.int .i64 0,.int .i64 0,.slice none 0 0,.slice none 0 0,.slice none 0 0] 89)).heap.size=w.heap.size+1 by simp] at this
theorem Oz.rs {st':Rst} (h:Oz q w W s st F) (hr:Rs q W W' s st'):Oz q w W' s st' F:=by
 have hq:q<w.heap.size:=by obtain⟨F0,h3⟩:=h.1.2.2;exact h3.lt
 exact⟨h.1.trans hr,h.2.1.of_block (hr.block (by omega) h.2.1.lt),h.2.2.of_block (hr.block (by omega) h.2.2.lt)⟩
theorem Oz.later (h:Oz q w W s st F) (hl:Later W W'):Oz q w W' s st F:=⟨h.1.later hl,rowIs_later hl h.2.1,rowIs_later hl h.2.2⟩
theorem Oz.set (h:Oz q w W s st F) (i:Nat) (u:Value):Oz q w (W.setCell ⟨w.heap.size+1,i,none⟩ u) s st (fun j=>if j=i then u else F j):=by
 have ht:Turned (w.heap.size+1) W (W.setCell ⟨w.heap.size+1,i,none⟩ u):=(Turned.refl h.2.2).set h.2.2 i u
 exact⟨h.1.other (by omega) i u ⟨_,_,h.2.2⟩,h.2.1.of_block (ht.block (by omega) h.2.1.lt),h.2.2.set i u⟩
theorem Oz.res (h:Oz q w W s st F) (i:Nat) (u:Value):Rs q w (W.setCell ⟨w.heap.size,i,none⟩ u) s st∧(∃G,(W.setCell ⟨w.heap.size,i,none⟩ u).rowIs w.heap.size 89 8 G):=⟨h.1.other (Nat.le_refl _) i u ⟨_,_,h.2.1⟩,_,h.2.1.set i u⟩
theorem Rs.res (h:Rs q w W s st∧∃G,W.rowIs w.heap.size 89 8 G) (i:Nat) (u:Value):Rs q w (W.setCell ⟨w.heap.size,i,none⟩ u) s st∧(∃G,(W.setCell ⟨w.heap.size,i,none⟩ u).rowIs w.heap.size 89 8 G):=by
 obtain⟨h1,G,h2⟩:=h
 exact⟨h1.other (Nat.le_refl _) i u ⟨_,_,h2⟩,_,h2.set i u⟩
theorem Oz.cell (h:Oz q w W s st F) (i:Nat) (hi:i<8):W.cell? ⟨w.heap.size+1,i,none⟩=some (F i):=h.2.2.cell hi
theorem Oz.frozen (h:Oz q w W s st F) (i:Nat):W.frozen? ⟨w.heap.size+1,i,none⟩=false:=h.2.2.frozen i
theorem Oz.ry (h:Oz q w W s st F) (i:Nat) (hi:i<8):W.cell? ⟨w.heap.size,i,none⟩=some (zer i):=h.2.1.cell hi
theorem Oz.rz (h:Oz q w W s st F) (i:Nat):W.frozen? ⟨w.heap.size,i,none⟩=false:=h.2.1.frozen i
theorem Oz.row (h:Oz q w W s st F):W.rowIs q 122 4 (rF s st):=h.1.2.1
theorem Oz.done (h:Oz q w W s st F) (x0 x1 x2 x3 x4 x5 x6 x7:Value):Rs q w ((((((((W.setCell ⟨w.heap.size,0,none⟩ x0).setCell ⟨w.heap.size,1,none⟩ x1).setCell ⟨w.heap.size,2,none⟩ x2).setCell ⟨w.heap.size,3,none⟩ x3).setCell ⟨w.heap.size,4,none⟩ x4).setCell ⟨w.heap.size,5,none⟩ x5).setCell ⟨w.heap.size,6,none⟩ x6).setCell ⟨w.heap.size,7,none⟩ x7) s st:=(Rs.res (Rs.res (Rs.res (Rs.res (Rs.res (Rs.res (Rs.res (h.res 0 x0) 1 x1) 2 x2) 3 x3) 4 x4) 5 x5) 6 x6) 7 x7).1
theorem Oz.out_rs (h:Oz q w W s st F):Rs q w W s st:=h.1
end Go.Proofs.YtngciahmoenkiaaGreat
namespace Go.Proofs.YtngciahmoenkiaaGreat
open Go.RowKit
variable {q:Nat} {s:ByteArray} {st:Rst}
theorem rmoved_in {s:ByteArray} {st:Rst} (h:Rin s st) (x:Int×Int×Int) (hx:x.2.2=0→0≤x.2.1∧x.2.1≤s.size):Rin s (rmoved st x).2:=by
 unfold rmoved
 split
 · exact h
 · split
   · rename_i h1
     exact hx h1
   · split <;> exact rfail_in h _
theorem rnum_in {s:ByteArray} {st:Rst} (h:Rin s st):Rin s (rnum s st).2:=by
 refine rmoved_in h _ fun h0=>?_
 unfold ulR at h0 ⊢
 by_cases hp:(ptR s st.at_ 32).2=0
 · obtain⟨a,k,m,e,hb,h1,h2,h3,h4,h5⟩:=ptR_in hp
   rw [if_pos hp] at h0 ⊢
   split at h0
   · simp at h0
   · rename_i hn
     rw [if_neg hn]
     show 0≤(ptR s st.at_ 32).1+1∧(ptR s st.at_ 32).1+1≤s.size
     omega
 · rw [if_neg hp] at h0
   exact absurd h0 hp
theorem one_0 (hs:s.size<9223372036854775000) (hin:Rin s st) (op deep:Int) (hf:Hid (fo op=0)) (w:World) (h:w.rowIs q 122 4 (rF s st)) :
    Calls Tryz.prog 85 #[.pointer (some ⟨q,0,none⟩),.int .i64 op,.int .i64 deep] w fun e w'=>e=.returned (.agg #[.int .i64 op,.int .i64 0,.int .i64 0,.int .i64 0,.int .i64 0,.slice none 0 0,.slice none 0 0,.slice none 0 0])∧Hid (Rs q w w' s st):=by
 have hform:Hid (∀w:World,Calls Tryz.prog 83 #[.int .i64 op] w fun e w'=>e=.returned (.int .i64 0)∧w'=w):=fun w=>by
  have:=form_any op w
  rwa [hf.out] at this
 have O0:=Oz.start h op
 have R1:Hid (Rs q w w s st):=Rs.start h
 clear O0 h hin
 go_enter Tryz.func85,Tryz.ntmps85
 go_wp2_with (first|(go_at_call 83;refine (hform.out _).mono ?_;rintro e w' ⟨rfl,rfl⟩))
 refine bodyPost_ret (v:=.agg #[.int .i64 op,.int .i64 0,.int .i64 0,.int .i64 0,.int .i64 0,.slice none 0 0,.slice none 0 0,.slice none 0 0]) (by simp [results,Tryz.results85,go_sem]) rfl ⟨rfl,R1.out.later (La (La (Lz _)))⟩
theorem one_9 (hs:s.size<9223372036854775000) (hin:Rin s st) (op deep:Int) (hf:Hid (fo op=9)) (w:World) (h:w.rowIs q 122 4 (rF s st)) :
    Calls Tryz.prog 85 #[.pointer (some ⟨q,0,none⟩),.int .i64 op,.int .i64 deep] w fun e w'=>e=.returned (.agg #[.int .i64 op,.int .i64 0,.int .i64 0,.int .i64 0,.int .i64 0,.slice none 0 0,.slice none 0 0,.slice none 0 0])∧Hid (Rs q w w' s st):=by
 have hform:Hid (∀w:World,Calls Tryz.prog 83 #[.int .i64 op] w fun e w'=>e=.returned (.int .i64 9)∧w'=w):=fun w=>by
  have:=form_any op w
  rwa [hf.out] at this
 have O0:=Oz.start h op
 have R1:Hid (Rs q w w s st):=Rs.start h
 clear O0 h hin
 go_enter Tryz.func85,Tryz.ntmps85
 go_wp2_with (first|(go_at_call 83;refine (hform.out _).mono ?_;rintro e w' ⟨rfl,rfl⟩))
 refine bodyPost_ret (v:=.agg #[.int .i64 op,.int .i64 0,.int .i64 0,.int .i64 0,.int .i64 0,.slice none 0 0,.slice none 0 0,.slice none 0 0]) (by simp [results,Tryz.results85,go_sem]) rfl ⟨rfl,R1.out.later (La (La (Lz _)))⟩
theorem one_3 (hs:s.size<9223372036854775000) (hin:Rin s st) (op deep:Int) (hf:Hid (fo op=3)) (w:World) (h:w.rowIs q 122 4 (rF s st)) :
    Calls Tryz.prog 85 #[.pointer (some ⟨q,0,none⟩),.int .i64 op,.int .i64 deep] w fun e w'=>e=.returned (.agg #[.int .i64 op,.int .i64 (rnum s st).1,.int .i64 0,.int .i64 0,.int .i64 0,.slice none 0 0,.slice none 0 0,.slice none 0 0])∧Hid (Rs q w w' s (rnum s st).2):=by
 have hform:Hid (∀w:World,Calls Tryz.prog 83 #[.int .i64 op] w fun e w'=>e=.returned (.int .i64 3)∧w'=w):=fun w=>by
  have:=form_any op w
  rwa [hf.out] at this
 have O0:=Oz.start h op
 have hc0:Hid (Calls Tryz.prog 92 #[.pointer (some ⟨q,0,none⟩)] ((w.alloc (.cells #[.int .i64 0,.int .i64 0,.int .i64 0,.int .i64 0,.int .i64 0,.slice none 0 0,.slice none 0 0,.slice none 0 0] 89)).alloc (.cells #[.int .i64 op,.int .i64 0,.int .i64 0,.int .i64 0,.int .i64 0,.slice none 0 0,.slice none 0 0,.slice none 0 0] 89)) fun e' w1=>e'=.returned (.int .i64 (rnum s st).1)∧Hid (Oz q w w1 s (rnum s st).2 (fun j=>[.int .i64 op,.int .i64 0,.int .i64 0,.int .i64 0,.int .i64 0,.slice none 0 0,.slice none 0 0,.slice none 0 0].getD j undef))):=by
  refine (num_rd hs _ O0.row).mono ?_
  rintro e w1 ⟨rfl,R1⟩
  exact⟨rfl,O0.rs R1.out⟩
 clear O0 h hin
 generalize (rnum s st).2=st1 at *
 generalize (rnum s st).1=x1 at *
 go_enter Tryz.func85,Tryz.ntmps85
 go_wp2_with (first|(go_at_call 83;refine (hform.out _).mono ?_;rintro e w' ⟨rfl,rfl⟩)|(go_at_call 92;refine hc0.out.mono ?_;clear hc0;rintro e w1 ⟨rfl,O1⟩;have z0:w1.cell? ⟨w.heap.size+1,0,none⟩=some (.int .i64 op):=Oz.cell O1.out 0 (by decide);have z1:w1.cell? ⟨w.heap.size+1,1,none⟩=some (.int .i64 0):=Oz.cell O1.out 1 (by decide);have z2:w1.cell? ⟨w.heap.size+1,2,none⟩=some (.int .i64 0):=Oz.cell O1.out 2 (by decide);have z3:w1.cell? ⟨w.heap.size+1,3,none⟩=some (.int .i64 0):=Oz.cell O1.out 3 (by decide);have z4:w1.cell? ⟨w.heap.size+1,4,none⟩=some (.int .i64 0):=Oz.cell O1.out 4 (by decide);have z5:w1.cell? ⟨w.heap.size+1,5,none⟩=some (.slice none 0 0):=Oz.cell O1.out 5 (by decide);have z6:w1.cell? ⟨w.heap.size+1,6,none⟩=some (.slice none 0 0):=Oz.cell O1.out 6 (by decide);have z7:w1.cell? ⟨w.heap.size+1,7,none⟩=some (.slice none 0 0):=Oz.cell O1.out 7 (by decide);have zf1:=Oz.frozen O1.out 1;have zf2:=Oz.frozen O1.out 2;have zf3:=Oz.frozen O1.out 3;have zf4:=Oz.frozen O1.out 4;have zf5:=Oz.frozen O1.out 5;have zf6:=Oz.frozen O1.out 6;have zf7:=Oz.frozen O1.out 7;have y0:w1.cell? ⟨w.heap.size,0,none⟩=some (.int .i64 0):=Oz.ry O1.out 0 (by decide);have y1:w1.cell? ⟨w.heap.size,1,none⟩=some (.int .i64 0):=Oz.ry O1.out 1 (by decide);have y2:w1.cell? ⟨w.heap.size,2,none⟩=some (.int .i64 0):=Oz.ry O1.out 2 (by decide);have y3:w1.cell? ⟨w.heap.size,3,none⟩=some (.int .i64 0):=Oz.ry O1.out 3 (by decide);have y4:w1.cell? ⟨w.heap.size,4,none⟩=some (.int .i64 0):=Oz.ry O1.out 4 (by decide);have y5:w1.cell? ⟨w.heap.size,5,none⟩=some (.slice none 0 0):=Oz.ry O1.out 5 (by decide);have y6:w1.cell? ⟨w.heap.size,6,none⟩=some (.slice none 0 0):=Oz.ry O1.out 6 (by decide);have y7:w1.cell? ⟨w.heap.size,7,none⟩=some (.slice none 0 0):=Oz.ry O1.out 7 (by decide);have g0:=Oz.rz O1.out 0;have g1:=Oz.rz O1.out 1;have g2:=Oz.rz O1.out 2;have g3:=Oz.rz O1.out 3;have g4:=Oz.rz O1.out 4;have g5:=Oz.rz O1.out 5;have g6:=Oz.rz O1.out 6;have g7:=Oz.rz O1.out 7;have hp1:=cell_lt z0;have hp0:=cell_lt y0))
 refine bodyPost_ret (v:=.agg #[.int .i64 op,.int .i64 x1,.int .i64 0,.int .i64 0,.int .i64 0,.slice none 0 0,.slice none 0 0,.slice none 0 0]) (by simp [results,Tryz.results85,go_sem,y0,y1,y2,y3,y4,y5,y6,y7,hp0]) rfl ⟨rfl,Oz.done (O1.out.set 1 _) _ _ _ _ _ _ _ _⟩
theorem one_5 (hs:s.size<9223372036854775000) (hin:Rin s st) (op deep:Int) (hf:Hid (fo op=5)) (w:World) (h:w.rowIs q 122 4 (rF s st)) :
    Calls Tryz.prog 85 #[.pointer (some ⟨q,0,none⟩),.int .i64 op,.int .i64 deep] w fun e w'=>e=.returned (.agg #[.int .i64 op,.int .i64 (rnum s st).1,.int .i64 0,.int .i64 0,.int .i64 0,.slice none 0 0,.slice none 0 0,.slice none 0 0])∧Hid (Rs q w w' s (rnought s (rnum s st).2)):=by
 have hform:Hid (∀w:World,Calls Tryz.prog 83 #[.int .i64 op] w fun e w'=>e=.returned (.int .i64 5)∧w'=w):=fun w=>by
  have:=form_any op w
  rwa [hf.out] at this
 have O0:=Oz.start h op
 have hc0:Hid (Calls Tryz.prog 92 #[.pointer (some ⟨q,0,none⟩)] ((w.alloc (.cells #[.int .i64 0,.int .i64 0,.int .i64 0,.int .i64 0,.int .i64 0,.slice none 0 0,.slice none 0 0,.slice none 0 0] 89)).alloc (.cells #[.int .i64 op,.int .i64 0,.int .i64 0,.int .i64 0,.int .i64 0,.slice none 0 0,.slice none 0 0,.slice none 0 0] 89)) fun e' w1=>e'=.returned (.int .i64 (rnum s st).1)∧Hid (Oz q w w1 s (rnum s st).2 (fun j=>[.int .i64 op,.int .i64 0,.int .i64 0,.int .i64 0,.int .i64 0,.slice none 0 0,.slice none 0 0,.slice none 0 0].getD j undef))):=by
  refine (num_rd hs _ O0.row).mono ?_
  rintro e w1 ⟨rfl,R1⟩
  exact⟨rfl,O0.rs R1.out⟩
 have hc1:Hid (∀w1,Oz q w w1 s (rnum s st).2 (fun j=>[.int .i64 op,.int .i64 0,.int .i64 0,.int .i64 0,.int .i64 0,.slice none 0 0,.slice none 0 0,.slice none 0 0].getD j undef)→Calls Tryz.prog 93 #[.pointer (some ⟨q,0,none⟩)] (w1.setCell ⟨w.heap.size+1,1,none⟩ (.int .i64 (rnum s st).1)) fun e' w'=>e'=.returned (.tuple #[])∧Hid (Oz q w w' s (rnought s (rnum s st).2) (fun j=>if j=1 then .int .i64 (rnum s st).1 else (fun j=>[.int .i64 op,.int .i64 0,.int .i64 0,.int .i64 0,.int .i64 0,.slice none 0 0,.slice none 0 0,.slice none 0 0].getD j undef) j))):=fun w1 O=>by
  have O2:=O.set 1 (.int .i64 (rnum s st).1)
  refine (nought_any hs (rnum_in hin) _ O2.row).mono ?_
  rintro e w3 ⟨rfl,R1⟩
  exact⟨rfl,O2.rs R1.out⟩
 clear O0 h hin
 generalize (rnought s (rnum s st).2)=st1 at *
 generalize (rnum s st).2=st2 at *
 generalize (rnum s st).1=x2 at *
 go_enter Tryz.func85,Tryz.ntmps85
 go_wp2_with (first|(go_at_call 83;refine (hform.out _).mono ?_;rintro e w' ⟨rfl,rfl⟩)|(go_at_call 92;refine hc0.out.mono ?_;clear hc0;rintro e w1 ⟨rfl,O1⟩;have z0:w1.cell? ⟨w.heap.size+1,0,none⟩=some (.int .i64 op):=Oz.cell O1.out 0 (by decide);have z1:w1.cell? ⟨w.heap.size+1,1,none⟩=some (.int .i64 0):=Oz.cell O1.out 1 (by decide);have z2:w1.cell? ⟨w.heap.size+1,2,none⟩=some (.int .i64 0):=Oz.cell O1.out 2 (by decide);have z3:w1.cell? ⟨w.heap.size+1,3,none⟩=some (.int .i64 0):=Oz.cell O1.out 3 (by decide);have z4:w1.cell? ⟨w.heap.size+1,4,none⟩=some (.int .i64 0):=Oz.cell O1.out 4 (by decide);have z5:w1.cell? ⟨w.heap.size+1,5,none⟩=some (.slice none 0 0):=Oz.cell O1.out 5 (by decide);have z6:w1.cell? ⟨w.heap.size+1,6,none⟩=some (.slice none 0 0):=Oz.cell O1.out 6 (by decide);have z7:w1.cell? ⟨w.heap.size+1,7,none⟩=some (.slice none 0 0):=Oz.cell O1.out 7 (by decide);have zf1:=Oz.frozen O1.out 1;have zf2:=Oz.frozen O1.out 2;have zf3:=Oz.frozen O1.out 3;have zf4:=Oz.frozen O1.out 4;have zf5:=Oz.frozen O1.out 5;have zf6:=Oz.frozen O1.out 6;have zf7:=Oz.frozen O1.out 7;have y0:w1.cell? ⟨w.heap.size,0,none⟩=some (.int .i64 0):=Oz.ry O1.out 0 (by decide);have y1:w1.cell? ⟨w.heap.size,1,none⟩=some (.int .i64 0):=Oz.ry O1.out 1 (by decide);have y2:w1.cell? ⟨w.heap.size,2,none⟩=some (.int .i64 0):=Oz.ry O1.out 2 (by decide);have y3:w1.cell? ⟨w.heap.size,3,none⟩=some (.int .i64 0):=Oz.ry O1.out 3 (by decide);have y4:w1.cell? ⟨w.heap.size,4,none⟩=some (.int .i64 0):=Oz.ry O1.out 4 (by decide);have y5:w1.cell? ⟨w.heap.size,5,none⟩=some (.slice none 0 0):=Oz.ry O1.out 5 (by decide);have y6:w1.cell? ⟨w.heap.size,6,none⟩=some (.slice none 0 0):=Oz.ry O1.out 6 (by decide);have y7:w1.cell? ⟨w.heap.size,7,none⟩=some (.slice none 0 0):=Oz.ry O1.out 7 (by decide);have g0:=Oz.rz O1.out 0;have g1:=Oz.rz O1.out 1;have g2:=Oz.rz O1.out 2;have g3:=Oz.rz O1.out 3;have g4:=Oz.rz O1.out 4;have g5:=Oz.rz O1.out 5;have g6:=Oz.rz O1.out 6;have g7:=Oz.rz O1.out 7;have hp1:=cell_lt z0;have hp0:=cell_lt y0)|(go_at_call 93;refine (hc1.out _ O1.out).mono ?_;clear hc1;clear z0 z1 z2 z3 z4 z5 z6 z7 zf1 zf2 zf3 zf4 zf5 zf6 zf7 y0 y1 y2 y3 y4 y5 y6 y7 g0 g1 g2 g3 g4 g5 g6 g7 hp1 hp0;rintro e w2 ⟨rfl,O2⟩;have z0:w2.cell? ⟨w.heap.size+1,0,none⟩=some (.int .i64 op):=Oz.cell O2.out 0 (by decide);have z1:w2.cell? ⟨w.heap.size+1,1,none⟩=some (.int .i64 x2):=Oz.cell O2.out 1 (by decide);have z2:w2.cell? ⟨w.heap.size+1,2,none⟩=some (.int .i64 0):=Oz.cell O2.out 2 (by decide);have z3:w2.cell? ⟨w.heap.size+1,3,none⟩=some (.int .i64 0):=Oz.cell O2.out 3 (by decide);have z4:w2.cell? ⟨w.heap.size+1,4,none⟩=some (.int .i64 0):=Oz.cell O2.out 4 (by decide);have z5:w2.cell? ⟨w.heap.size+1,5,none⟩=some (.slice none 0 0):=Oz.cell O2.out 5 (by decide);have z6:w2.cell? ⟨w.heap.size+1,6,none⟩=some (.slice none 0 0):=Oz.cell O2.out 6 (by decide);have z7:w2.cell? ⟨w.heap.size+1,7,none⟩=some (.slice none 0 0):=Oz.cell O2.out 7 (by decide);have zf1:=Oz.frozen O2.out 1;have zf2:=Oz.frozen O2.out 2;have zf3:=Oz.frozen O2.out 3;have zf4:=Oz.frozen O2.out 4;have zf5:=Oz.frozen O2.out 5;have zf6:=Oz.frozen O2.out 6;have zf7:=Oz.frozen O2.out 7;have y0:w2.cell? ⟨w.heap.size,0,none⟩=some (.int .i64 0):=Oz.ry O2.out 0 (by decide);have y1:w2.cell? ⟨w.heap.size,1,none⟩=some (.int .i64 0):=Oz.ry O2.out 1 (by decide);have y2:w2.cell? ⟨w.heap.size,2,none⟩=some (.int .i64 0):=Oz.ry O2.out 2 (by decide);have y3:w2.cell? ⟨w.heap.size,3,none⟩=some (.int .i64 0):=Oz.ry O2.out 3 (by decide);have y4:w2.cell? ⟨w.heap.size,4,none⟩=some (.int .i64 0):=Oz.ry O2.out 4 (by decide);have y5:w2.cell? ⟨w.heap.size,5,none⟩=some (.slice none 0 0):=Oz.ry O2.out 5 (by decide);have y6:w2.cell? ⟨w.heap.size,6,none⟩=some (.slice none 0 0):=Oz.ry O2.out 6 (by decide);have y7:w2.cell? ⟨w.heap.size,7,none⟩=some (.slice none 0 0):=Oz.ry O2.out 7 (by decide);have g0:=Oz.rz O2.out 0;have g1:=Oz.rz O2.out 1;have g2:=Oz.rz O2.out 2;have g3:=Oz.rz O2.out 3;have g4:=Oz.rz O2.out 4;have g5:=Oz.rz O2.out 5;have g6:=Oz.rz O2.out 6;have g7:=Oz.rz O2.out 7;have hp1:=cell_lt z0;have hp0:=cell_lt y0))
 refine bodyPost_ret (v:=.agg #[.int .i64 op,.int .i64 x2,.int .i64 0,.int .i64 0,.int .i64 0,.slice none 0 0,.slice none 0 0,.slice none 0 0]) (by simp [results,Tryz.results85,go_sem,y0,y1,y2,y3,y4,y5,y6,y7,hp0]) rfl ⟨rfl,Oz.done (O2.out) _ _ _ _ _ _ _ _⟩
theorem one_6 (hs:s.size<9223372036854775000) (hin:Rin s st) (op deep:Int) (hf:Hid (fo op=6)) (w:World) (h:w.rowIs q 122 4 (rF s st)) :
    Calls Tryz.prog 85 #[.pointer (some ⟨q,0,none⟩),.int .i64 op,.int .i64 deep] w fun e w'=>e=.returned (.agg #[.int .i64 op,.int .i64 (rnum s st).1,.int .i64 (rnum s (rnum s st).2).1,.int .i64 0,.int .i64 0,.slice none 0 0,.slice none 0 0,.slice none 0 0])∧Hid (Rs q w w' s (rnum s (rnum s st).2).2):=by
 have hform:Hid (∀w:World,Calls Tryz.prog 83 #[.int .i64 op] w fun e w'=>e=.returned (.int .i64 6)∧w'=w):=fun w=>by
  have:=form_any op w
  rwa [hf.out] at this
 have O0:=Oz.start h op
 have hc0:Hid (Calls Tryz.prog 92 #[.pointer (some ⟨q,0,none⟩)] ((w.alloc (.cells #[.int .i64 0,.int .i64 0,.int .i64 0,.int .i64 0,.int .i64 0,.slice none 0 0,.slice none 0 0,.slice none 0 0] 89)).alloc (.cells #[.int .i64 op,.int .i64 0,.int .i64 0,.int .i64 0,.int .i64 0,.slice none 0 0,.slice none 0 0,.slice none 0 0] 89)) fun e' w1=>e'=.returned (.int .i64 (rnum s st).1)∧Hid (Oz q w w1 s (rnum s st).2 (fun j=>[.int .i64 op,.int .i64 0,.int .i64 0,.int .i64 0,.int .i64 0,.slice none 0 0,.slice none 0 0,.slice none 0 0].getD j undef))):=by
  refine (num_rd hs _ O0.row).mono ?_
  rintro e w1 ⟨rfl,R1⟩
  exact⟨rfl,O0.rs R1.out⟩
 have hc1:Hid (∀w1,Oz q w w1 s (rnum s st).2 (fun j=>[.int .i64 op,.int .i64 0,.int .i64 0,.int .i64 0,.int .i64 0,.slice none 0 0,.slice none 0 0,.slice none 0 0].getD j undef)→Calls Tryz.prog 92 #[.pointer (some ⟨q,0,none⟩)] (w1.setCell ⟨w.heap.size+1,1,none⟩ (.int .i64 (rnum s st).1)) fun e' w'=>e'=.returned (.int .i64 (rnum s (rnum s st).2).1)∧Hid (Oz q w w' s (rnum s (rnum s st).2).2 (fun j=>if j=1 then .int .i64 (rnum s st).1 else (fun j=>[.int .i64 op,.int .i64 0,.int .i64 0,.int .i64 0,.int .i64 0,.slice none 0 0,.slice none 0 0,.slice none 0 0].getD j undef) j))):=fun w1 O=>by
  have O2:=O.set 1 (.int .i64 (rnum s st).1)
  refine (num_rd hs _ O2.row).mono ?_
  rintro e w3 ⟨rfl,R1⟩
  exact⟨rfl,O2.rs R1.out⟩
 clear O0 h hin
 generalize (rnum s (rnum s st).2).2=st1 at *
 generalize (rnum s (rnum s st).2).1=x1 at *
 generalize (rnum s st).2=st2 at *
 generalize (rnum s st).1=x2 at *
 go_enter Tryz.func85,Tryz.ntmps85
 go_wp2_with (first|(go_at_call 83;refine (hform.out _).mono ?_;rintro e w' ⟨rfl,rfl⟩)|(go_at_call 92;refine hc0.out.mono ?_;clear hc0;rintro e w1 ⟨rfl,O1⟩;have z0:w1.cell? ⟨w.heap.size+1,0,none⟩=some (.int .i64 op):=Oz.cell O1.out 0 (by decide);have z1:w1.cell? ⟨w.heap.size+1,1,none⟩=some (.int .i64 0):=Oz.cell O1.out 1 (by decide);have z2:w1.cell? ⟨w.heap.size+1,2,none⟩=some (.int .i64 0):=Oz.cell O1.out 2 (by decide);have z3:w1.cell? ⟨w.heap.size+1,3,none⟩=some (.int .i64 0):=Oz.cell O1.out 3 (by decide);have z4:w1.cell? ⟨w.heap.size+1,4,none⟩=some (.int .i64 0):=Oz.cell O1.out 4 (by decide);have z5:w1.cell? ⟨w.heap.size+1,5,none⟩=some (.slice none 0 0):=Oz.cell O1.out 5 (by decide);have z6:w1.cell? ⟨w.heap.size+1,6,none⟩=some (.slice none 0 0):=Oz.cell O1.out 6 (by decide);have z7:w1.cell? ⟨w.heap.size+1,7,none⟩=some (.slice none 0 0):=Oz.cell O1.out 7 (by decide);have zf1:=Oz.frozen O1.out 1;have zf2:=Oz.frozen O1.out 2;have zf3:=Oz.frozen O1.out 3;have zf4:=Oz.frozen O1.out 4;have zf5:=Oz.frozen O1.out 5;have zf6:=Oz.frozen O1.out 6;have zf7:=Oz.frozen O1.out 7;have y0:w1.cell? ⟨w.heap.size,0,none⟩=some (.int .i64 0):=Oz.ry O1.out 0 (by decide);have y1:w1.cell? ⟨w.heap.size,1,none⟩=some (.int .i64 0):=Oz.ry O1.out 1 (by decide);have y2:w1.cell? ⟨w.heap.size,2,none⟩=some (.int .i64 0):=Oz.ry O1.out 2 (by decide);have y3:w1.cell? ⟨w.heap.size,3,none⟩=some (.int .i64 0):=Oz.ry O1.out 3 (by decide);have y4:w1.cell? ⟨w.heap.size,4,none⟩=some (.int .i64 0):=Oz.ry O1.out 4 (by decide);have y5:w1.cell? ⟨w.heap.size,5,none⟩=some (.slice none 0 0):=Oz.ry O1.out 5 (by decide);have y6:w1.cell? ⟨w.heap.size,6,none⟩=some (.slice none 0 0):=Oz.ry O1.out 6 (by decide);have y7:w1.cell? ⟨w.heap.size,7,none⟩=some (.slice none 0 0):=Oz.ry O1.out 7 (by decide);have g0:=Oz.rz O1.out 0;have g1:=Oz.rz O1.out 1;have g2:=Oz.rz O1.out 2;have g3:=Oz.rz O1.out 3;have g4:=Oz.rz O1.out 4;have g5:=Oz.rz O1.out 5;have g6:=Oz.rz O1.out 6;have g7:=Oz.rz O1.out 7;have hp1:=cell_lt z0;have hp0:=cell_lt y0)|(go_at_call 92;refine (hc1.out _ O1.out).mono ?_;clear hc1;clear z0 z1 z2 z3 z4 z5 z6 z7 zf1 zf2 zf3 zf4 zf5 zf6 zf7 y0 y1 y2 y3 y4 y5 y6 y7 g0 g1 g2 g3 g4 g5 g6 g7 hp1 hp0;rintro e w2 ⟨rfl,O2⟩;have z0:w2.cell? ⟨w.heap.size+1,0,none⟩=some (.int .i64 op):=Oz.cell O2.out 0 (by decide);have z1:w2.cell? ⟨w.heap.size+1,1,none⟩=some (.int .i64 x2):=Oz.cell O2.out 1 (by decide);have z2:w2.cell? ⟨w.heap.size+1,2,none⟩=some (.int .i64 0):=Oz.cell O2.out 2 (by decide);have z3:w2.cell? ⟨w.heap.size+1,3,none⟩=some (.int .i64 0):=Oz.cell O2.out 3 (by decide);have z4:w2.cell? ⟨w.heap.size+1,4,none⟩=some (.int .i64 0):=Oz.cell O2.out 4 (by decide);have z5:w2.cell? ⟨w.heap.size+1,5,none⟩=some (.slice none 0 0):=Oz.cell O2.out 5 (by decide);have z6:w2.cell? ⟨w.heap.size+1,6,none⟩=some (.slice none 0 0):=Oz.cell O2.out 6 (by decide);have z7:w2.cell? ⟨w.heap.size+1,7,none⟩=some (.slice none 0 0):=Oz.cell O2.out 7 (by decide);have zf1:=Oz.frozen O2.out 1;have zf2:=Oz.frozen O2.out 2;have zf3:=Oz.frozen O2.out 3;have zf4:=Oz.frozen O2.out 4;have zf5:=Oz.frozen O2.out 5;have zf6:=Oz.frozen O2.out 6;have zf7:=Oz.frozen O2.out 7;have y0:w2.cell? ⟨w.heap.size,0,none⟩=some (.int .i64 0):=Oz.ry O2.out 0 (by decide);have y1:w2.cell? ⟨w.heap.size,1,none⟩=some (.int .i64 0):=Oz.ry O2.out 1 (by decide);have y2:w2.cell? ⟨w.heap.size,2,none⟩=some (.int .i64 0):=Oz.ry O2.out 2 (by decide);have y3:w2.cell? ⟨w.heap.size,3,none⟩=some (.int .i64 0):=Oz.ry O2.out 3 (by decide);have y4:w2.cell? ⟨w.heap.size,4,none⟩=some (.int .i64 0):=Oz.ry O2.out 4 (by decide);have y5:w2.cell? ⟨w.heap.size,5,none⟩=some (.slice none 0 0):=Oz.ry O2.out 5 (by decide);have y6:w2.cell? ⟨w.heap.size,6,none⟩=some (.slice none 0 0):=Oz.ry O2.out 6 (by decide);have y7:w2.cell? ⟨w.heap.size,7,none⟩=some (.slice none 0 0):=Oz.ry O2.out 7 (by decide);have g0:=Oz.rz O2.out 0;have g1:=Oz.rz O2.out 1;have g2:=Oz.rz O2.out 2;have g3:=Oz.rz O2.out 3;have g4:=Oz.rz O2.out 4;have g5:=Oz.rz O2.out 5;have g6:=Oz.rz O2.out 6;have g7:=Oz.rz O2.out 7;have hp1:=cell_lt z0;have hp0:=cell_lt y0))
 refine bodyPost_ret (v:=.agg #[.int .i64 op,.int .i64 x2,.int .i64 x1,.int .i64 0,.int .i64 0,.slice none 0 0,.slice none 0 0,.slice none 0 0]) (by simp [results,Tryz.results85,go_sem,y0,y1,y2,y3,y4,y5,y6,y7,hp0]) rfl ⟨rfl,Oz.done (O2.out.set 2 _) _ _ _ _ _ _ _ _⟩
theorem one_7 (hs:s.size<9223372036854775000) (hin:Rin s st) (op deep:Int) (hf:Hid (fo op=7)) (w:World) (h:w.rowIs q 122 4 (rF s st)) :
    Calls Tryz.prog 85 #[.pointer (some ⟨q,0,none⟩),.int .i64 op,.int .i64 deep] w fun e w'=>e=.returned (.agg #[.int .i64 op,.int .i64 0,.int .i64 0,.int .i64 0,.int .i64 0,.slice none 0 0,.slice none 0 0,.slice none 0 0])∧Hid (Rs q w w' s (rnought s st)):=by
 have hform:Hid (∀w:World,Calls Tryz.prog 83 #[.int .i64 op] w fun e w'=>e=.returned (.int .i64 7)∧w'=w):=fun w=>by
  have:=form_any op w
  rwa [hf.out] at this
 have O0:=Oz.start h op
 have hc0:Hid (Calls Tryz.prog 93 #[.pointer (some ⟨q,0,none⟩)] ((w.alloc (.cells #[.int .i64 0,.int .i64 0,.int .i64 0,.int .i64 0,.int .i64 0,.slice none 0 0,.slice none 0 0,.slice none 0 0] 89)).alloc (.cells #[.int .i64 op,.int .i64 0,.int .i64 0,.int .i64 0,.int .i64 0,.slice none 0 0,.slice none 0 0,.slice none 0 0] 89)) fun e' w1=>e'=.returned (.tuple #[])∧Hid (Oz q w w1 s (rnought s st) (fun j=>[.int .i64 op,.int .i64 0,.int .i64 0,.int .i64 0,.int .i64 0,.slice none 0 0,.slice none 0 0,.slice none 0 0].getD j undef))):=by
  refine (nought_any hs hin _ O0.row).mono ?_
  rintro e w1 ⟨rfl,R1⟩
  exact⟨rfl,O0.rs R1.out⟩
 clear O0 h hin
 generalize (rnought s st)=st1 at *
 go_enter Tryz.func85,Tryz.ntmps85
 go_wp2_with (first|(go_at_call 83;refine (hform.out _).mono ?_;rintro e w' ⟨rfl,rfl⟩)|(go_at_call 93;refine hc0.out.mono ?_;clear hc0;rintro e w1 ⟨rfl,O1⟩;have z0:w1.cell? ⟨w.heap.size+1,0,none⟩=some (.int .i64 op):=Oz.cell O1.out 0 (by decide);have z1:w1.cell? ⟨w.heap.size+1,1,none⟩=some (.int .i64 0):=Oz.cell O1.out 1 (by decide);have z2:w1.cell? ⟨w.heap.size+1,2,none⟩=some (.int .i64 0):=Oz.cell O1.out 2 (by decide);have z3:w1.cell? ⟨w.heap.size+1,3,none⟩=some (.int .i64 0):=Oz.cell O1.out 3 (by decide);have z4:w1.cell? ⟨w.heap.size+1,4,none⟩=some (.int .i64 0):=Oz.cell O1.out 4 (by decide);have z5:w1.cell? ⟨w.heap.size+1,5,none⟩=some (.slice none 0 0):=Oz.cell O1.out 5 (by decide);have z6:w1.cell? ⟨w.heap.size+1,6,none⟩=some (.slice none 0 0):=Oz.cell O1.out 6 (by decide);have z7:w1.cell? ⟨w.heap.size+1,7,none⟩=some (.slice none 0 0):=Oz.cell O1.out 7 (by decide);have zf1:=Oz.frozen O1.out 1;have zf2:=Oz.frozen O1.out 2;have zf3:=Oz.frozen O1.out 3;have zf4:=Oz.frozen O1.out 4;have zf5:=Oz.frozen O1.out 5;have zf6:=Oz.frozen O1.out 6;have zf7:=Oz.frozen O1.out 7;have y0:w1.cell? ⟨w.heap.size,0,none⟩=some (.int .i64 0):=Oz.ry O1.out 0 (by decide);have y1:w1.cell? ⟨w.heap.size,1,none⟩=some (.int .i64 0):=Oz.ry O1.out 1 (by decide);have y2:w1.cell? ⟨w.heap.size,2,none⟩=some (.int .i64 0):=Oz.ry O1.out 2 (by decide);have y3:w1.cell? ⟨w.heap.size,3,none⟩=some (.int .i64 0):=Oz.ry O1.out 3 (by decide);have y4:w1.cell? ⟨w.heap.size,4,none⟩=some (.int .i64 0):=Oz.ry O1.out 4 (by decide);have y5:w1.cell? ⟨w.heap.size,5,none⟩=some (.slice none 0 0):=Oz.ry O1.out 5 (by decide);have y6:w1.cell? ⟨w.heap.size,6,none⟩=some (.slice none 0 0):=Oz.ry O1.out 6 (by decide);have y7:w1.cell? ⟨w.heap.size,7,none⟩=some (.slice none 0 0):=Oz.ry O1.out 7 (by decide);have g0:=Oz.rz O1.out 0;have g1:=Oz.rz O1.out 1;have g2:=Oz.rz O1.out 2;have g3:=Oz.rz O1.out 3;have g4:=Oz.rz O1.out 4;have g5:=Oz.rz O1.out 5;have g6:=Oz.rz O1.out 6;have g7:=Oz.rz O1.out 7;have hp1:=cell_lt z0;have hp0:=cell_lt y0))
 refine bodyPost_ret (v:=.agg #[.int .i64 op,.int .i64 0,.int .i64 0,.int .i64 0,.int .i64 0,.slice none 0 0,.slice none 0 0,.slice none 0 0]) (by simp [results,Tryz.results85,go_sem,y0,y1,y2,y3,y4,y5,y6,y7,hp0]) rfl ⟨rfl,Oz.done (O1.out) _ _ _ _ _ _ _ _⟩
theorem one_8 (hs:s.size<9223372036854775000) (hin:Rin s st) (op deep:Int) (hf:Hid (fo op=8)) (w:World) (h:w.rowIs q 122 4 (rF s st)) :
    Calls Tryz.prog 85 #[.pointer (some ⟨q,0,none⟩),.int .i64 op,.int .i64 deep] w fun e w'=>e=.returned (.agg #[.int .i64 op,.int .i64 0,.int .i64 0,.int .i64 (rlit s op st).1,.int .i64 0,.slice none 0 0,.slice none 0 0,.slice none 0 0])∧Hid (Rs q w w' s (rlit s op st).2):=by
 have hform:Hid (∀w:World,Calls Tryz.prog 83 #[.int .i64 op] w fun e w'=>e=.returned (.int .i64 8)∧w'=w):=fun w=>by
  have:=form_any op w
  rwa [hf.out] at this
 have O0:=Oz.start h op
 have hc0:Hid (Calls Tryz.prog 94 #[.pointer (some ⟨q,0,none⟩),.int .i64 op] ((w.alloc (.cells #[.int .i64 0,.int .i64 0,.int .i64 0,.int .i64 0,.int .i64 0,.slice none 0 0,.slice none 0 0,.slice none 0 0] 89)).alloc (.cells #[.int .i64 op,.int .i64 0,.int .i64 0,.int .i64 0,.int .i64 0,.slice none 0 0,.slice none 0 0,.slice none 0 0] 89)) fun e' w1=>e'=.returned (.int .i64 (rlit s op st).1)∧Hid (Oz q w w1 s (rlit s op st).2 (fun j=>[.int .i64 op,.int .i64 0,.int .i64 0,.int .i64 0,.int .i64 0,.slice none 0 0,.slice none 0 0,.slice none 0 0].getD j undef))):=by
  refine (literal_rd hs hin op _ O0.row).mono ?_
  rintro e w1 ⟨rfl,R1⟩
  exact⟨rfl,O0.rs R1.out⟩
 clear O0 h hin
 generalize (rlit s op st).2=st1 at *
 generalize (rlit s op st).1=x1 at *
 go_enter Tryz.func85,Tryz.ntmps85
 go_wp2_with (first|(go_at_call 83;refine (hform.out _).mono ?_;rintro e w' ⟨rfl,rfl⟩)|(go_at_call 94;refine hc0.out.mono ?_;clear hc0;rintro e w1 ⟨rfl,O1⟩;have z0:w1.cell? ⟨w.heap.size+1,0,none⟩=some (.int .i64 op):=Oz.cell O1.out 0 (by decide);have z1:w1.cell? ⟨w.heap.size+1,1,none⟩=some (.int .i64 0):=Oz.cell O1.out 1 (by decide);have z2:w1.cell? ⟨w.heap.size+1,2,none⟩=some (.int .i64 0):=Oz.cell O1.out 2 (by decide);have z3:w1.cell? ⟨w.heap.size+1,3,none⟩=some (.int .i64 0):=Oz.cell O1.out 3 (by decide);have z4:w1.cell? ⟨w.heap.size+1,4,none⟩=some (.int .i64 0):=Oz.cell O1.out 4 (by decide);have z5:w1.cell? ⟨w.heap.size+1,5,none⟩=some (.slice none 0 0):=Oz.cell O1.out 5 (by decide);have z6:w1.cell? ⟨w.heap.size+1,6,none⟩=some (.slice none 0 0):=Oz.cell O1.out 6 (by decide);have z7:w1.cell? ⟨w.heap.size+1,7,none⟩=some (.slice none 0 0):=Oz.cell O1.out 7 (by decide);have zf1:=Oz.frozen O1.out 1;have zf2:=Oz.frozen O1.out 2;have zf3:=Oz.frozen O1.out 3;have zf4:=Oz.frozen O1.out 4;have zf5:=Oz.frozen O1.out 5;have zf6:=Oz.frozen O1.out 6;have zf7:=Oz.frozen O1.out 7;have y0:w1.cell? ⟨w.heap.size,0,none⟩=some (.int .i64 0):=Oz.ry O1.out 0 (by decide);have y1:w1.cell? ⟨w.heap.size,1,none⟩=some (.int .i64 0):=Oz.ry O1.out 1 (by decide);have y2:w1.cell? ⟨w.heap.size,2,none⟩=some (.int .i64 0):=Oz.ry O1.out 2 (by decide);have y3:w1.cell? ⟨w.heap.size,3,none⟩=some (.int .i64 0):=Oz.ry O1.out 3 (by decide);have y4:w1.cell? ⟨w.heap.size,4,none⟩=some (.int .i64 0):=Oz.ry O1.out 4 (by decide);have y5:w1.cell? ⟨w.heap.size,5,none⟩=some (.slice none 0 0):=Oz.ry O1.out 5 (by decide);have y6:w1.cell? ⟨w.heap.size,6,none⟩=some (.slice none 0 0):=Oz.ry O1.out 6 (by decide);have y7:w1.cell? ⟨w.heap.size,7,none⟩=some (.slice none 0 0):=Oz.ry O1.out 7 (by decide);have g0:=Oz.rz O1.out 0;have g1:=Oz.rz O1.out 1;have g2:=Oz.rz O1.out 2;have g3:=Oz.rz O1.out 3;have g4:=Oz.rz O1.out 4;have g5:=Oz.rz O1.out 5;have g6:=Oz.rz O1.out 6;have g7:=Oz.rz O1.out 7;have hp1:=cell_lt z0;have hp0:=cell_lt y0))
 refine bodyPost_ret (v:=.agg #[.int .i64 op,.int .i64 0,.int .i64 0,.int .i64 x1,.int .i64 0,.slice none 0 0,.slice none 0 0,.slice none 0 0]) (by simp [results,Tryz.results85,go_sem,y0,y1,y2,y3,y4,y5,y6,y7,hp0]) rfl ⟨rfl,Oz.done (O1.out.set 3 _) _ _ _ _ _ _ _ _⟩
