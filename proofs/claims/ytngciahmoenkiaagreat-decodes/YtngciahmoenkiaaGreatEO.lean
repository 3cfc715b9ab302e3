import Derived.Test.YtngciahmoenkiaaGreatXW
import Derived.Test.YtngciahmoenkiaaGreatEL
import Derived.Test.YtngciahmoenkiaaGreatEN
set_option linter.unusedVariables false
set_option linter.unusedSimpArgs false
set_option maxRecDepth 100000
set_option maxHeartbeats 4000000
namespace Go.Proofs.YtngciahmoenkiaaGreat
open Go.RowKit
structure Md where
 ty:List (List Int×List Int)
 im:List (Imp)
 fu:List (Int)
 ta:List (Int×Int)
 me:List (Int×Int)
 gl:List (Int×Bool×Fs)
 ex:List (ByteArray×Int×Int)
 st:Int
 el:List (Fs×List Int)
 co:List (List Int×Fs)
 da:List (Fs×ByteArray)
def mdZ (x:Int):Md:=⟨[],[],[],[],[],[],[],x,[],[],[]⟩
def Fc {α:Type} (f:α→List Fd) (Z:Nat→Prop) (w:World) (xs:List α) (v:Value):Prop:=∃A c,v=.slice A xs.length c∧Rt f Z w A xs
theorem Fc.move {α:Type} {f:α→List Fd} {Z Z':Nat→Prop} {w w':World} {xs:List α} {v:Value} (hf:∀x,0<(f x).length) (hk:∀k,Z k→k<w.heap.size→Z' k∧w'.heap[k]?=w.heap[k]?) (h:Fc f Z w xs v):Fc f Z' w' xs v:=by
 obtain⟨A,c,e,h⟩:=h
 exact⟨A,c,e,h.move hf hk⟩
theorem Fc.nil {α:Type} {f:α→List Fd} {Z:Nat→Prop} {w:World}:Fc f Z w ([]:List α) (.slice none 0 0):=⟨none,0,rfl,Or.inl rfl⟩
def ModC (Z:Nat→Prop) (w:World) (m:Md) (L:List Value):Prop:=∃v0 v1 v2 v3 v4 v5 v6 v8 v9 v10,L=[v0,v1,v2,v3,v4,v5,v6,.int .i64 m.st,v8,v9,v10]∧Fc fTy Z w m.ty v0∧Fc fIm Z w m.im v1∧Fc f1 Z w m.fu v2∧Fc fLi Z w m.ta v3∧Fc fLi Z w m.me v4∧Fc fGl Z w m.gl v5∧Fc fEx Z w m.ex v6∧Fc fEl Z w m.el v8∧Fc fCo Z w m.co v9∧Fc fDa Z w m.da v10
theorem ModC.move {Z Z':Nat→Prop} {w w':World} {m:Md} {L:List Value} (hk:∀k,Z k→k<w.heap.size→Z' k∧w'.heap[k]?=w.heap[k]?) (h:ModC Z w m L):ModC Z' w' m L:=by
 obtain⟨v0,v1,v2,v3,v4,v5,v6,v8,v9,v10,e,h0,h1,h2,h3,h4,h5,h6,h8,h9,h10⟩:=h
 exact⟨v0,v1,v2,v3,v4,v5,v6,v8,v9,v10,e,h0.move (fun _=>Nat.succ_pos _) hk,h1.move (fun _=>Nat.succ_pos _) hk,h2.move (fun _=>Nat.succ_pos _) hk,h3.move (fun _=>Nat.succ_pos _) hk,h4.move (fun _=>Nat.succ_pos _) hk,h5.move (fun _=>Nat.succ_pos _) hk,h6.move (fun _=>Nat.succ_pos _) hk,h8.move (fun _=>Nat.succ_pos _) hk,h9.move (fun _=>Nat.succ_pos _) hk,h10.move (fun _=>Nat.succ_pos _) hk⟩
theorem ModC.zero (Z:Nat→Prop) (w:World) (x:Int):ModC Z w (mdZ x) [.slice none 0 0,.slice none 0 0,.slice none 0 0,.slice none 0 0,.slice none 0 0,.slice none 0 0,.slice none 0 0,.int .i64 x,.slice none 0 0,.slice none 0 0,.slice none 0 0]:=⟨_,_,_,_,_,_,_,_,_,_,rfl,Fc.nil,Fc.nil,Fc.nil,Fc.nil,Fc.nil,Fc.nil,Fc.nil,Fc.nil,Fc.nil,Fc.nil⟩
theorem ModC.len {Z:Nat→Prop} {w:World} {m:Md} {L:List Value} (h:ModC Z w m L):L.length=11:=by
 obtain⟨v0,v1,v2,v3,v4,v5,v6,v8,v9,v10,e,_⟩:=h
 rw [e]
 rfl
def ssec (s:ByteArray) (id:Int) (m:Md):Md×Sst :=
 if id=1 then ({ m with ty:=(stys s ⟨0,0⟩).1 },(stys s ⟨0,0⟩).2) else
 if id=2 then ({ m with im:=(simps s ⟨0,0⟩).1 },(simps s ⟨0,0⟩).2) else
 if id=3 then ({ m with fu:=(sfuncs s ⟨0,0⟩).1 },(sfuncs s ⟨0,0⟩).2) else
 if id=4 then ({ m with ta:=(stabs s ⟨0,0⟩).1 },(stabs s ⟨0,0⟩).2) else
 if id=5 then ({ m with me:=(smems s ⟨0,0⟩).1 },(smems s ⟨0,0⟩).2) else
 if id=6 then ({ m with gl:=(sglos s ⟨0,0⟩).1 },(sglos s ⟨0,0⟩).2) else
 if id=7 then ({ m with ex:=(sexps s ⟨0,0⟩).1 },(sexps s ⟨0,0⟩).2) else
 if id=8 then ({ m with st:=(snum s ⟨0,0⟩).1 },(snum s ⟨0,0⟩).2) else
 if id=9 then ({ m with el:=(selms s ⟨0,0⟩).1 },(selms s ⟨0,0⟩).2) else
 if id=10 then ({ m with co:=(scodes s ⟨0,0⟩).1 },(scodes s ⟨0,0⟩).2) else
 ({ m with da:=(sdats s ⟨0,0⟩).1 },(sdats s ⟨0,0⟩).2)
def Sdm (Z:Nat→Prop) (q p:Nat) (w w':World) (s:ByteArray) (L:List Value) (i:Nat) (r:Md×Sst):Prop:=∃L',Ms q p w w' s r.2 L'∧ModC (fun k=>Z k∨w.heap.size≤k) w' r.1 L'∧∀j,j≠i→L'[j]?=L[j]?
section
variable {Z:Nat→Prop} {q p:Nat} {w w':World} {s:ByteArray} {m:Md} {L:List Value}
theorem ms_keep {st:Sst} {L':List Value} (hZ:∀k,Z k→k≠q∧k≠p) (h:Ms q p w w' s st L'):∀k,Z k→k<w.heap.size→(Z k∨w.heap.size≤k)∧w'.heap[k]?=w.heap[k]?:=fun k hk hl=>⟨Or.inl hk,h.1.block k hl (fun e=>by rcases e with e|e;exact (hZ k hk).1 e;exact (hZ k hk).2 e)⟩
theorem sdm1 (hZ:∀k,Z k→k≠q∧k≠p) (hC:ModC Z w m L) (r:List (List Int×List Int)×Sst) (h:Sd fTy q p 0 w w' s L r):Sdm Z q p w w' s L 0 ({ m with ty:=r.1 },r.2):=by
 obtain⟨A,c,hR,hM⟩:=h
 obtain⟨v0,v1,v2,v3,v4,v5,v6,v8,v9,v10,e,h0,h1,h2,h3,h4,h5,h6,h8,h9,h10⟩:=hC
 have hk:=ms_keep hZ hM
 subst e
 refine⟨_,hM,⟨_,v1,v2,v3,v4,v5,v6,v8,v9,v10,rfl,⟨A,c,rfl,hR.move (fun _=>Nat.succ_pos _) (fun k hk _=>⟨Or.inr hk,rfl⟩)⟩,h1.move (fun _=>Nat.succ_pos _) hk,h2.move (fun _=>Nat.succ_pos _) hk,h3.move (fun _=>Nat.succ_pos _) hk,h4.move (fun _=>Nat.succ_pos _) hk,h5.move (fun _=>Nat.succ_pos _) hk,h6.move (fun _=>Nat.succ_pos _) hk,h8.move (fun _=>Nat.succ_pos _) hk,h9.move (fun _=>Nat.succ_pos _) hk,h10.move (fun _=>Nat.succ_pos _) hk⟩,fun i hi=>?_⟩
 rw [List.getElem?_set,if_neg (fun e=>hi e.symm)]
theorem sdm2 (hZ:∀k,Z k→k≠q∧k≠p) (hC:ModC Z w m L) (r:List (Imp)×Sst) (h:Sd fIm q p 1 w w' s L r):Sdm Z q p w w' s L 1 ({ m with im:=r.1 },r.2):=by
 obtain⟨A,c,hR,hM⟩:=h
 obtain⟨v0,v1,v2,v3,v4,v5,v6,v8,v9,v10,e,h0,h1,h2,h3,h4,h5,h6,h8,h9,h10⟩:=hC
 have hk:=ms_keep hZ hM
 subst e
 refine⟨_,hM,⟨v0,_,v2,v3,v4,v5,v6,v8,v9,v10,rfl,h0.move (fun _=>Nat.succ_pos _) hk,⟨A,c,rfl,hR.move (fun _=>Nat.succ_pos _) (fun k hk _=>⟨Or.inr hk,rfl⟩)⟩,h2.move (fun _=>Nat.succ_pos _) hk,h3.move (fun _=>Nat.succ_pos _) hk,h4.move (fun _=>Nat.succ_pos _) hk,h5.move (fun _=>Nat.succ_pos _) hk,h6.move (fun _=>Nat.succ_pos _) hk,h8.move (fun _=>Nat.succ_pos _) hk,h9.move (fun _=>Nat.succ_pos _) hk,h10.move (fun _=>Nat.succ_pos _) hk⟩,fun i hi=>?_⟩
 rw [List.getElem?_set,if_neg (fun e=>hi e.symm)]
theorem sdm3 (hZ:∀k,Z k→k≠q∧k≠p) (hC:ModC Z w m L) (r:List (Int)×Sst) (h:Sd f1 q p 2 w w' s L r):Sdm Z q p w w' s L 2 ({ m with fu:=r.1 },r.2):=by
 obtain⟨A,c,hR,hM⟩:=h
 obtain⟨v0,v1,v2,v3,v4,v5,v6,v8,v9,v10,e,h0,h1,h2,h3,h4,h5,h6,h8,h9,h10⟩:=hC
 have hk:=ms_keep hZ hM
 subst e
 refine⟨_,hM,⟨v0,v1,_,v3,v4,v5,v6,v8,v9,v10,rfl,h0.move (fun _=>Nat.succ_pos _) hk,h1.move (fun _=>Nat.succ_pos _) hk,⟨A,c,rfl,hR.move (fun _=>Nat.succ_pos _) (fun k hk _=>⟨Or.inr hk,rfl⟩)⟩,h3.move (fun _=>Nat.succ_pos _) hk,h4.move (fun _=>Nat.succ_pos _) hk,h5.move (fun _=>Nat.succ_pos _) hk,h6.move (fun _=>Nat.succ_pos _) hk,h8.move (fun _=>Nat.succ_pos _) hk,h9.move (fun _=>Nat.succ_pos _) hk,h10.move (fun _=>Nat.succ_pos _) hk⟩,fun i hi=>?_⟩
 rw [List.getElem?_set,if_neg (fun e=>hi e.symm)]
theorem sdm4 (hZ:∀k,Z k→k≠q∧k≠p) (hC:ModC Z w m L) (r:List (Int×Int)×Sst) (h:Sd fLi q p 3 w w' s L r):Sdm Z q p w w' s L 3 ({ m with ta:=r.1 },r.2):=by
 obtain⟨A,c,hR,hM⟩:=h
 obtain⟨v0,v1,v2,v3,v4,v5,v6,v8,v9,v10,e,h0,h1,h2,h3,h4,h5,h6,h8,h9,h10⟩:=hC
 have hk:=ms_keep hZ hM
 subst e
 refine⟨_,hM,⟨v0,v1,v2,_,v4,v5,v6,v8,v9,v10,rfl,h0.move (fun _=>Nat.succ_pos _) hk,h1.move (fun _=>Nat.succ_pos _) hk,h2.move (fun _=>Nat.succ_pos _) hk,⟨A,c,rfl,hR.move (fun _=>Nat.succ_pos _) (fun k hk _=>⟨Or.inr hk,rfl⟩)⟩,h4.move (fun _=>Nat.succ_pos _) hk,h5.move (fun _=>Nat.succ_pos _) hk,h6.move (fun _=>Nat.succ_pos _) hk,h8.move (fun _=>Nat.succ_pos _) hk,h9.move (fun _=>Nat.succ_pos _) hk,h10.move (fun _=>Nat.succ_pos _) hk⟩,fun i hi=>?_⟩
 rw [List.getElem?_set,if_neg (fun e=>hi e.symm)]
theorem sdm5 (hZ:∀k,Z k→k≠q∧k≠p) (hC:ModC Z w m L) (r:List (Int×Int)×Sst) (h:Sd fLi q p 4 w w' s L r):Sdm Z q p w w' s L 4 ({ m with me:=r.1 },r.2):=by
 obtain⟨A,c,hR,hM⟩:=h
 obtain⟨v0,v1,v2,v3,v4,v5,v6,v8,v9,v10,e,h0,h1,h2,h3,h4,h5,h6,h8,h9,h10⟩:=hC
 have hk:=ms_keep hZ hM
 subst e
 refine⟨_,hM,⟨v0,v1,v2,v3,_,v5,v6,v8,v9,v10,rfl,h0.move (fun _=>Nat.succ_pos _) hk,h1.move (fun _=>Nat.succ_pos _) hk,h2.move (fun _=>Nat.succ_pos _) hk,h3.move (fun _=>Nat.succ_pos _) hk,⟨A,c,rfl,hR.move (fun _=>Nat.succ_pos _) (fun k hk _=>⟨Or.inr hk,rfl⟩)⟩,h5.move (fun _=>Nat.succ_pos _) hk,h6.move (fun _=>Nat.succ_pos _) hk,h8.move (fun _=>Nat.succ_pos _) hk,h9.move (fun _=>Nat.succ_pos _) hk,h10.move (fun _=>Nat.succ_pos _) hk⟩,fun i hi=>?_⟩
 rw [List.getElem?_set,if_neg (fun e=>hi e.symm)]
theorem sdm6 (hZ:∀k,Z k→k≠q∧k≠p) (hC:ModC Z w m L) (r:List (Int×Bool×Fs)×Sst) (h:Sd fGl q p 5 w w' s L r):Sdm Z q p w w' s L 5 ({ m with gl:=r.1 },r.2):=by
 obtain⟨A,c,hR,hM⟩:=h
 obtain⟨v0,v1,v2,v3,v4,v5,v6,v8,v9,v10,e,h0,h1,h2,h3,h4,h5,h6,h8,h9,h10⟩:=hC
 have hk:=ms_keep hZ hM
 subst e
 refine⟨_,hM,⟨v0,v1,v2,v3,v4,_,v6,v8,v9,v10,rfl,h0.move (fun _=>Nat.succ_pos _) hk,h1.move (fun _=>Nat.succ_pos _) hk,h2.move (fun _=>Nat.succ_pos _) hk,h3.move (fun _=>Nat.succ_pos _) hk,h4.move (fun _=>Nat.succ_pos _) hk,⟨A,c,rfl,hR.move (fun _=>Nat.succ_pos _) (fun k hk _=>⟨Or.inr hk,rfl⟩)⟩,h6.move (fun _=>Nat.succ_pos _) hk,h8.move (fun _=>Nat.succ_pos _) hk,h9.move (fun _=>Nat.succ_pos _) hk,h10.move (fun _=>Nat.succ_pos _) hk⟩,fun i hi=>?_⟩
 rw [List.getElem?_set,if_neg (fun e=>hi e.symm)]
theorem sdm7 (hZ:∀k,Z k→k≠q∧k≠p) (hC:ModC Z w m L) (r:List (ByteArray×Int×Int)×Sst) (h:Sd fEx q p 6 w w' s L r):Sdm Z q p w w' s L 6 ({ m with ex:=r.1 },r.2):=by
 obtain⟨A,c,hR,hM⟩:=h
 obtain⟨v0,v1,v2,v3,v4,v5,v6,v8,v9,v10,e,h0,h1,h2,h3,h4,h5,h6,h8,h9,h10⟩:=hC
 have hk:=ms_keep hZ hM
 subst e
 refine⟨_,hM,⟨v0,v1,v2,v3,v4,v5,_,v8,v9,v10,rfl,h0.move (fun _=>Nat.succ_pos _) hk,h1.move (fun _=>Nat.succ_pos _) hk,h2.move (fun _=>Nat.succ_pos _) hk,h3.move (fun _=>Nat.succ_pos _) hk,h4.move (fun _=>Nat.succ_pos _) hk,h5.move (fun _=>Nat.succ_pos _) hk,⟨A,c,rfl,hR.move (fun _=>Nat.succ_pos _) (fun k hk _=>⟨Or.inr hk,rfl⟩)⟩,h8.move (fun _=>Nat.succ_pos _) hk,h9.move (fun _=>Nat.succ_pos _) hk,h10.move (fun _=>Nat.succ_pos _) hk⟩,fun i hi=>?_⟩
 rw [List.getElem?_set,if_neg (fun e=>hi e.symm)]
theorem sdm9 (hZ:∀k,Z k→k≠q∧k≠p) (hC:ModC Z w m L) (r:List (Fs×List Int)×Sst) (h:Sd fEl q p 8 w w' s L r):Sdm Z q p w w' s L 8 ({ m with el:=r.1 },r.2):=by
 obtain⟨A,c,hR,hM⟩:=h
 obtain⟨v0,v1,v2,v3,v4,v5,v6,v8,v9,v10,e,h0,h1,h2,h3,h4,h5,h6,h8,h9,h10⟩:=hC
 have hk:=ms_keep hZ hM
 subst e
 refine⟨_,hM,⟨v0,v1,v2,v3,v4,v5,v6,_,v9,v10,rfl,h0.move (fun _=>Nat.succ_pos _) hk,h1.move (fun _=>Nat.succ_pos _) hk,h2.move (fun _=>Nat.succ_pos _) hk,h3.move (fun _=>Nat.succ_pos _) hk,h4.move (fun _=>Nat.succ_pos _) hk,h5.move (fun _=>Nat.succ_pos _) hk,h6.move (fun _=>Nat.succ_pos _) hk,⟨A,c,rfl,hR.move (fun _=>Nat.succ_pos _) (fun k hk _=>⟨Or.inr hk,rfl⟩)⟩,h9.move (fun _=>Nat.succ_pos _) hk,h10.move (fun _=>Nat.succ_pos _) hk⟩,fun i hi=>?_⟩
 rw [List.getElem?_set,if_neg (fun e=>hi e.symm)]
theorem sdm10 (hZ:∀k,Z k→k≠q∧k≠p) (hC:ModC Z w m L) (r:List (List Int×Fs)×Sst) (h:Sd fCo q p 9 w w' s L r):Sdm Z q p w w' s L 9 ({ m with co:=r.1 },r.2):=by
 obtain⟨A,c,hR,hM⟩:=h
 obtain⟨v0,v1,v2,v3,v4,v5,v6,v8,v9,v10,e,h0,h1,h2,h3,h4,h5,h6,h8,h9,h10⟩:=hC
 have hk:=ms_keep hZ hM
 subst e
 refine⟨_,hM,⟨v0,v1,v2,v3,v4,v5,v6,v8,_,v10,rfl,h0.move (fun _=>Nat.succ_pos _) hk,h1.move (fun _=>Nat.succ_pos _) hk,h2.move (fun _=>Nat.succ_pos _) hk,h3.move (fun _=>Nat.succ_pos _) hk,h4.move (fun _=>Nat.succ_pos _) hk,h5.move (fun _=>Nat.succ_pos _) hk,h6.move (fun _=>Nat.succ_pos _) hk,h8.move (fun _=>Nat.succ_pos _) hk,⟨A,c,rfl,hR.move (fun _=>Nat.succ_pos _) (fun k hk _=>⟨Or.inr hk,rfl⟩)⟩,h10.move (fun _=>Nat.succ_pos _) hk⟩,fun i hi=>?_⟩
 rw [List.getElem?_set,if_neg (fun e=>hi e.symm)]
theorem sdm11 (hZ:∀k,Z k→k≠q∧k≠p) (hC:ModC Z w m L) (r:List (Fs×ByteArray)×Sst) (h:Sd fDa q p 10 w w' s L r):Sdm Z q p w w' s L 10 ({ m with da:=r.1 },r.2):=by
 obtain⟨A,c,hR,hM⟩:=h
 obtain⟨v0,v1,v2,v3,v4,v5,v6,v8,v9,v10,e,h0,h1,h2,h3,h4,h5,h6,h8,h9,h10⟩:=hC
 have hk:=ms_keep hZ hM
 subst e
 refine⟨_,hM,⟨v0,v1,v2,v3,v4,v5,v6,v8,v9,_,rfl,h0.move (fun _=>Nat.succ_pos _) hk,h1.move (fun _=>Nat.succ_pos _) hk,h2.move (fun _=>Nat.succ_pos _) hk,h3.move (fun _=>Nat.succ_pos _) hk,h4.move (fun _=>Nat.succ_pos _) hk,h5.move (fun _=>Nat.succ_pos _) hk,h6.move (fun _=>Nat.succ_pos _) hk,h8.move (fun _=>Nat.succ_pos _) hk,h9.move (fun _=>Nat.succ_pos _) hk,⟨A,c,rfl,hR.move (fun _=>Nat.succ_pos _) (fun k hk _=>⟨Or.inr hk,rfl⟩)⟩⟩,fun i hi=>?_⟩
 rw [List.getElem?_set,if_neg (fun e=>hi e.symm)]
theorem sdm8 (hZ:∀k,Z k→k≠q∧k≠p) (hC:ModC Z w m L) (x:Int) (st:Sst) (hM:Ms q p w w' s st (L.set 7 (.int .i64 x))):Sdm Z q p w w' s L 7 ({ m with st:=x },st):=by
 obtain⟨v0,v1,v2,v3,v4,v5,v6,v8,v9,v10,e,h0,h1,h2,h3,h4,h5,h6,h8,h9,h10⟩:=hC
 have hk:=ms_keep hZ hM
 subst e
 refine⟨_,hM,⟨v0,v1,v2,v3,v4,v5,v6,v8,v9,v10,rfl,h0.move (fun _=>Nat.succ_pos _) hk,h1.move (fun _=>Nat.succ_pos _) hk,h2.move (fun _=>Nat.succ_pos _) hk,h3.move (fun _=>Nat.succ_pos _) hk,h4.move (fun _=>Nat.succ_pos _) hk,h5.move (fun _=>Nat.succ_pos _) hk,h6.move (fun _=>Nat.succ_pos _) hk,h8.move (fun _=>Nat.succ_pos _) hk,h9.move (fun _=>Nat.succ_pos _) hk,h10.move (fun _=>Nat.succ_pos _) hk⟩,fun i hi=>?_⟩
 rw [List.getElem?_set,if_neg (fun e=>hi e.symm)]
theorem sfirst_all (hs:s.size<9223372036854775000) (hp:p<w.heap.size) (hpq:p≠q) (hZ:∀k,Z k→k≠q∧k≠p) (hC:ModC Z w m L) (id:Nat) (hid:1≤id∧id≤5) (hj:id≠8→L[id - 1]?=some (.slice none 0 0)) (h:w.rowIs q 48 3 (sF s ⟨0,0⟩)) (hR:Rl w p 32 L) :
    Calls Tryz.prog 14 #[.pointer (some ⟨q,0,none⟩),.int .i64 (id:Int),.pointer (some ⟨p,0,none⟩)] w fun e' w'=>e'=.returned (.tuple #[])∧Hid (Sdm Z q p w w' s L (id - 1) (ssec s (id:Int) m)):=by
 have hin:Sin s ⟨0,0⟩:=⟨Int.le_refl _,by show (0:Int)≤s.size;omega⟩
 have hl:=hC.len
 have hc:id=1∨id=2∨id=3∨id=4∨id=5:=by omega
 rcases hc with rfl|rfl|rfl|rfl|rfl
 · refine (sfirst1 hs hin hp hpq hl (hj (by decide)) h hR).mono ?_
   rintro e w' ⟨rfl,hS⟩
   exact⟨rfl,sdm1 hZ hC _ hS.out⟩
 · refine (sfirst2 hs hin hp hpq hl (hj (by decide)) h hR).mono ?_
   rintro e w' ⟨rfl,hS⟩
   exact⟨rfl,sdm2 hZ hC _ hS.out⟩
 · refine (sfirst3 hs hin hp hpq hl (hj (by decide)) h hR).mono ?_
   rintro e w' ⟨rfl,hS⟩
   exact⟨rfl,sdm3 hZ hC _ hS.out⟩
 · refine (sfirst4 hs hin hp hpq hl (hj (by decide)) h hR).mono ?_
   rintro e w' ⟨rfl,hS⟩
   exact⟨rfl,sdm4 hZ hC _ hS.out⟩
 · refine (sfirst5 hs hin hp hpq hl (hj (by decide)) h hR).mono ?_
   rintro e w' ⟨rfl,hS⟩
   exact⟨rfl,sdm5 hZ hC _ hS.out⟩
theorem slast_all (hs:s.size<9223372036854775000) (hp:p<w.heap.size) (hpq:p≠q) (hZ:∀k,Z k→k≠q∧k≠p) (hC:ModC Z w m L) (id:Nat) (hid:6≤id∧id≤11) (hj:id≠8→L[id - 1]?=some (.slice none 0 0)) (h:w.rowIs q 48 3 (sF s ⟨0,0⟩)) (hR:Rl w p 32 L) :
    Calls Tryz.prog 15 #[.pointer (some ⟨q,0,none⟩),.int .i64 (id:Int),.pointer (some ⟨p,0,none⟩)] w fun e' w'=>e'=.returned (.tuple #[])∧Hid (Sdm Z q p w w' s L (id - 1) (ssec s (id:Int) m)):=by
 have hin:Sin s ⟨0,0⟩:=⟨Int.le_refl _,by show (0:Int)≤s.size;omega⟩
 have hl:=hC.len
 have hc:id=6∨id=7∨id=8∨id=9∨id=10∨id=11:=by omega
 rcases hc with rfl|rfl|rfl|rfl|rfl|rfl
 · refine (slast6 hs hin hp hpq hl (hj (by decide)) h hR).mono ?_
   rintro e w' ⟨rfl,hS⟩
   exact⟨rfl,sdm6 hZ hC _ hS.out⟩
 · refine (slast7 hs hin hp hpq hl (hj (by decide)) h hR).mono ?_
   rintro e w' ⟨rfl,hS⟩
   exact⟨rfl,sdm7 hZ hC _ hS.out⟩
 · obtain⟨x0,hx0⟩:∃x0,L[7]?=some x0:=⟨_,List.getElem?_eq_getElem (by omega)⟩
   refine (slast8 hs hp hpq x0 hx0 h hR).mono ?_
   rintro e w' ⟨rfl,hM⟩
   exact⟨rfl,sdm8 hZ hC _ _ hM.out⟩
 · refine (slast9 hs hin hp hpq hl (hj (by decide)) h hR).mono ?_
   rintro e w' ⟨rfl,hS⟩
   exact⟨rfl,sdm9 hZ hC _ hS.out⟩
 · refine (slast10 hs hin hp hpq hl (hj (by decide)) h hR).mono ?_
   rintro e w' ⟨rfl,hS⟩
   exact⟨rfl,sdm10 hZ hC _ hS.out⟩
 · refine (slast11 hs hin hp hpq hl (hj (by decide)) h hR).mono ?_
   rintro e w' ⟨rfl,hS⟩
   exact⟨rfl,sdm11 hZ hC _ hS.out⟩
end
