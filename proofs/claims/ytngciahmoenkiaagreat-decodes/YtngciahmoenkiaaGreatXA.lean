import Derived.WalkKit
import Derived.RowKit3
import Derived.Laws.NewBlocks
import Derived.Deep.Draws
import Derived.Deep.QuietTactic
import Derived.BigQuiet
import Derived.Deep.RegionWith
import Derived.Deep.OwnRows
import Derived.OwnWalk
import Derived.Laws.CopyOwn
import Derived.Lib.BufferWrite
import Derived.Laws.IdiomStrings
import Derived.Laws.AppendOwn
import Derived.Laws.OwnMore
import Derived.Test.YtngciahmoenkiaaGreatRows
import Derived.ProofKit
import Derived.LoopN
import Derived.LoopTactic
import Derived.Deep.RegionLaw
import Derived.Deep.RegionHeldLaw
import Derived.Laws.BitsAllLaws
import Derived.Laws.BitsLemmas
import Derived.Lib.BitFns
import Derived.Lib.TrailingZeros
namespace Go
open Go.RowKit
abbrev FarBs:Type:=Array Obj
def World.far (w:World) (bs:Array Obj) (n:Nat):World:={ w with heap:=w.heap++bs,drawn:=w.drawn+n }
variable (w:World) (bs cs:Array Obj) (n m k i:Nat) (v:Value)
theorem World.far_size:(w.far bs n).heap.size=w.heap.size+bs.size:=by simp [World.far]
theorem World.far_block (h:k<w.heap.size):(w.far bs n).heap[k]?=w.heap[k]?:=by
 simp only [World.far];exact Array.getElem?_append_left h
theorem World.cell?_far (h:k<w.heap.size):(w.far bs n).cell? ⟨k,i,none⟩=w.cell? ⟨k,i,none⟩:=by
 simp only [World.cell?];rw [World.far_block w bs n k h]
theorem World.frozen?_far (h:k<w.heap.size):(w.far bs n).frozen? ⟨k,i,none⟩=w.frozen? ⟨k,i,none⟩:=by
 simp only [World.frozen?];rw [World.far_block w bs n k h]
theorem World.shape?_far (h:k<w.heap.size):(w.far bs n).shape? k=w.shape? k:=by
 simp only [World.shape?];rw [World.far_block w bs n k h]
theorem World.setCell_far (h:k<w.heap.size):(w.far bs n).setCell ⟨k,i,none⟩ v=(w.setCell ⟨k,i,none⟩ v).far bs n:=by
 unfold World.setCell World.far
 congr 1
 apply Array.ext_getElem?
 intro j
 simp only [Array.getElem?_modify]
 rcases Nat.lt_or_ge j w.heap.size with hj|hj
 · rw [Array.getElem?_append_left hj,Array.getElem?_append_left (by simpa using hj),Array.getElem?_modify]
 · rw [Array.getElem?_append_right hj,Array.getElem?_append_right (by simpa using hj)]
   have:¬k=j:=by omega
   simp [this]
theorem World.far_far:(w.far bs n).far cs m=w.far (bs++cs) (n+m):=by
 simp [World.far,Array.append_assoc,Nat.add_assoc]
theorem World.drew_far:(w.far bs n).drew=w.far bs (n+1):=rfl
theorem World.drewN_far:(w.far bs n).drewN m=w.far bs (n+m):=by
 simp [World.far,World.drewN,Nat.add_assoc]
theorem World.lt_one (h:k<w.heap.size):k<w.heap.size+1:=by omega
theorem World.lt_two (h:k<w.heap.size):k<w.heap.size+1+1:=by omega
theorem World.lt_far (h:k<w.heap.size):k<(w.far bs n).heap.size:=by rw [World.far_size];omega
theorem i64_id (x:Int) (h:-9223372036854775808≤x) (h':x≤9223372036854775807):IntKind.i64.wrap x=x:=by rw [IntKind.wrap_i64];omega
theorem u64_id (x:Int) (h:0≤x) (h':x≤18446744073709551615):IntKind.u64.wrap x=x:=by rw [IntKind.wrap_u64];omega
attribute [go_sem] i64_id u64_id
attribute [go_sem] World.cell?_far World.frozen?_far World.shape?_far World.setCell_far World.far_far World.drew_far World.drewN_far World.lt_far World.lt_one World.lt_two
def Later (w w':World):Prop:=∃bs n,w'=w.far bs n
variable {w}
theorem Later.refl (w:World):Later w w:=⟨#[],0,by simp [World.far]⟩
theorem Later.alloc {w w':World} {c:Array Value} {t:TypeId} (h:Later w w'):Later w (w'.alloc (.cells c t)):=by
 obtain⟨bs,n,rfl⟩:=h
 exact⟨bs.push (.cells c t),n,by simp [World.far,World.alloc]⟩
theorem Later.far {w w':World} {bs:Array Obj} {n:Nat} (h:Later w w'):Later w (w'.far bs n):=by
 obtain⟨cs,m,rfl⟩:=h
 exact⟨_,_,World.far_far _ _ _ _ _⟩
theorem Later.drew {w w':World} (h:Later w w'):Later w w'.drew:=by
 obtain⟨cs,m,rfl⟩:=h
 exact⟨_,_,World.drew_far _ _ _⟩
theorem Later.drewN {w w':World} {n:Nat} (h:Later w w'):Later w (w'.drewN n):=by
 obtain⟨cs,m,rfl⟩:=h
 exact⟨_,_,World.drewN_far _ _ _ _⟩
theorem Later.trans {a b c:World} (h:Later a b) (h':Later b c):Later a c:=by
 obtain⟨cs,m,rfl⟩:=h'
 exact h.far
theorem Later.turn {w w':World} (h:Later w w') {g:Nat} {cur cs:Array Value} {t:TypeId} (hg:w.heap.size≤g) (hb:w'.heap[g]?=some (.cells cur t (0,0))) (w2:World)
    (h2:w2={ w' with heap:=w2.heap }) (hs:w2.heap.size=w'.heap.size) (hk:w2.heap[g]?=some (.cells cs t (0,0))) (ho:∀k,k≠g→w2.heap[k]?=w'.heap[k]?):Later w w2:=by
 obtain⟨bs,n,rfl⟩:=h
 have hlt:g<(w.far bs n).heap.size:=(Array.getElem?_eq_some_iff.1 hb).1
 rw [World.far_size] at hlt
 refine⟨bs.set (g - w.heap.size) (.cells cs t) (by omega),n,?_⟩
 rw [h2]
 unfold World.far
 congr 1
 apply Array.ext_getElem?
 intro k
 rcases Nat.lt_or_ge k w.heap.size with hkk|hkk
 · rw [ho k (by omega),World.far_block w bs n k hkk,Array.getElem?_append_left hkk]
 · rw [Array.getElem?_append_right hkk,Array.getElem?_set]
   by_cases he:k=g
   · subst he
     rw [hk,if_pos rfl]
   · rw [ho k he,if_neg (by omega)]
     show (w.heap++bs)[k]?=_
     rw [Array.getElem?_append_right hkk]
theorem Later.put {w w':World} {o:Obj} (h:Later w w'):Later w (w'.alloc o):=by
 obtain⟨bs,n,rfl⟩:=h
 exact⟨bs.push o,n,by simp [World.far,World.alloc]⟩
abbrev FarBy:Type:=PProd (Array Obj) Nat
theorem wp_region_quiet_far {P:Program} {id:Nat} {Q:Exit→Act→World→Prop} {a:Act} {w:World} {l:List Oper} (hm:P.follows .mixedOrders=true) (hB:Region.lexB .any l.toArray=true)
    (h:wpQuiet P l.toArray (fun w'=>∃p:FarBy,w'=w.far p.1 p.2) (fun a'=>∀w',(∃p:FarBy,w'=w.far p.1 p.2)→Q .normal a' w') l a):(Code.region id l.toArray true).wp P Q a w :=
 wp_region_quiet (C:=fun w'=>∃p:FarBy,w'=w.far p.1 p.2) hm hB ⟨⟨#[],1⟩,by simp [World.far]⟩ (by simpa using h)
theorem Calls.far_of {P:Program} {f:FuncId} {args:Array Value} {w:World} {n:Nat} {bs:Array Obj} {v:Value}
    (h:Calls P f args (w.far bs n) fun e w'=>e=.returned v∧Later (w.far bs n) w'):Calls P f args (w.far bs n) fun e w''=>e=.returned v∧∃p:FarBy,w''=w.far p.1 p.2 :=
 h.mono fun _ _ ⟨he,cs,m,hq⟩=>⟨he,⟨bs++cs,n+m⟩,by rw [hq,World.far_far]⟩
end Go
set_option linter.unusedVariables false
namespace Go
open Go.RowKit
theorem Later.size {w w':World} (h:Later w w'):w.heap.size≤w'.heap.size:=by obtain⟨bs,n,rfl⟩:=h;rw [World.far_size];omega
theorem Later.block {w w':World} (h:Later w w') {k:Nat} (hk:k<w.heap.size):w'.heap[k]?=w.heap[k]?:=by obtain⟨bs,n,rfl⟩:=h;exact World.far_block w bs n k hk
theorem Later.cell {w w':World} (h:Later w w') {k i:Nat} (hk:k<w.heap.size):w'.cell? ⟨k,i,none⟩=w.cell? ⟨k,i,none⟩:=by obtain⟨bs,n,rfl⟩:=h;exact World.cell?_far w bs n k i hk
theorem cell_lt {w:World} {k i:Nat} {v:Value} (h:w.cell? ⟨k,i,none⟩=some v):k<w.heap.size:=World.block_lt_of_cell? w ⟨k,i,none⟩ h
theorem Later.cell_of {w w':World} (h:Later w w') {k i:Nat} {v:Value} (hc:w.cell? ⟨k,i,none⟩=some v):w'.cell? ⟨k,i,none⟩=some v:=(h.cell (cell_lt hc)).trans hc
theorem later_of {w w':World} (h:Hid (Later w w')):Later w w':=h
theorem Lz (w:World):Later w w:=Later.refl w
theorem La {w w':World} {c:Array Value} {t:TypeId} (h:Later w w'):Later w (w'.alloc (.cells c t)):=h.alloc
theorem Lv {w w':World} {bs:FarBs} {n:Nat} (h:Later w w'):Later w (w'.far bs n):=h.far
theorem Ld {w w':World} (h:Later w w'):Later w w'.drew:=h.drew
theorem Ln {w w':World} {n:Nat} (h:Later w w'):Later w (w'.drewN n):=h.drewN
theorem rowIs_later {w w':World} (h:Later w w') {b:Nat} {t:TypeId} {n:Nat} {f:Nat→Value} (hr:w.rowIs b t n f):w'.rowIs b t n f:=hr.of_block (h.block hr.lt)
def Turned (k:Nat) (w w':World):Prop:=∃cs bs n,w'=(w.setRow k cs).far bs n
theorem Turned.size {k:Nat} {w w':World} (h:Turned k w w'):w.heap.size≤w'.heap.size:=by
 obtain⟨cs,bs,n,rfl⟩:=h
 rw [World.far_size];simp [World.setRow]
theorem Turned.block {k:Nat} {w w':World} (h:Turned k w w') {j:Nat} (hj:j≠k) (hl:j<w.heap.size):w'.heap[j]?=w.heap[j]?:=by
 obtain⟨cs,bs,n,rfl⟩:=h
 rw [World.far_block _ _ _ _ (by simpa [World.setRow] using hl)]
 exact setRow_other w k j cs hj
theorem Turned.row {k:Nat} {w w':World} (h:Turned k w w') {b:Nat} {t:TypeId} {n:Nat} {f:Nat→Value} (hr:w.rowIs b t n f) (hb:b≠k):w'.rowIs b t n f:=hr.of_block (h.block hb hr.lt)
theorem Turned.later {k:Nat} {w w':World} (h:Turned k w w'):∀{w'':World},Later w' w''→Turned k w w'':=by
 obtain⟨cs,bs,n,rfl⟩:=h
 rintro w'' ⟨ds,m,rfl⟩
 exact⟨cs,bs++ds,n+m,World.far_far _ _ _ _ _⟩
theorem Later.setRow {w w':World} (h:Later w w') {g:Nat} {cur:Array Value} {t:TypeId} (cs:Array Value) (hg:w.heap.size≤g) (hb:w'.heap[g]?=some (.cells cur t (0,0))):Later w (w'.setRow g cs) :=
 h.turn hg hb _ rfl (by simp [World.setRow]) (setRow_heap w' g cur cs t (0,0) hb) (fun k hk=>setRow_other w' g k cs hk)
theorem Later.turned {W w w':World} (h:Later W w) {k:Nat} {t:TypeId} {n:Nat} {f:Nat→Value} (hr:w.rowIs k t n f) (hk:W.heap.size≤k) (ht:Turned k w w'):Later W w':=by
 obtain⟨cs,bs,n,rfl⟩:=ht
 obtain⟨c,hc,_,_⟩:=hr
 exact (h.setRow cs hk hc).far
theorem setCell_setRow {w:World} {g i:Nat} {cur:Array Value} {t:TypeId} (hg:w.heap[g]?=some (.cells cur t (0,0))) (v:Value):w.setCell ⟨g,i,none⟩ v=w.setRow g (cur.setIfInBounds i v):=by
 have hlt:g<w.heap.size:=(Array.getElem?_eq_some_iff.1 hg).1
 have hv:w.heap[g]=.cells cur t (0,0):=(Array.getElem?_eq_some_iff.1 hg).2
 unfold World.setCell World.setRow
 congr 1
 apply Array.ext
 · simp
 · intro k h1 h2
   simp only [Array.getElem_modify]
   split
   · rename_i hk;subst hk;simp [hv]
   · rfl
theorem setRow_far {w:World} {g:Nat} {bs:FarBs} {n:Nat} (cs:Array Value) (hg:g<w.heap.size):(w.far bs n).setRow g cs=(w.setRow g cs).far bs n:=by
 unfold World.setRow World.far
 congr 1
 apply Array.ext_getElem?
 intro j
 simp only [Array.getElem?_modify]
 rcases Nat.lt_or_ge j w.heap.size with hj|hj
 · rw [Array.getElem?_append_left hj,Array.getElem?_append_left (by simpa using hj),Array.getElem?_modify]
 · rw [Array.getElem?_append_right hj,Array.getElem?_append_right (by simpa using hj)]
   have:¬g=j:=by omega
   simp [this]
theorem Turned.set {k:Nat} {w w':World} {t:TypeId} {n:Nat} {f:Nat→Value} (h:Turned k w w') (hr:w.rowIs k t n f) (i:Nat) (v:Value):Turned k w (w'.setCell ⟨k,i,none⟩ v):=by
 obtain⟨cs,bs,m,rfl⟩:=h
 obtain⟨c,hc,_,_⟩:=hr
 have hl:k<w.heap.size:=(Array.getElem?_eq_some_iff.1 hc).1
 refine⟨cs.setIfInBounds i v,bs,m,?_⟩
 rw [World.setCell_far _ _ _ _ _ _ (by simpa [World.setRow] using hl),setCell_setRow (setRow_heap w k c cs t (0,0) hc),setRow_setRow]
theorem Turned.refl {k:Nat} {w:World} {t:TypeId} {n:Nat} {f:Nat→Value} (hr:w.rowIs k t n f):Turned k w w:=by
 obtain⟨c,hc,_,_⟩:=hr
 exact⟨c,#[],0,by rw [setRow_self w k c t (0,0) hc];simp [World.far]⟩
theorem Turned.setRow {k:Nat} {w w':World} {t:TypeId} {n:Nat} {f:Nat→Value} (h:Turned k w w') (hr:w.rowIs k t n f) (ds:Array Value):Turned k w (w'.setRow k ds):=by
 obtain⟨cs,bs,m,rfl⟩:=h
 obtain⟨c,hc,_,_⟩:=hr
 have hl:k<w.heap.size:=(Array.getElem?_eq_some_iff.1 hc).1
 refine⟨ds,bs,m,?_⟩
 rw [setRow_far _ (by simpa [World.setRow] using hl),setRow_setRow]
theorem Turned.of_later {k:Nat} {w w':World} {t:TypeId} {n:Nat} {f:Nat→Value} (hr:w.rowIs k t n f) (h:Later w w'):Turned k w w':=(Turned.refl hr).later h
theorem Turned.trans {k:Nat} {w w' w'':World} {t:TypeId} {n:Nat} {f:Nat→Value} (hr:w.rowIs k t n f) (h:Turned k w w') (h2:Turned k w' w''):Turned k w w'':=by
 obtain⟨cs,bs,m,rfl⟩:=h2
 exact (h.setRow hr cs).later ⟨bs,m,rfl⟩
end Go
namespace Go
open Go.RowKit
theorem Later.setCell {w w':World} (h:Later w w') {g i:Nat} {cur:Array Value} {t:TypeId} (v:Value) (hg:w.heap.size≤g) (hb:w'.heap[g]?=some (.cells cur t (0,0))):Later w (w'.setCell ⟨g,i,none⟩ v):=by
 refine h.turn (cs:=cur.setIfInBounds i v) hg hb _ rfl (by simp [World.setCell]) ?_ (fun k hk=>?_)
 · simp only [World.setCell,Array.getElem?_modify,if_true,hb,Option.map_some]
   simp
 · simp only [World.setCell,Array.getElem?_modify]
   rw [if_neg (fun e=>hk e.symm)]
section
variable {P:Program}
theorem run_append_later {W w:World} (hL:Later W w) (t ty e:TypeId) (i:TypeInfo) (z:Value) (size bytes:Nat) (ht:P.underlying t=some (.slice e)) (hi:P.info? e=some i) (hz:i.zero=some z)
    (hsize:i.size=size) (hby:i.bytes=bytes) (hzs:z.cells.size=size) (hsz:0<size)
    (v:Value) (n:Nat) (xs:List Value) (hown:w.ownsRow W.heap.size e size v n xs)
    (a:Addr) (m c:Nat) (news:List Value) (hl:news.length=m*size) (hnews:∀j u,news[j]?=some u→w.cell? (a.add j)=some u) (h1:∀u∈news,u.oneCell'=true)
    (h63:n+m≤maxLen) (hbytes:(n+m)*bytes≤140737488355328) (hm:0<m) :
    ∃g cap w',(Builtin.append_ #[t,t] ty #[v,.slice (some a) m c]).run P w=.ok (.slice (some ⟨g,0,none⟩) (n+m) cap) w'∧w'.ownsRow W.heap.size e size (.slice (some ⟨g,0,none⟩) (n+m) cap) (n+m) (xs++news)∧Later W w':=by
 obtain⟨v',w',hr,ho,hg,hn⟩:=run_append_own (P:=P) w W.heap.size t ty e i z size bytes ht hi hz hsize hby hzs hsz v n xs hown a m c news hl hnews h1 h63 hbytes hL.size
 have hw:Later W w':=by
  subst hsize
  subst hby
  have hsm:n+m≤9223372036854775807:=by simp only [maxLen] at h63;omega
  rcases hown.2 with ⟨rfl,rfl⟩|⟨b,cap,cur,rfl,hbg,hbb,hnc,hcm,hcs,htake⟩
  · rw [run_append_nil (P:=P) w t ty e i z ht hi hz a m c news hl hnews hm (by omega) (by have:=hbytes;rw [Nat.zero_add] at this;omega)] at hr
    injection hr with _ h2
    rw [←h2];exact hL.drew.alloc
  · by_cases hroom:n+m≤cap
    · rw [run_append_room (P:=P) w t ty e i ht hi b n cap cur hbb a m c news hl hnews h1 hroom (by rw [hl,hcs,←Nat.add_mul];exact Nat.mul_le_mul_right _ hroom)] at hr
      injection hr with _ h2
      rw [←h2];exact hL.setRow _ hbg hbb
    · rw [run_append_grow (P:=P) w t ty e i z ht hi hz ⟨b,0,none⟩ n cap xs hown.1 (hown.cells (g:=b) rfl) a m c news hl hnews (by omega) (by omega) (growslice_fits (by omega) hbytes)] at hr
      injection hr with _ h2
      rw [←h2];exact hL.drew.alloc
 rcases ho.2 with ⟨rfl,h0⟩|⟨g,cap,cur,rfl,hrest⟩
 · omega
 · exact⟨g,cap,w',hr,ho,hw⟩
theorem wpList_app {w w':World} {ops:Array Oper} {rest:List Oper} {o:Oper} {a:Act} {Q:Exit→Act→World→Prop} (hgd:o.guard=none) (s x:Operand) (t:TypeId)
    (ho:o.op=.call { callee:=.builtin .append,args:=#[s,x],argTypes:=#[t,t] }) (v u r:Value) (hs:a.eval s=v) (hx:a.eval x=u) (hr:(Builtin.append_ #[t,t] o.type #[v,u]).run P w=.ok r w')
    (h:wpList P ops Q rest (a.put o.dst r) w'):wpList P ops Q (o :: rest) a w:=by
 refine wpList_plain hgd fun K hK=>?_
 unfold Oper.wp execOp
 simp only [ho,resolve,invoke,builtin,Sem.run_bind,Sem.run_pure,Result.andThen_ok,List.map_toArray,List.map_cons,List.map_nil,hs,hx,hr]
 exact hK _ _ h
theorem owns_cell {w:World} {base:Nat} {e:TypeId} {size:Nat} {g n cap:Nat} {xs:List Value} (h:w.ownsRow base e size (.slice (some ⟨g,0,none⟩) n cap) n xs) {j:Nat} {u:Value} (hu:xs[j]?=some u):w.cell? ⟨g,j,none⟩=some u:=by
 have:=h.cells (g:=g) rfl j u hu
 rw [show (⟨g,0,none⟩:Addr).add j=⟨g,j,none⟩ from by unfold Addr.add;split <;> simp_all] at this
 exact this
end
end Go
set_option linter.unusedSimpArgs false
set_option maxRecDepth 100000
set_option maxHeartbeats 4000000
namespace Go.Proofs.YtngciahmoenkiaaGreat
open Go.RowKit
def xs (f:Nat→Int) (n:Nat):List Value:=(List.range n).map fun j=>Value.int .i64 (f j)
def Lst (w:World) (A:Option Addr) (n:Nat) (f:Nat→Int):Prop:=n=0∨∃b o,A=some ⟨b,o,none⟩∧∀j,j<n→w.cell? ⟨b,o+j,none⟩=some (.int .i64 (f j))
theorem Lst.later {w w':World} {A:Option Addr} {n:Nat} {f:Nat→Int} (h:Lst w A n f) (hl:Later w w'):Lst w' A n f:=by
 rcases h with h|⟨b,o,hA,h⟩
 · exact Or.inl h
 · exact Or.inr ⟨b,o,hA,fun j hj=>hl.cell_of (h j hj)⟩
theorem info_int:(Tryz.prog.info? 3).map (fun i=>(i.zero,i.size,i.bytes))=some (some (.int .i64 0),1,8):=by kernel_rfl
theorem int_parts:∃i,Tryz.prog.info? 3=some i∧i.zero=some (.int .i64 0)∧i.size=1∧i.bytes=8:=by
 have h:=info_int
 cases hh:Tryz.prog.info? 3 with
 | none=>rw [hh] at h;cases h
 | some i =>
  rw [hh] at h
  simp only [Option.map_some,Option.some.injEq,Prod.mk.injEq] at h
  exact⟨i,rfl,h⟩
def marks:List Value:=[.int .i64 (-7777),.int .i64 (-8888)]
theorem same_any (A B:Option Addr) (n c d:Nat) (f:Nat→Int) (hn:n≤9223372036854775807) (w:World) (h1:Hid (Lst w A n f)) (h2:Hid (Lst w B n f)) :
    Calls Tryz.prog 19 #[.slice A n c,.slice B n d] w fun e w'=>e=.returned (.bool true)∧Later w w':=by
 by_cases h0:n=0
 · subst h0
   go_enter Tryz.func19,Tryz.ntmps19
   go_wp2_with fail
   refine wp_loop_rounds 1 ?_
   rw [rounds_succ]
   go_wp2
   go_ret
   exact⟨rfl,Lz _⟩
 · obtain⟨b,o,rfl,g1⟩:=h1.out.resolve_left h0
   obtain⟨b2,o2,rfl,g2⟩:=h2.out.resolve_left h0
   replace g1:Hid _:=g1
   replace g2:Hid _:=g2
   clear h1 h2
   go_enter Tryz.func19,Tryz.ntmps19
   go_wp2_with fail
   go_loopw [5] (fun i wr=>∃j d:Nat,j≤n∧i=.int .i64 (j:Nat)∧wr=w.drewN d) (fun i _=>n - (intOf i).toNat)
   case atStart=>exact⟨0,0,Nat.zero_le _,rfl,by simp [World.drewN]⟩
   case round =>
    obtain⟨j,d,hj,rfl,rfl⟩:=hrel
    by_cases hlt:j<n
    · have a0:=g1.out j hlt
      have b0:=g2.out j hlt
      have hl1:(j:Int)<(n:Int):=by omega
      go_wp2
      go_quiet (fail)
      go_wp2
      go_roundw
      case rel=>exact⟨j+1,_,by omega,by go_num,rfl⟩
      case measure=>simp [intOf];omega
    · have hje:j=n:=by omega
      subst hje
      go_wp2
      go_ret
      exact⟨rfl,Ln (Lz _)⟩
end Go.Proofs.YtngciahmoenkiaaGreat
namespace Go
open Go.RowKit
def Chg (lab:Nat→Nat) (S:Nat→Prop) (w w':World) (lab':Nat→Nat):Prop:=w.heap.size≤w'.heap.size∧∀k,k<w.heap.size→¬S (lab k)→lab' k=lab k∧w'.heap[k]?=w.heap[k]?
section
variable {lab lab' lab'':Nat→Nat} {S S':Nat→Prop} {w w' w'':World} {tag t2:Nat} {B p:Nat} {e T:TypeId} {size:Nat} {v:Value} {n:Nat} {L:List Value} {F:Nat→Value}
theorem Chg.trans (h:Chg lab S w w' lab') (h2:Chg lab' S w' w'' lab''):Chg lab S w w'' lab'':=by
 refine⟨Nat.le_trans h.1 h2.1,fun k hk hs=>?_⟩
 obtain⟨a1,a2⟩:=h.2 k hk hs
 obtain⟨b1,b2⟩:=h2.2 k (Nat.lt_of_lt_of_le hk h.1) (by rw [a1];exact hs)
 exact⟨b1.trans a1,b2.trans a2⟩
theorem Chg.wide (h:Chg lab S w w' lab') (hs:∀k,S k→S' k):Chg lab S' w w' lab':=⟨h.1,fun k hk hn=>h.2 k hk (fun x=>hn (hs _ x))⟩
theorem Chg.of_later (h:Later w w'):Chg lab S w w' lab:=⟨h.size,fun k hk _=>⟨rfl,h.block hk⟩⟩
theorem Chg.fresh (h:Later w w') (z:Nat):∃lab',Chg lab S w w' lab'∧∀k,w.heap.size≤k→lab' k=z:=⟨fun k=>if k<w.heap.size then lab k else z,⟨h.size,fun k hk _=>⟨if_pos hk,h.block hk⟩⟩,fun k hk=>if_neg (by omega)⟩
theorem Chg.cell (h:Chg lab S w w' lab') {k i:Nat} {v:Value} (hk:¬S (lab k)) (hc:w.cell? ⟨k,i,none⟩=some v):w'.cell? ⟨k,i,none⟩=some v:=(World.cell?_of_block (a:=⟨k,i,none⟩) (h.2 k (cell_lt hc) hk).2).trans hc
def Fld (lab:Nat→Nat) (tag:Nat) (w:World) (B:Nat) (e:TypeId) (size:Nat) (v:Value) (n:Nat) (L:List Value):Prop:=w.ownsRow B e size v n L∧∀g,v.ownBlock=some g→lab g=tag
theorem Fld.chg (h:Fld lab t2 w B e size v n L) (hc:Chg lab S w w' lab') (ht:¬S t2):Fld lab' t2 w' B e size v n L:=by
 refine⟨⟨h.1.1,?_⟩,fun g hg=>?_⟩
 · rcases h.1.2 with h2|⟨g,cap',cur,h2,h3,h4,h5⟩
   · exact Or.inl h2
   · refine Or.inr ⟨g,cap',cur,h2,h3,?_,h5⟩
     rw [(hc.2 g (Array.getElem?_eq_some_iff.1 h4).1 (by rw [h.2 g (by rw [h2];rfl)];exact ht)).2]
     exact h4
 · rw [(hc.2 g (h.1.lt g hg).2 (by rw [h.2 g hg];exact ht)).1]
   exact h.2 g hg
theorem Fld.at_ {A:Option Addr} {cap:Nat} (h:Fld lab tag w B e size (.slice A n cap) n L) (hn:0<n):∃g,A=some ⟨g,0,none⟩∧B≤g∧g<w.heap.size∧lab g=tag∧n≤cap∧(∃cur,w.heap[g]?=some (.cells cur e (0,0))∧cur.size=cap*size)∧∀j u,L[j]?=some u→w.cell? ⟨g,j,none⟩=some u:=by
 rcases h.1.2 with ⟨e,h0⟩|⟨g,cap',cur,e,h1,h3,h2,h4,h5,h6⟩
 · omega
 · cases e
   exact⟨g,rfl,h1,(Array.getElem?_eq_some_iff.1 h3).1,h.2 g rfl,h2,⟨cur,h3,h5⟩,fun j u hu=>owns_cell h.1 hu⟩
theorem Fld.set {A:Option Addr} {cap:Nat} (h:Fld lab tag w B e size (.slice A n cap) n L) (g:Nat) (hA:A=some ⟨g,0,none⟩) (i:Nat) (v:Value) (hi:i<n*size):Fld lab tag (w.setCell ⟨g,i,none⟩ v) B e size (.slice A n cap) n (L.set i v)∧Chg lab (·=tag) w (w.setCell ⟨g,i,none⟩ v) lab∧(∀W:World,W.heap.size≤B→Later W w→Later W (w.setCell ⟨g,i,none⟩ v))∧w.frozen? ⟨g,i,none⟩=false:=by
 subst hA
 rcases h.1.2 with ⟨e,h0⟩|⟨g',cap',cur,e,h1,h3,h2,h4,h5,h6⟩
 · cases e
 · cases e
   have hl:w.heap.size=(w.setCell ⟨g,i,none⟩ v).heap.size:=by simp [World.setCell]
   have ho:∀k,k≠g→(w.setCell ⟨g,i,none⟩ v).heap[k]?=w.heap[k]?:=fun k hk=>by rw [setCell_setRow h3];exact setRow_other w g k _ hk
   refine⟨⟨⟨by rw [List.length_set];exact h.1.1,Or.inr ⟨g,cap,cur.setIfInBounds i v,rfl,h1,by rw [setCell_setRow h3];exact setRow_heap _ _ _ _ _ _ h3,h2,h4,by simpa using h5,?_⟩⟩,h.2⟩,⟨Nat.le_of_eq hl,fun k hk hs=>⟨rfl,ho k (fun e=>hs (by rw [e];exact h.2 g rfl))⟩⟩,fun W hW hL=>hL.setCell v (by omega) h3,by simp [World.frozen?,h3]⟩
   rw [←h6]
   simp [List.take_set]
end
section
variable {P:Program}
theorem step_app {ops:Array Oper} {o:Oper} {a:Act} {w w':World} {K:Act→World→Prop} {Q:Exit→Act→World→Prop} {E:Prop} (hgd:o.guard=none) (s x:Operand) (t:TypeId)
    (ho:o.op=.call { callee:=.builtin .append,args:=#[s,x],argTypes:=#[t,t] }) (v u r:Value) (hs:a.eval s=v) (hx:a.eval x=u) (hr:(Builtin.append_ #[t,t] o.type #[v,u]).run P w=.ok r w')
    (h:K (a.put o.dst r) w'):if Region.wanted o (yielded ops a.tmps)=true then Oper.wp P o a w K Q else E:=by
 have hw:Region.wanted o (yielded ops a.tmps)=true:=by simp [Region.wanted,hgd]
 rw [if_pos hw]
 unfold Oper.wp execOp
 simp only [ho,resolve,invoke,builtin,Sem.run_bind,Sem.run_pure,Result.andThen_ok,List.map_toArray,List.map_cons,List.map_nil,hs,hx,hr]
 exact h
theorem fld_more {lab:Nat→Nat} {tag:Nat} {W w:World} (hL:Later W w) (t ty e:TypeId) (i:TypeInfo) (z:Value) (size bytes:Nat) (ht:P.underlying t=some (.slice e)) (hi:P.info? e=some i) (hz:i.zero=some z)
    (hsize:i.size=size) (hby:i.bytes=bytes) (hzs:z.cells.size=size) (hsz:0<size)
    {v:Value} {n:Nat} {xs:List Value} (h:Fld lab tag w W.heap.size e size v n xs) (c:List Value) (hc:c.length=size) (h1:∀u∈c,u.oneCell'=true)
    (h63:n+1≤maxLen) (hbytes:(n+1)*bytes≤140737488355328) :
    ∃g cap w' lab',(Builtin.append_ #[t,t] ty #[v,.slice (some ⟨w.heap.size,0,none⟩) 1 1]).run P (w.alloc (.cells c.toArray e))=.ok (.slice (some ⟨g,0,none⟩) (n+1) cap) w'∧Fld lab' tag w' W.heap.size e size (.slice (some ⟨g,0,none⟩) (n+1) cap) (n+1) (xs++c)∧Later W w'∧Chg lab (·=tag) w w' lab':=by
 have hL':Later W (w.alloc (.cells c.toArray e)):=La hL
 have hown:=h.1.alloc (.cells c.toArray e)
 have hsz2:(w.alloc (.cells c.toArray e)).heap.size=w.heap.size+1:=by simp
 have hnews:∀j u,c[j]?=some u→(w.alloc (.cells c.toArray e)).cell? ((⟨w.heap.size,0,none⟩:Addr).add j)=some u:=fun j u hu=>by
  rw [show (⟨w.heap.size,0,none⟩:Addr).add j=⟨w.heap.size,j,none⟩ from by unfold Addr.add;split <;> simp_all,cell_of_row _ _ _ _ _ _ (heap_alloc_new w _)]
  simpa using hu
 obtain⟨v',w1,hr,ho,hg,hnn⟩:=run_append_own (P:=P) (w.alloc (.cells c.toArray e)) W.heap.size t ty e i z size bytes ht hi hz hsize hby hzs hsz v n xs hown ⟨w.heap.size,0,none⟩ 1 1 c (by rw [hc,Nat.one_mul]) hnews h1 h63 hbytes hL'.size
 obtain⟨g,cap,w',hr2,ho2,hL2⟩:=run_append_later (P:=P) hL' t ty e i z size bytes ht hi hz hsize hby hzs hsz v n xs hown ⟨w.heap.size,0,none⟩ 1 1 c (by rw [hc,Nat.one_mul]) hnews h1 h63 hbytes (by decide)
 have hgk:g<w.heap.size→v.ownBlock=some g:=by
  intro hlt
  subst hsize
  subst hby
  have hsm:n+1≤9223372036854775807:=by simp only [maxLen] at h63;omega
  rcases hown.2 with ⟨rfl,rfl⟩|⟨b,cap',cur,rfl,hbg,hbb,hnc,hcm,hcs,htake⟩
  · rw [run_append_nil (P:=P) (w.alloc (.cells c.toArray e)) t ty e i z ht hi hz ⟨w.heap.size,0,none⟩ 1 1 c (by rw [hc,Nat.one_mul]) hnews (by decide) (by omega) (by have:=hbytes;rw [Nat.zero_add] at this;omega)] at hr2
    injection hr2 with h2 _
    simp at h2
    try omega
  · by_cases hroom:n+1≤cap'
    · rw [run_append_room (P:=P) (w.alloc (.cells c.toArray e)) t ty e i ht hi b n cap' cur hbb ⟨w.heap.size,0,none⟩ 1 1 c (by rw [hc,Nat.one_mul]) hnews h1 hroom (by rw [hc,hcs,←Nat.succ_mul];exact Nat.mul_le_mul_right _ hroom)] at hr2
      injection hr2 with h2 _
      simp at h2
      rw [←h2.1];rfl
    · rw [run_append_grow (P:=P) (w.alloc (.cells c.toArray e)) t ty e i z ht hi hz ⟨b,0,none⟩ n cap' xs hown.1 (hown.cells (g:=b) rfl) ⟨w.heap.size,0,none⟩ 1 1 c (by rw [hc,Nat.one_mul]) hnews (by omega) (by omega) (growslice_fits (by omega) hbytes)] at hr2
      injection hr2 with h2 _
      simp at h2
      try omega
 rw [hr2] at hr
 injection hr with e1 e2
 subst e1 e2
 refine⟨g,cap,w',fun k=>if k<w.heap.size then lab k else tag,hr2,⟨ho2,fun g' hg'=>?_⟩,hL2,⟨by have:=hg.size;omega,fun k hk hs=>⟨if_pos hk,?_⟩⟩⟩
 · obtain rfl:g=g':=Option.some.inj hg'
   show (if g<w.heap.size then lab g else tag)=tag
   by_cases hlt:g<w.heap.size
   · rw [if_pos hlt];exact h.2 g (hgk hlt)
   · rw [if_neg hlt]
 · rw [hg.block k (by omega) (fun e=>hs (h.2 k e.symm))]
   exact heap_alloc_old w _ hk
end
end Go
namespace Go.BM
open Go.RowKit
theorem ofInt64 (x:Int):(BitVec.ofInt 64 x).toNat=(x % 18446744073709551616).toNat:=by
 rw [BitVec.toNat_ofInt];rfl
theorem and_i64 (a b:Int):bits .and .i64 a b=wrap64 (((a % 18446744073709551616).toNat &&& (b % 18446744073709551616).toNat:Nat):Int):=by
 show IntKind.i64.wrap ((BitVec.ofInt 64 a &&& BitVec.ofInt 64 b).toNat:Int)=_
 rw [BitVec.toNat_and,ofInt64,ofInt64,IntKind.wrap_i64,wrap64]
theorem or_i64 (a b:Int):bits .or .i64 a b=wrap64 (((a % 18446744073709551616).toNat ||| (b % 18446744073709551616).toNat:Nat):Int):=by
 show IntKind.i64.wrap ((BitVec.ofInt 64 a ||| BitVec.ofInt 64 b).toNat:Int)=_
 rw [BitVec.toNat_or,ofInt64,ofInt64,IntKind.wrap_i64,wrap64]
theorem and_mask (x:Int) (j:Nat) (hj:j<63):bits .and .i64 x ((2 ^ j:Nat) - 1:Int)=x % (2 ^ j:Nat):=by
 have hp:2 ^ j ∣ 18446744073709551616:=by
  have e:j+(64 - j)=64:=by omega
  have:(18446744073709551616:Nat)=2 ^ j*2 ^ (64 - j):=by rw [←Nat.pow_add,e]
  exact⟨_,this⟩
 have h1:2 ^ j<2 ^ 63:=Nat.pow_lt_pow_right (by decide) hj
 have h0:0<2 ^ j:=Nat.two_pow_pos j
 rw [and_i64]
 have e:(((2 ^ j:Nat) - 1:Int) % 18446744073709551616).toNat=2 ^ j - 1:=by
  generalize 2 ^ j=p at *;omega
 rw [e,Nat.and_two_pow_sub_one_eq_mod]
 have e2:(((x % 18446744073709551616).toNat % 2 ^ j:Nat):Int)=x % (2 ^ j:Nat):=by
  rw [Int.natCast_emod,Int.toNat_of_nonneg (Int.emod_nonneg _ (by decide))]
  exact Int.emod_emod_of_dvd _ (Int.natCast_dvd_natCast.mpr hp)
 rw [e2]
 have h2:=Int.emod_nonneg x (b:=((2 ^ j:Nat):Int)) (by omega)
 have h3:=Int.emod_lt_of_pos x (b:=((2 ^ j:Nat):Int)) (by omega)
 generalize 2 ^ j=p at *
 simp only [wrap64]
 omega
open Lib (popAux)
end Go.BM
