import Derived.Test.YtngciahmoenkiaaGreatXV
set_option linter.unusedVariables false
set_option linter.unusedSimpArgs false
set_option maxRecDepth 100000
set_option maxHeartbeats 4000000
namespace Go.Proofs.YtngciahmoenkiaaGreat
open Go.RowKit
def Rl (W:World) (p:Nat) (T:TypeId) (L:List Value):Prop:=W.rowIs p T L.length (fun j=>L.getD j undef)
section
variable {W W':World} {p:Nat} {T:TypeId} {L:List Value}
theorem Rl.cell (h:Rl W p T L) (i:Nat) {v:Value} (hv:L[i]?=some v):W.cell? ⟨p,i,none⟩=some v:=by
 obtain⟨hi,he⟩:=List.getElem?_eq_some_iff.1 hv
 have:=World.rowIs.cell h hi
 rw [this]
 simp [List.getD,hv]
theorem Rl.frozen (h:Rl W p T L) (i:Nat):W.frozen? ⟨p,i,none⟩=false:=World.rowIs.frozen h i
theorem Rl.lt (h:Rl W p T L):p<W.heap.size:=World.rowIs.lt h
theorem Rl.set (h:Rl W p T L) (i:Nat) (v:Value):Rl (W.setCell ⟨p,i,none⟩ v) p T (L.set i v):=by
 unfold Rl
 rw [List.length_set]
 refine (World.rowIs.set h i v).congr fun j hj=>?_
 simp only [List.getD,List.getElem?_set]
 by_cases e:j=i
 · subst e
   simp [hj]
 · simp [e,Ne.symm e]
theorem Rl.off (h:Rl W p T L) {k:Nat} (i:Nat) (v:Value) (hk:p≠k):Rl (W.setCell ⟨k,i,none⟩ v) p T L:=World.rowIs.of_block h (Below.heap_setCell W ⟨k,i,none⟩ v p (fun e=>hk e))
theorem Rl.wr {S:Nat→Prop} (h:Rl W p T L) (hw:Wr S W W') (hs:¬S p):Rl W' p T L:=hw.row hs h
theorem Rl.later (h:Rl W p T L) (hl:Later W W'):Rl W' p T L:=rowIs_later hl h
end
abbrev Imp:Type:=ByteArray×ByteArray×Int×Int×Bool×Int×Int
def simp4 (s:ByteArray) (k:Int) (st:Sst):(Int×Bool×Int×Int)×Sst :=
 if k=0 then (((snum s st).1,false,0,0),(snum s st).2)
 else if k=1 then ((0,false,(slim s (smust s 112 st)).1.1,(slim s (smust s 112 st)).1.2),(slim s (smust s 112 st)).2)
 else if k=2 then ((0,false,(slim s st).1.1,(slim s st).1.2),(slim s st).2)
 else if k=3 then (((skind s st).1,(sflag s (skind s st).2).1,0,0),(sflag s (skind s st).2).2)
 else ((0,false,0,0),sfail st 1506)
def spart (s:ByteArray) (st:Sst):Imp×Sst :=
 (((sname s st).1,(sname s (sname s st).2).1,(sbyte s (sname s (sname s st).2).2).1,(simp4 s (sbyte s (sname s (sname s st).2).2).1 (sbyte s (sname s (sname s st).2).2).2).1),(simp4 s (sbyte s (sname s (sname s st).2).2).1 (sbyte s (sname s (sname s st).2).2).2).2)
theorem unm_rng (s:ByteArray) (at_:Int) (h:(unR s at_).2.2=0):0≤(unR s at_).2.1∧(unR s at_).2.1≤s.size:=by
 unfold unR at h ⊢
 split at h
 · rename_i h1
   have:=ul_rng s at_ h1.1
   split at h
   · simp at h
   · rename_i h2
     split at h
     · rename_i h3
       rw [if_pos h1,if_neg h2,if_pos h3]
       have:=h1.2
       simp only []
       omega
     · simp at h
 · simp at h
theorem sname_in {s:ByteArray} {st:Sst} (h:Sin s st):Sin s (sname s st).2:=by
 unfold sname
 split
 · exact h
 · split
   · rename_i h1
     have:=unm_rng s st.at_ h1
     exact⟨this.1,this.2⟩
   · split <;> exact sfail_in h _
def impV (x:Imp):Value:=.agg #[.string x.1,.string x.2.1,.int .i64 x.2.2.1,.int .i64 x.2.2.2.1,.bool x.2.2.2.2.1,.int .i64 x.2.2.2.2.2.1,.int .i64 x.2.2.2.2.2.2]
variable {q:Nat} {w wr wr':World} {s:ByteArray} {st st':Sst}
theorem spart_any (hs:s.size<9223372036854775000) (hin:Sin s st) (w:World) (h:w.rowIs q 48 3 (sF s st)) :
    Calls Tryz.prog 30 #[.pointer (some ⟨q,0,none⟩)] w fun e' w'=>e'=.returned (impV (spart s st).1)∧Hid (Ss q w w' s (spart s st).2):=by
 have hq:=h.lt
 have hn:Hid (∀(st1:Sst) (W:World),W.rowIs q 48 3 (sF s st1)→Calls Tryz.prog 13 #[.pointer (some ⟨q,0,none⟩)] W fun e' w'=>e'=.returned (.string (sname s st1).1)∧Hid (Ss q W w' s (sname s st1).2)):=fun st1 W hW=>sname_any hs W hW
 have hn1:=hn.out st
 have i1:=sname_in hin
 unfold spart
 generalize sname s st=K1 at *
 obtain⟨m,st1⟩:=K1
 simp only [] at hn1 i1 ⊢
 have hn2:=hn.out st1
 have i2:=sname_in i1
 generalize sname s st1=K2 at *
 obtain⟨nm,st2⟩:=K2
 simp only [] at hn2 i2 ⊢
 have hb:∀(W:World),W.rowIs q 48 3 (sF s st2)→Calls Tryz.prog 36 #[.pointer (some ⟨q,0,none⟩)] W fun e' w'=>e'=.returned (.int .i64 (sbyte s st2).1)∧Hid (Ss q W w' s (sbyte s st2).2):=fun W hW=>sbyte_any hs i2 W hW
 have i3:=sbyte_in i2
 generalize sbyte s st2=K3 at *
 obtain⟨k,st3⟩:=K3
 simp only [] at hb i3 ⊢
 replace hn1:Hid _:=hn1
 replace hn2:Hid _:=hn2
 replace hb:Hid _:=hb
 clear hn i1 i2 hin
 unfold simp4
 by_cases k0:k=0
 · subst k0
   rw [if_pos rfl]
   have hx:Hid (∀(W:World),W.rowIs q 48 3 (sF s st3)→Calls Tryz.prog 31 #[.pointer (some ⟨q,0,none⟩)] W fun e' w'=>e'=.returned (.int .i64 (snum s st3).1)∧Hid (Ss q W w' s (snum s st3).2)):=fun W hW=>snum_any hs W hW
   generalize snum s st3=Kst4 at *
   obtain⟨x,st4⟩:=Kst4
   simp only [] at hx ⊢
   clear i3
   have C0:Hid (Ss q w (w.alloc (.cells #[.string ⟨#[]⟩,.string ⟨#[]⟩,.int .i64 0,.int .i64 0,.bool false,.int .i64 0,.int .i64 0] 81)) s st):=(Ss.start h).later (La (Lz _))
   have Br0:Hid (Rl (w.alloc (.cells #[.string ⟨#[]⟩,.string ⟨#[]⟩,.int .i64 0,.int .i64 0,.bool false,.int .i64 0,.int .i64 0] 81)) w.heap.size 81 [.string ⟨#[]⟩,.string ⟨#[]⟩,.int .i64 0,.int .i64 0,.bool false,.int .i64 0,.int .i64 0]):=row_new w 81 [.string ⟨#[]⟩,.string ⟨#[]⟩,.int .i64 0,.int .i64 0,.bool false,.int .i64 0,.int .i64 0]
   clear h
   go_enter Tryz.func30,Tryz.ntmps30
   go_wp2_with fail
   refine (hn1.out _ C0.out.2).mono ?_
   rintro e1 w1 ⟨rfl,R1⟩
   have C1:Hid (Ss q w w1 s st1):=C0.out.trans R1.out
   have Br1:Hid (Rl w1 w.heap.size 81 [.string ⟨#[]⟩,.string ⟨#[]⟩,.int .i64 0,.int .i64 0,.bool false,.int .i64 0,.int .i64 0]):=Br0.out.wr R1.out.1 (fun e=>by have e:w.heap.size=q:=e;have:=Nat.le_refl w.heap.size;omega)
   clear R1
   have hp1:w.heap.size≤w1.heap.size:=C1.out.size
   have hp2:=Br1.out.lt
   go_wp2_with fail
   have D1:Hid (Ss q w (w1.alloc (.cells #[.string m,.string ⟨#[]⟩,.int .i64 0,.int .i64 0,.bool false,.int .i64 0,.int .i64 0] 81)) s st1):=C1.out.later (La (Lz _))
   have Er1:Hid (Rl (w1.alloc (.cells #[.string m,.string ⟨#[]⟩,.int .i64 0,.int .i64 0,.bool false,.int .i64 0,.int .i64 0] 81)) w.heap.size 81 [.string ⟨#[]⟩,.string ⟨#[]⟩,.int .i64 0,.int .i64 0,.bool false,.int .i64 0,.int .i64 0]):=Br1.out.later (La (Lz _))
   have Ex1:Hid (Rl (w1.alloc (.cells #[.string m,.string ⟨#[]⟩,.int .i64 0,.int .i64 0,.bool false,.int .i64 0,.int .i64 0] 81)) w1.heap.size 81 [.string m,.string ⟨#[]⟩,.int .i64 0,.int .i64 0,.bool false,.int .i64 0,.int .i64 0]):=row_new w1 81 [.string m,.string ⟨#[]⟩,.int .i64 0,.int .i64 0,.bool false,.int .i64 0,.int .i64 0]
   refine (hn2.out _ D1.out.2).mono ?_
   rintro e2 w2 ⟨rfl,R2⟩
   have C2:Hid (Ss q w w2 s st2):=D1.out.trans R2.out
   have Br2:Hid (Rl w2 w.heap.size 81 [.string ⟨#[]⟩,.string ⟨#[]⟩,.int .i64 0,.int .i64 0,.bool false,.int .i64 0,.int .i64 0]):=Er1.out.wr R2.out.1 (fun e=>by have e:w.heap.size=q:=e;have:=Nat.le_refl w.heap.size;omega)
   have Bx2:Hid (Rl w2 w1.heap.size 81 [.string m,.string ⟨#[]⟩,.int .i64 0,.int .i64 0,.bool false,.int .i64 0,.int .i64 0]):=Ex1.out.wr R2.out.1 (fun e=>by have e:w1.heap.size=q:=e;have:=hp1;omega)
   have a2:w2.cell? ⟨w1.heap.size,1,none⟩=some (.string ⟨#[]⟩):=Bx2.out.cell 1 rfl
   have b2:w2.frozen? ⟨w1.heap.size,1,none⟩=false:=Bx2.out.frozen 1
   have l3:=Bx2.out.lt
   clear R2
   go_wp2_with fail
   have D4:Hid (Ss q w (w2.setCell ⟨w1.heap.size,1,none⟩ (.string nm)) s st2):=C2.out.put hp1 hq 1 _
   have Er4:Hid (Rl (w2.setCell ⟨w1.heap.size,1,none⟩ (.string nm)) w.heap.size 81 [.string ⟨#[]⟩,.string ⟨#[]⟩,.int .i64 0,.int .i64 0,.bool false,.int .i64 0,.int .i64 0]):=Br2.out.off 1 _ (fun e=>by have e:w.heap.size=w1.heap.size:=e;omega)
   have Ex4:Hid (Rl (w2.setCell ⟨w1.heap.size,1,none⟩ (.string nm)) w1.heap.size 81 [.string m,.string nm,.int .i64 0,.int .i64 0,.bool false,.int .i64 0,.int .i64 0]):=Bx2.out.set 1 _
   refine (hb.out _ D4.out.2).mono ?_
   rintro e3 w3 ⟨rfl,R3⟩
   have C3:Hid (Ss q w w3 s st3):=D4.out.trans R3.out
   have Br3:Hid (Rl w3 w.heap.size 81 [.string ⟨#[]⟩,.string ⟨#[]⟩,.int .i64 0,.int .i64 0,.bool false,.int .i64 0,.int .i64 0]):=Er4.out.wr R3.out.1 (fun e=>by have e:w.heap.size=q:=e;have:=Nat.le_refl w.heap.size;omega)
   have Bx3:Hid (Rl w3 w1.heap.size 81 [.string m,.string nm,.int .i64 0,.int .i64 0,.bool false,.int .i64 0,.int .i64 0]):=Ex4.out.wr R3.out.1 (fun e=>by have e:w1.heap.size=q:=e;have:=hp1;omega)
   have a5:w3.cell? ⟨w1.heap.size,2,none⟩=some (.int .i64 0):=Bx3.out.cell 2 rfl
   have b5:w3.frozen? ⟨w1.heap.size,2,none⟩=false:=Bx3.out.frozen 2
   have l6:=Bx3.out.lt
   clear R3
   go_wp2_with fail
   have D7:Hid (Ss q w (w3.setCell ⟨w1.heap.size,2,none⟩ (.int .i64 0)) s st3):=C3.out.put hp1 hq 2 _
   have Er7:Hid (Rl (w3.setCell ⟨w1.heap.size,2,none⟩ (.int .i64 0)) w.heap.size 81 [.string ⟨#[]⟩,.string ⟨#[]⟩,.int .i64 0,.int .i64 0,.bool false,.int .i64 0,.int .i64 0]):=Br3.out.off 2 _ (fun e=>by have e:w.heap.size=w1.heap.size:=e;omega)
   have Ex7:Hid (Rl (w3.setCell ⟨w1.heap.size,2,none⟩ (.int .i64 0)) w1.heap.size 81 [.string m,.string nm,.int .i64 0,.int .i64 0,.bool false,.int .i64 0,.int .i64 0]):=Bx3.out.set 2 _
   refine (hx.out _ D7.out.2).mono ?_
   rintro e4 w4 ⟨rfl,R4⟩
   have C4:Hid (Ss q w w4 s st4):=D7.out.trans R4.out
   have Br4:Hid (Rl w4 w.heap.size 81 [.string ⟨#[]⟩,.string ⟨#[]⟩,.int .i64 0,.int .i64 0,.bool false,.int .i64 0,.int .i64 0]):=Er7.out.wr R4.out.1 (fun e=>by have e:w.heap.size=q:=e;have:=Nat.le_refl w.heap.size;omega)
   have Bx4:Hid (Rl w4 w1.heap.size 81 [.string m,.string nm,.int .i64 0,.int .i64 0,.bool false,.int .i64 0,.int .i64 0]):=Ex7.out.wr R4.out.1 (fun e=>by have e:w1.heap.size=q:=e;have:=hp1;omega)
   have a8:w4.cell? ⟨w1.heap.size,0,none⟩=some (.string m):=Bx4.out.cell 0 rfl
   have b8:w4.frozen? ⟨w1.heap.size,0,none⟩=false:=Bx4.out.frozen 0
   have a9:w4.cell? ⟨w1.heap.size,1,none⟩=some (.string nm):=Bx4.out.cell 1 rfl
   have b9:w4.frozen? ⟨w1.heap.size,1,none⟩=false:=Bx4.out.frozen 1
   have a10:w4.cell? ⟨w1.heap.size,2,none⟩=some (.int .i64 0):=Bx4.out.cell 2 rfl
   have b10:w4.frozen? ⟨w1.heap.size,2,none⟩=false:=Bx4.out.frozen 2
   have a11:w4.cell? ⟨w1.heap.size,3,none⟩=some (.int .i64 0):=Bx4.out.cell 3 rfl
   have b11:w4.frozen? ⟨w1.heap.size,3,none⟩=false:=Bx4.out.frozen 3
   have a12:w4.cell? ⟨w1.heap.size,4,none⟩=some (.bool false):=Bx4.out.cell 4 rfl
   have b12:w4.frozen? ⟨w1.heap.size,4,none⟩=false:=Bx4.out.frozen 4
   have a13:w4.cell? ⟨w1.heap.size,5,none⟩=some (.int .i64 0):=Bx4.out.cell 5 rfl
   have b13:w4.frozen? ⟨w1.heap.size,5,none⟩=false:=Bx4.out.frozen 5
   have a14:w4.cell? ⟨w1.heap.size,6,none⟩=some (.int .i64 0):=Bx4.out.cell 6 rfl
   have b14:w4.frozen? ⟨w1.heap.size,6,none⟩=false:=Bx4.out.frozen 6
   have a15:w4.cell? ⟨w.heap.size,0,none⟩=some (.string ⟨#[]⟩):=Br4.out.cell 0 rfl
   have b15:w4.frozen? ⟨w.heap.size,0,none⟩=false:=Br4.out.frozen 0
   have a16:w4.cell? ⟨w.heap.size,1,none⟩=some (.string ⟨#[]⟩):=Br4.out.cell 1 rfl
   have b16:w4.frozen? ⟨w.heap.size,1,none⟩=false:=Br4.out.frozen 1
   have a17:w4.cell? ⟨w.heap.size,2,none⟩=some (.int .i64 0):=Br4.out.cell 2 rfl
   have b17:w4.frozen? ⟨w.heap.size,2,none⟩=false:=Br4.out.frozen 2
   have a18:w4.cell? ⟨w.heap.size,3,none⟩=some (.int .i64 0):=Br4.out.cell 3 rfl
   have b18:w4.frozen? ⟨w.heap.size,3,none⟩=false:=Br4.out.frozen 3
   have a19:w4.cell? ⟨w.heap.size,4,none⟩=some (.bool false):=Br4.out.cell 4 rfl
   have b19:w4.frozen? ⟨w.heap.size,4,none⟩=false:=Br4.out.frozen 4
   have a20:w4.cell? ⟨w.heap.size,5,none⟩=some (.int .i64 0):=Br4.out.cell 5 rfl
   have b20:w4.frozen? ⟨w.heap.size,5,none⟩=false:=Br4.out.frozen 5
   have a21:w4.cell? ⟨w.heap.size,6,none⟩=some (.int .i64 0):=Br4.out.cell 6 rfl
   have b21:w4.frozen? ⟨w.heap.size,6,none⟩=false:=Br4.out.frozen 6
   have l22:=Bx4.out.lt
   have l23:=Br4.out.lt
   clear R4
   go_wp2_with fail
   refine bodyPost_ret (v:=.agg #[.string m,.string nm,.int .i64 0,.int .i64 x,.bool false,.int .i64 0,.int .i64 0]) (by simp [results,Tryz.results30,go_sem,a8,a9,a10,a11,a12,a13,a14,a15,a16,a17,a18,a19,a20,a21,l22,l23]) rfl ⟨rfl,by (repeat refine Ss.put ?_ (by first|exact Nat.le_refl _|exact hp1) hq _ _);exact C4.out⟩
 rw [if_neg k0]
 by_cases k1:k=1
 · subst k1
   rw [if_pos rfl]
   have i4:=smust_in i3 112
   have hx:Hid (∀(W:World),W.rowIs q 48 3 (sF s st3)→Calls Tryz.prog 28 #[.pointer (some ⟨q,0,none⟩),.int .i64 112] W fun e' w'=>e'=.returned (.tuple #[])∧Hid (Ss q W w' s (smust s 112 st3))):=fun W hW=>smust_any hs i3 112 W hW
   generalize smust s 112 st3=st4 at *
   have hy:Hid (∀(W:World),W.rowIs q 48 3 (sF s st4)→Calls Tryz.prog 32 #[.pointer (some ⟨q,0,none⟩)] W fun e' w'=>e'=.returned (.agg #[.int .i64 (slim s st4).1.1,.int .i64 (slim s st4).1.2])∧Hid (Ss q W w' s (slim s st4).2)):=fun W hW=>slim_any hs i4 W hW
   generalize slim s st4=Kst5 at *
   obtain⟨⟨x,y⟩,st5⟩:=Kst5
   simp only [] at hy ⊢
   clear i3 i4
   have C0:Hid (Ss q w (w.alloc (.cells #[.string ⟨#[]⟩,.string ⟨#[]⟩,.int .i64 0,.int .i64 0,.bool false,.int .i64 0,.int .i64 0] 81)) s st):=(Ss.start h).later (La (Lz _))
   have Br0:Hid (Rl (w.alloc (.cells #[.string ⟨#[]⟩,.string ⟨#[]⟩,.int .i64 0,.int .i64 0,.bool false,.int .i64 0,.int .i64 0] 81)) w.heap.size 81 [.string ⟨#[]⟩,.string ⟨#[]⟩,.int .i64 0,.int .i64 0,.bool false,.int .i64 0,.int .i64 0]):=row_new w 81 [.string ⟨#[]⟩,.string ⟨#[]⟩,.int .i64 0,.int .i64 0,.bool false,.int .i64 0,.int .i64 0]
   clear h
   go_enter Tryz.func30,Tryz.ntmps30
   go_wp2_with fail
   refine (hn1.out _ C0.out.2).mono ?_
   rintro e1 w1 ⟨rfl,R1⟩
   have C1:Hid (Ss q w w1 s st1):=C0.out.trans R1.out
   have Br1:Hid (Rl w1 w.heap.size 81 [.string ⟨#[]⟩,.string ⟨#[]⟩,.int .i64 0,.int .i64 0,.bool false,.int .i64 0,.int .i64 0]):=Br0.out.wr R1.out.1 (fun e=>by have e:w.heap.size=q:=e;have:=Nat.le_refl w.heap.size;omega)
   clear R1
   have hp1:w.heap.size≤w1.heap.size:=C1.out.size
   have hp2:=Br1.out.lt
   go_wp2_with fail
   have D1:Hid (Ss q w (w1.alloc (.cells #[.string m,.string ⟨#[]⟩,.int .i64 0,.int .i64 0,.bool false,.int .i64 0,.int .i64 0] 81)) s st1):=C1.out.later (La (Lz _))
   have Er1:Hid (Rl (w1.alloc (.cells #[.string m,.string ⟨#[]⟩,.int .i64 0,.int .i64 0,.bool false,.int .i64 0,.int .i64 0] 81)) w.heap.size 81 [.string ⟨#[]⟩,.string ⟨#[]⟩,.int .i64 0,.int .i64 0,.bool false,.int .i64 0,.int .i64 0]):=Br1.out.later (La (Lz _))
   have Ex1:Hid (Rl (w1.alloc (.cells #[.string m,.string ⟨#[]⟩,.int .i64 0,.int .i64 0,.bool false,.int .i64 0,.int .i64 0] 81)) w1.heap.size 81 [.string m,.string ⟨#[]⟩,.int .i64 0,.int .i64 0,.bool false,.int .i64 0,.int .i64 0]):=row_new w1 81 [.string m,.string ⟨#[]⟩,.int .i64 0,.int .i64 0,.bool false,.int .i64 0,.int .i64 0]
   refine (hn2.out _ D1.out.2).mono ?_
   rintro e2 w2 ⟨rfl,R2⟩
   have C2:Hid (Ss q w w2 s st2):=D1.out.trans R2.out
   have Br2:Hid (Rl w2 w.heap.size 81 [.string ⟨#[]⟩,.string ⟨#[]⟩,.int .i64 0,.int .i64 0,.bool false,.int .i64 0,.int .i64 0]):=Er1.out.wr R2.out.1 (fun e=>by have e:w.heap.size=q:=e;have:=Nat.le_refl w.heap.size;omega)
   have Bx2:Hid (Rl w2 w1.heap.size 81 [.string m,.string ⟨#[]⟩,.int .i64 0,.int .i64 0,.bool false,.int .i64 0,.int .i64 0]):=Ex1.out.wr R2.out.1 (fun e=>by have e:w1.heap.size=q:=e;have:=hp1;omega)
   have a2:w2.cell? ⟨w1.heap.size,1,none⟩=some (.string ⟨#[]⟩):=Bx2.out.cell 1 rfl
   have b2:w2.frozen? ⟨w1.heap.size,1,none⟩=false:=Bx2.out.frozen 1
   have l3:=Bx2.out.lt
   clear R2
   go_wp2_with fail
   have D4:Hid (Ss q w (w2.setCell ⟨w1.heap.size,1,none⟩ (.string nm)) s st2):=C2.out.put hp1 hq 1 _
   have Er4:Hid (Rl (w2.setCell ⟨w1.heap.size,1,none⟩ (.string nm)) w.heap.size 81 [.string ⟨#[]⟩,.string ⟨#[]⟩,.int .i64 0,.int .i64 0,.bool false,.int .i64 0,.int .i64 0]):=Br2.out.off 1 _ (fun e=>by have e:w.heap.size=w1.heap.size:=e;omega)
   have Ex4:Hid (Rl (w2.setCell ⟨w1.heap.size,1,none⟩ (.string nm)) w1.heap.size 81 [.string m,.string nm,.int .i64 0,.int .i64 0,.bool false,.int .i64 0,.int .i64 0]):=Bx2.out.set 1 _
   refine (hb.out _ D4.out.2).mono ?_
   rintro e3 w3 ⟨rfl,R3⟩
   have C3:Hid (Ss q w w3 s st3):=D4.out.trans R3.out
   have Br3:Hid (Rl w3 w.heap.size 81 [.string ⟨#[]⟩,.string ⟨#[]⟩,.int .i64 0,.int .i64 0,.bool false,.int .i64 0,.int .i64 0]):=Er4.out.wr R3.out.1 (fun e=>by have e:w.heap.size=q:=e;have:=Nat.le_refl w.heap.size;omega)
   have Bx3:Hid (Rl w3 w1.heap.size 81 [.string m,.string nm,.int .i64 0,.int .i64 0,.bool false,.int .i64 0,.int .i64 0]):=Ex4.out.wr R3.out.1 (fun e=>by have e:w1.heap.size=q:=e;have:=hp1;omega)
   have a5:w3.cell? ⟨w1.heap.size,2,none⟩=some (.int .i64 0):=Bx3.out.cell 2 rfl
   have b5:w3.frozen? ⟨w1.heap.size,2,none⟩=false:=Bx3.out.frozen 2
   have l6:=Bx3.out.lt
   clear R3
   go_wp2_with fail
   have D7:Hid (Ss q w (w3.setCell ⟨w1.heap.size,2,none⟩ (.int .i64 1)) s st3):=C3.out.put hp1 hq 2 _
   have Er7:Hid (Rl (w3.setCell ⟨w1.heap.size,2,none⟩ (.int .i64 1)) w.heap.size 81 [.string ⟨#[]⟩,.string ⟨#[]⟩,.int .i64 0,.int .i64 0,.bool false,.int .i64 0,.int .i64 0]):=Br3.out.off 2 _ (fun e=>by have e:w.heap.size=w1.heap.size:=e;omega)
   have Ex7:Hid (Rl (w3.setCell ⟨w1.heap.size,2,none⟩ (.int .i64 1)) w1.heap.size 81 [.string m,.string nm,.int .i64 1,.int .i64 0,.bool false,.int .i64 0,.int .i64 0]):=Bx3.out.set 2 _
   refine (hx.out _ D7.out.2).mono ?_
   rintro e4 w4 ⟨rfl,R4⟩
   have C4:Hid (Ss q w w4 s st4):=D7.out.trans R4.out
   have Br4:Hid (Rl w4 w.heap.size 81 [.string ⟨#[]⟩,.string ⟨#[]⟩,.int .i64 0,.int .i64 0,.bool false,.int .i64 0,.int .i64 0]):=Er7.out.wr R4.out.1 (fun e=>by have e:w.heap.size=q:=e;have:=Nat.le_refl w.heap.size;omega)
   have Bx4:Hid (Rl w4 w1.heap.size 81 [.string m,.string nm,.int .i64 1,.int .i64 0,.bool false,.int .i64 0,.int .i64 0]):=Ex7.out.wr R4.out.1 (fun e=>by have e:w1.heap.size=q:=e;have:=hp1;omega)
   clear R4
   go_wp2_with fail
   refine (hy.out _ C4.out.2).mono ?_
   rintro e5 w5 ⟨rfl,R5⟩
   have C5:Hid (Ss q w w5 s st5):=C4.out.trans R5.out
   have Br5:Hid (Rl w5 w.heap.size 81 [.string ⟨#[]⟩,.string ⟨#[]⟩,.int .i64 0,.int .i64 0,.bool false,.int .i64 0,.int .i64 0]):=Br4.out.wr R5.out.1 (fun e=>by have e:w.heap.size=q:=e;have:=Nat.le_refl w.heap.size;omega)
   have Bx5:Hid (Rl w5 w1.heap.size 81 [.string m,.string nm,.int .i64 1,.int .i64 0,.bool false,.int .i64 0,.int .i64 0]):=Bx4.out.wr R5.out.1 (fun e=>by have e:w1.heap.size=q:=e;have:=hp1;omega)
   have a8:w5.cell? ⟨w1.heap.size,0,none⟩=some (.string m):=Bx5.out.cell 0 rfl
   have b8:w5.frozen? ⟨w1.heap.size,0,none⟩=false:=Bx5.out.frozen 0
   have a9:w5.cell? ⟨w1.heap.size,1,none⟩=some (.string nm):=Bx5.out.cell 1 rfl
   have b9:w5.frozen? ⟨w1.heap.size,1,none⟩=false:=Bx5.out.frozen 1
   have a10:w5.cell? ⟨w1.heap.size,2,none⟩=some (.int .i64 1):=Bx5.out.cell 2 rfl
   have b10:w5.frozen? ⟨w1.heap.size,2,none⟩=false:=Bx5.out.frozen 2
   have a11:w5.cell? ⟨w1.heap.size,3,none⟩=some (.int .i64 0):=Bx5.out.cell 3 rfl
   have b11:w5.frozen? ⟨w1.heap.size,3,none⟩=false:=Bx5.out.frozen 3
   have a12:w5.cell? ⟨w1.heap.size,4,none⟩=some (.bool false):=Bx5.out.cell 4 rfl
   have b12:w5.frozen? ⟨w1.heap.size,4,none⟩=false:=Bx5.out.frozen 4
   have a13:w5.cell? ⟨w1.heap.size,5,none⟩=some (.int .i64 0):=Bx5.out.cell 5 rfl
   have b13:w5.frozen? ⟨w1.heap.size,5,none⟩=false:=Bx5.out.frozen 5
   have a14:w5.cell? ⟨w1.heap.size,6,none⟩=some (.int .i64 0):=Bx5.out.cell 6 rfl
   have b14:w5.frozen? ⟨w1.heap.size,6,none⟩=false:=Bx5.out.frozen 6
   have a15:w5.cell? ⟨w.heap.size,0,none⟩=some (.string ⟨#[]⟩):=Br5.out.cell 0 rfl
   have b15:w5.frozen? ⟨w.heap.size,0,none⟩=false:=Br5.out.frozen 0
   have a16:w5.cell? ⟨w.heap.size,1,none⟩=some (.string ⟨#[]⟩):=Br5.out.cell 1 rfl
   have b16:w5.frozen? ⟨w.heap.size,1,none⟩=false:=Br5.out.frozen 1
   have a17:w5.cell? ⟨w.heap.size,2,none⟩=some (.int .i64 0):=Br5.out.cell 2 rfl
   have b17:w5.frozen? ⟨w.heap.size,2,none⟩=false:=Br5.out.frozen 2
   have a18:w5.cell? ⟨w.heap.size,3,none⟩=some (.int .i64 0):=Br5.out.cell 3 rfl
   have b18:w5.frozen? ⟨w.heap.size,3,none⟩=false:=Br5.out.frozen 3
   have a19:w5.cell? ⟨w.heap.size,4,none⟩=some (.bool false):=Br5.out.cell 4 rfl
   have b19:w5.frozen? ⟨w.heap.size,4,none⟩=false:=Br5.out.frozen 4
   have a20:w5.cell? ⟨w.heap.size,5,none⟩=some (.int .i64 0):=Br5.out.cell 5 rfl
   have b20:w5.frozen? ⟨w.heap.size,5,none⟩=false:=Br5.out.frozen 5
   have a21:w5.cell? ⟨w.heap.size,6,none⟩=some (.int .i64 0):=Br5.out.cell 6 rfl
   have b21:w5.frozen? ⟨w.heap.size,6,none⟩=false:=Br5.out.frozen 6
   have l22:=Bx5.out.lt
   have l23:=Br5.out.lt
   clear R5
   go_wp2_with fail
   refine bodyPost_ret (v:=.agg #[.string m,.string nm,.int .i64 1,.int .i64 0,.bool false,.int .i64 x,.int .i64 y]) (by simp [results,Tryz.results30,go_sem,a8,a9,a10,a11,a12,a13,a14,a15,a16,a17,a18,a19,a20,a21,l22,l23]) rfl ⟨rfl,by (repeat refine Ss.put ?_ (by first|exact Nat.le_refl _|exact hp1) hq _ _);exact C5.out⟩
 rw [if_neg k1]
 by_cases k2:k=2
 · subst k2
   rw [if_pos rfl]
   have hy:Hid (∀(W:World),W.rowIs q 48 3 (sF s st3)→Calls Tryz.prog 32 #[.pointer (some ⟨q,0,none⟩)] W fun e' w'=>e'=.returned (.agg #[.int .i64 (slim s st3).1.1,.int .i64 (slim s st3).1.2])∧Hid (Ss q W w' s (slim s st3).2)):=fun W hW=>slim_any hs i3 W hW
   generalize slim s st3=Kst5 at *
   obtain⟨⟨x,y⟩,st5⟩:=Kst5
   simp only [] at hy ⊢
   clear i3
   have C0:Hid (Ss q w (w.alloc (.cells #[.string ⟨#[]⟩,.string ⟨#[]⟩,.int .i64 0,.int .i64 0,.bool false,.int .i64 0,.int .i64 0] 81)) s st):=(Ss.start h).later (La (Lz _))
   have Br0:Hid (Rl (w.alloc (.cells #[.string ⟨#[]⟩,.string ⟨#[]⟩,.int .i64 0,.int .i64 0,.bool false,.int .i64 0,.int .i64 0] 81)) w.heap.size 81 [.string ⟨#[]⟩,.string ⟨#[]⟩,.int .i64 0,.int .i64 0,.bool false,.int .i64 0,.int .i64 0]):=row_new w 81 [.string ⟨#[]⟩,.string ⟨#[]⟩,.int .i64 0,.int .i64 0,.bool false,.int .i64 0,.int .i64 0]
   clear h
   go_enter Tryz.func30,Tryz.ntmps30
   go_wp2_with fail
   refine (hn1.out _ C0.out.2).mono ?_
   rintro e1 w1 ⟨rfl,R1⟩
   have C1:Hid (Ss q w w1 s st1):=C0.out.trans R1.out
   have Br1:Hid (Rl w1 w.heap.size 81 [.string ⟨#[]⟩,.string ⟨#[]⟩,.int .i64 0,.int .i64 0,.bool false,.int .i64 0,.int .i64 0]):=Br0.out.wr R1.out.1 (fun e=>by have e:w.heap.size=q:=e;have:=Nat.le_refl w.heap.size;omega)
   clear R1
   have hp1:w.heap.size≤w1.heap.size:=C1.out.size
   have hp2:=Br1.out.lt
   go_wp2_with fail
   have D1:Hid (Ss q w (w1.alloc (.cells #[.string m,.string ⟨#[]⟩,.int .i64 0,.int .i64 0,.bool false,.int .i64 0,.int .i64 0] 81)) s st1):=C1.out.later (La (Lz _))
   have Er1:Hid (Rl (w1.alloc (.cells #[.string m,.string ⟨#[]⟩,.int .i64 0,.int .i64 0,.bool false,.int .i64 0,.int .i64 0] 81)) w.heap.size 81 [.string ⟨#[]⟩,.string ⟨#[]⟩,.int .i64 0,.int .i64 0,.bool false,.int .i64 0,.int .i64 0]):=Br1.out.later (La (Lz _))
   have Ex1:Hid (Rl (w1.alloc (.cells #[.string m,.string ⟨#[]⟩,.int .i64 0,.int .i64 0,.bool false,.int .i64 0,.int .i64 0] 81)) w1.heap.size 81 [.string m,.string ⟨#[]⟩,.int .i64 0,.int .i64 0,.bool false,.int .i64 0,.int .i64 0]):=row_new w1 81 [.string m,.string ⟨#[]⟩,.int .i64 0,.int .i64 0,.bool false,.int .i64 0,.int .i64 0]
   refine (hn2.out _ D1.out.2).mono ?_
   rintro e2 w2 ⟨rfl,R2⟩
   have C2:Hid (Ss q w w2 s st2):=D1.out.trans R2.out
   have Br2:Hid (Rl w2 w.heap.size 81 [.string ⟨#[]⟩,.string ⟨#[]⟩,.int .i64 0,.int .i64 0,.bool false,.int .i64 0,.int .i64 0]):=Er1.out.wr R2.out.1 (fun e=>by have e:w.heap.size=q:=e;have:=Nat.le_refl w.heap.size;omega)
   have Bx2:Hid (Rl w2 w1.heap.size 81 [.string m,.string ⟨#[]⟩,.int .i64 0,.int .i64 0,.bool false,.int .i64 0,.int .i64 0]):=Ex1.out.wr R2.out.1 (fun e=>by have e:w1.heap.size=q:=e;have:=hp1;omega)
   have a2:w2.cell? ⟨w1.heap.size,1,none⟩=some (.string ⟨#[]⟩):=Bx2.out.cell 1 rfl
   have b2:w2.frozen? ⟨w1.heap.size,1,none⟩=false:=Bx2.out.frozen 1
   have l3:=Bx2.out.lt
   clear R2
   go_wp2_with fail
   have D4:Hid (Ss q w (w2.setCell ⟨w1.heap.size,1,none⟩ (.string nm)) s st2):=C2.out.put hp1 hq 1 _
   have Er4:Hid (Rl (w2.setCell ⟨w1.heap.size,1,none⟩ (.string nm)) w.heap.size 81 [.string ⟨#[]⟩,.string ⟨#[]⟩,.int .i64 0,.int .i64 0,.bool false,.int .i64 0,.int .i64 0]):=Br2.out.off 1 _ (fun e=>by have e:w.heap.size=w1.heap.size:=e;omega)
   have Ex4:Hid (Rl (w2.setCell ⟨w1.heap.size,1,none⟩ (.string nm)) w1.heap.size 81 [.string m,.string nm,.int .i64 0,.int .i64 0,.bool false,.int .i64 0,.int .i64 0]):=Bx2.out.set 1 _
   refine (hb.out _ D4.out.2).mono ?_
   rintro e3 w3 ⟨rfl,R3⟩
   have C3:Hid (Ss q w w3 s st3):=D4.out.trans R3.out
   have Br3:Hid (Rl w3 w.heap.size 81 [.string ⟨#[]⟩,.string ⟨#[]⟩,.int .i64 0,.int .i64 0,.bool false,.int .i64 0,.int .i64 0]):=Er4.out.wr R3.out.1 (fun e=>by have e:w.heap.size=q:=e;have:=Nat.le_refl w.heap.size;omega)
   have Bx3:Hid (Rl w3 w1.heap.size 81 [.string m,.string nm,.int .i64 0,.int .i64 0,.bool false,.int .i64 0,.int .i64 0]):=Ex4.out.wr R3.out.1 (fun e=>by have e:w1.heap.size=q:=e;have:=hp1;omega)
   have a5:w3.cell? ⟨w1.heap.size,2,none⟩=some (.int .i64 0):=Bx3.out.cell 2 rfl
   have b5:w3.frozen? ⟨w1.heap.size,2,none⟩=false:=Bx3.out.frozen 2
   have l6:=Bx3.out.lt
   clear R3
   go_wp2_with fail
   have D7:Hid (Ss q w (w3.setCell ⟨w1.heap.size,2,none⟩ (.int .i64 2)) s st3):=C3.out.put hp1 hq 2 _
   have Er7:Hid (Rl (w3.setCell ⟨w1.heap.size,2,none⟩ (.int .i64 2)) w.heap.size 81 [.string ⟨#[]⟩,.string ⟨#[]⟩,.int .i64 0,.int .i64 0,.bool false,.int .i64 0,.int .i64 0]):=Br3.out.off 2 _ (fun e=>by have e:w.heap.size=w1.heap.size:=e;omega)
   have Ex7:Hid (Rl (w3.setCell ⟨w1.heap.size,2,none⟩ (.int .i64 2)) w1.heap.size 81 [.string m,.string nm,.int .i64 2,.int .i64 0,.bool false,.int .i64 0,.int .i64 0]):=Bx3.out.set 2 _
   refine (hy.out _ D7.out.2).mono ?_
   rintro e4 w4 ⟨rfl,R4⟩
   have C4:Hid (Ss q w w4 s st5):=D7.out.trans R4.out
   have Br4:Hid (Rl w4 w.heap.size 81 [.string ⟨#[]⟩,.string ⟨#[]⟩,.int .i64 0,.int .i64 0,.bool false,.int .i64 0,.int .i64 0]):=Er7.out.wr R4.out.1 (fun e=>by have e:w.heap.size=q:=e;have:=Nat.le_refl w.heap.size;omega)
   have Bx4:Hid (Rl w4 w1.heap.size 81 [.string m,.string nm,.int .i64 2,.int .i64 0,.bool false,.int .i64 0,.int .i64 0]):=Ex7.out.wr R4.out.1 (fun e=>by have e:w1.heap.size=q:=e;have:=hp1;omega)
   have a8:w4.cell? ⟨w1.heap.size,0,none⟩=some (.string m):=Bx4.out.cell 0 rfl
   have b8:w4.frozen? ⟨w1.heap.size,0,none⟩=false:=Bx4.out.frozen 0
   have a9:w4.cell? ⟨w1.heap.size,1,none⟩=some (.string nm):=Bx4.out.cell 1 rfl
   have b9:w4.frozen? ⟨w1.heap.size,1,none⟩=false:=Bx4.out.frozen 1
   have a10:w4.cell? ⟨w1.heap.size,2,none⟩=some (.int .i64 2):=Bx4.out.cell 2 rfl
   have b10:w4.frozen? ⟨w1.heap.size,2,none⟩=false:=Bx4.out.frozen 2
   have a11:w4.cell? ⟨w1.heap.size,3,none⟩=some (.int .i64 0):=Bx4.out.cell 3 rfl
   have b11:w4.frozen? ⟨w1.heap.size,3,none⟩=false:=Bx4.out.frozen 3
   have a12:w4.cell? ⟨w1.heap.size,4,none⟩=some (.bool false):=Bx4.out.cell 4 rfl
   have b12:w4.frozen? ⟨w1.heap.size,4,none⟩=false:=Bx4.out.frozen 4
   have a13:w4.cell? ⟨w1.heap.size,5,none⟩=some (.int .i64 0):=Bx4.out.cell 5 rfl
   have b13:w4.frozen? ⟨w1.heap.size,5,none⟩=false:=Bx4.out.frozen 5
   have a14:w4.cell? ⟨w1.heap.size,6,none⟩=some (.int .i64 0):=Bx4.out.cell 6 rfl
   have b14:w4.frozen? ⟨w1.heap.size,6,none⟩=false:=Bx4.out.frozen 6
   have a15:w4.cell? ⟨w.heap.size,0,none⟩=some (.string ⟨#[]⟩):=Br4.out.cell 0 rfl
   have b15:w4.frozen? ⟨w.heap.size,0,none⟩=false:=Br4.out.frozen 0
   have a16:w4.cell? ⟨w.heap.size,1,none⟩=some (.string ⟨#[]⟩):=Br4.out.cell 1 rfl
   have b16:w4.frozen? ⟨w.heap.size,1,none⟩=false:=Br4.out.frozen 1
   have a17:w4.cell? ⟨w.heap.size,2,none⟩=some (.int .i64 0):=Br4.out.cell 2 rfl
   have b17:w4.frozen? ⟨w.heap.size,2,none⟩=false:=Br4.out.frozen 2
   have a18:w4.cell? ⟨w.heap.size,3,none⟩=some (.int .i64 0):=Br4.out.cell 3 rfl
   have b18:w4.frozen? ⟨w.heap.size,3,none⟩=false:=Br4.out.frozen 3
   have a19:w4.cell? ⟨w.heap.size,4,none⟩=some (.bool false):=Br4.out.cell 4 rfl
   have b19:w4.frozen? ⟨w.heap.size,4,none⟩=false:=Br4.out.frozen 4
   have a20:w4.cell? ⟨w.heap.size,5,none⟩=some (.int .i64 0):=Br4.out.cell 5 rfl
   have b20:w4.frozen? ⟨w.heap.size,5,none⟩=false:=Br4.out.frozen 5
   have a21:w4.cell? ⟨w.heap.size,6,none⟩=some (.int .i64 0):=Br4.out.cell 6 rfl
   have b21:w4.frozen? ⟨w.heap.size,6,none⟩=false:=Br4.out.frozen 6
   have l22:=Bx4.out.lt
   have l23:=Br4.out.lt
   clear R4
   go_wp2_with fail
   refine bodyPost_ret (v:=.agg #[.string m,.string nm,.int .i64 2,.int .i64 0,.bool false,.int .i64 x,.int .i64 y]) (by simp [results,Tryz.results30,go_sem,a8,a9,a10,a11,a12,a13,a14,a15,a16,a17,a18,a19,a20,a21,l22,l23]) rfl ⟨rfl,by (repeat refine Ss.put ?_ (by first|exact Nat.le_refl _|exact hp1) hq _ _);exact C4.out⟩
 rw [if_neg k2]
 by_cases k3:k=3
 · subst k3
   rw [if_pos rfl]
   have i4:=skind_in i3
   have hx:Hid (∀(W:World),W.rowIs q 48 3 (sF s st3)→Calls Tryz.prog 33 #[.pointer (some ⟨q,0,none⟩)] W fun e' w'=>e'=.returned (.int .i64 (skind s st3).1)∧Hid (Ss q W w' s (skind s st3).2)):=fun W hW=>skind_any hs i3 W hW
   generalize skind s st3=Kst4 at *
   obtain⟨x,st4⟩:=Kst4
   simp only [] at hx i4 ⊢
   have hy:Hid (∀(W:World),W.rowIs q 48 3 (sF s st4)→Calls Tryz.prog 34 #[.pointer (some ⟨q,0,none⟩)] W fun e' w'=>e'=.returned (.bool (sflag s st4).1)∧Hid (Ss q W w' s (sflag s st4).2)):=fun W hW=>sflag_any hs i4 W hW
   generalize sflag s st4=Kst5 at *
   obtain⟨b,st5⟩:=Kst5
   simp only [] at hy ⊢
   clear i3 i4
   have C0:Hid (Ss q w (w.alloc (.cells #[.string ⟨#[]⟩,.string ⟨#[]⟩,.int .i64 0,.int .i64 0,.bool false,.int .i64 0,.int .i64 0] 81)) s st):=(Ss.start h).later (La (Lz _))
   have Br0:Hid (Rl (w.alloc (.cells #[.string ⟨#[]⟩,.string ⟨#[]⟩,.int .i64 0,.int .i64 0,.bool false,.int .i64 0,.int .i64 0] 81)) w.heap.size 81 [.string ⟨#[]⟩,.string ⟨#[]⟩,.int .i64 0,.int .i64 0,.bool false,.int .i64 0,.int .i64 0]):=row_new w 81 [.string ⟨#[]⟩,.string ⟨#[]⟩,.int .i64 0,.int .i64 0,.bool false,.int .i64 0,.int .i64 0]
   clear h
   go_enter Tryz.func30,Tryz.ntmps30
   go_wp2_with fail
   refine (hn1.out _ C0.out.2).mono ?_
   rintro e1 w1 ⟨rfl,R1⟩
   have C1:Hid (Ss q w w1 s st1):=C0.out.trans R1.out
   have Br1:Hid (Rl w1 w.heap.size 81 [.string ⟨#[]⟩,.string ⟨#[]⟩,.int .i64 0,.int .i64 0,.bool false,.int .i64 0,.int .i64 0]):=Br0.out.wr R1.out.1 (fun e=>by have e:w.heap.size=q:=e;have:=Nat.le_refl w.heap.size;omega)
   clear R1
   have hp1:w.heap.size≤w1.heap.size:=C1.out.size
   have hp2:=Br1.out.lt
   go_wp2_with fail
   have D1:Hid (Ss q w (w1.alloc (.cells #[.string m,.string ⟨#[]⟩,.int .i64 0,.int .i64 0,.bool false,.int .i64 0,.int .i64 0] 81)) s st1):=C1.out.later (La (Lz _))
   have Er1:Hid (Rl (w1.alloc (.cells #[.string m,.string ⟨#[]⟩,.int .i64 0,.int .i64 0,.bool false,.int .i64 0,.int .i64 0] 81)) w.heap.size 81 [.string ⟨#[]⟩,.string ⟨#[]⟩,.int .i64 0,.int .i64 0,.bool false,.int .i64 0,.int .i64 0]):=Br1.out.later (La (Lz _))
   have Ex1:Hid (Rl (w1.alloc (.cells #[.string m,.string ⟨#[]⟩,.int .i64 0,.int .i64 0,.bool false,.int .i64 0,.int .i64 0] 81)) w1.heap.size 81 [.string m,.string ⟨#[]⟩,.int .i64 0,.int .i64 0,.bool false,.int .i64 0,.int .i64 0]):=row_new w1 81 [.string m,.string ⟨#[]⟩,.int .i64 0,.int .i64 0,.bool false,.int .i64 0,.int .i64 0]
   refine (hn2.out _ D1.out.2).mono ?_
   rintro e2 w2 ⟨rfl,R2⟩
   have C2:Hid (Ss q w w2 s st2):=D1.out.trans R2.out
   have Br2:Hid (Rl w2 w.heap.size 81 [.string ⟨#[]⟩,.string ⟨#[]⟩,.int .i64 0,.int .i64 0,.bool false,.int .i64 0,.int .i64 0]):=Er1.out.wr R2.out.1 (fun e=>by have e:w.heap.size=q:=e;have:=Nat.le_refl w.heap.size;omega)
   have Bx2:Hid (Rl w2 w1.heap.size 81 [.string m,.string ⟨#[]⟩,.int .i64 0,.int .i64 0,.bool false,.int .i64 0,.int .i64 0]):=Ex1.out.wr R2.out.1 (fun e=>by have e:w1.heap.size=q:=e;have:=hp1;omega)
   have a2:w2.cell? ⟨w1.heap.size,1,none⟩=some (.string ⟨#[]⟩):=Bx2.out.cell 1 rfl
   have b2:w2.frozen? ⟨w1.heap.size,1,none⟩=false:=Bx2.out.frozen 1
   have l3:=Bx2.out.lt
   clear R2
   go_wp2_with fail
   have D4:Hid (Ss q w (w2.setCell ⟨w1.heap.size,1,none⟩ (.string nm)) s st2):=C2.out.put hp1 hq 1 _
   have Er4:Hid (Rl (w2.setCell ⟨w1.heap.size,1,none⟩ (.string nm)) w.heap.size 81 [.string ⟨#[]⟩,.string ⟨#[]⟩,.int .i64 0,.int .i64 0,.bool false,.int .i64 0,.int .i64 0]):=Br2.out.off 1 _ (fun e=>by have e:w.heap.size=w1.heap.size:=e;omega)
   have Ex4:Hid (Rl (w2.setCell ⟨w1.heap.size,1,none⟩ (.string nm)) w1.heap.size 81 [.string m,.string nm,.int .i64 0,.int .i64 0,.bool false,.int .i64 0,.int .i64 0]):=Bx2.out.set 1 _
   refine (hb.out _ D4.out.2).mono ?_
   rintro e3 w3 ⟨rfl,R3⟩
   have C3:Hid (Ss q w w3 s st3):=D4.out.trans R3.out
   have Br3:Hid (Rl w3 w.heap.size 81 [.string ⟨#[]⟩,.string ⟨#[]⟩,.int .i64 0,.int .i64 0,.bool false,.int .i64 0,.int .i64 0]):=Er4.out.wr R3.out.1 (fun e=>by have e:w.heap.size=q:=e;have:=Nat.le_refl w.heap.size;omega)
   have Bx3:Hid (Rl w3 w1.heap.size 81 [.string m,.string nm,.int .i64 0,.int .i64 0,.bool false,.int .i64 0,.int .i64 0]):=Ex4.out.wr R3.out.1 (fun e=>by have e:w1.heap.size=q:=e;have:=hp1;omega)
   have a5:w3.cell? ⟨w1.heap.size,2,none⟩=some (.int .i64 0):=Bx3.out.cell 2 rfl
   have b5:w3.frozen? ⟨w1.heap.size,2,none⟩=false:=Bx3.out.frozen 2
   have l6:=Bx3.out.lt
   clear R3
   go_wp2_with fail
   have D7:Hid (Ss q w (w3.setCell ⟨w1.heap.size,2,none⟩ (.int .i64 3)) s st3):=C3.out.put hp1 hq 2 _
   have Er7:Hid (Rl (w3.setCell ⟨w1.heap.size,2,none⟩ (.int .i64 3)) w.heap.size 81 [.string ⟨#[]⟩,.string ⟨#[]⟩,.int .i64 0,.int .i64 0,.bool false,.int .i64 0,.int .i64 0]):=Br3.out.off 2 _ (fun e=>by have e:w.heap.size=w1.heap.size:=e;omega)
   have Ex7:Hid (Rl (w3.setCell ⟨w1.heap.size,2,none⟩ (.int .i64 3)) w1.heap.size 81 [.string m,.string nm,.int .i64 3,.int .i64 0,.bool false,.int .i64 0,.int .i64 0]):=Bx3.out.set 2 _
   refine (hx.out _ D7.out.2).mono ?_
   rintro e4 w4 ⟨rfl,R4⟩
   have C4:Hid (Ss q w w4 s st4):=D7.out.trans R4.out
   have Br4:Hid (Rl w4 w.heap.size 81 [.string ⟨#[]⟩,.string ⟨#[]⟩,.int .i64 0,.int .i64 0,.bool false,.int .i64 0,.int .i64 0]):=Er7.out.wr R4.out.1 (fun e=>by have e:w.heap.size=q:=e;have:=Nat.le_refl w.heap.size;omega)
   have Bx4:Hid (Rl w4 w1.heap.size 81 [.string m,.string nm,.int .i64 3,.int .i64 0,.bool false,.int .i64 0,.int .i64 0]):=Ex7.out.wr R4.out.1 (fun e=>by have e:w1.heap.size=q:=e;have:=hp1;omega)
   have a8:w4.cell? ⟨w1.heap.size,3,none⟩=some (.int .i64 0):=Bx4.out.cell 3 rfl
   have b8:w4.frozen? ⟨w1.heap.size,3,none⟩=false:=Bx4.out.frozen 3
   have l9:=Bx4.out.lt
   clear R4
   go_wp2_with fail
   have D10:Hid (Ss q w (w4.setCell ⟨w1.heap.size,3,none⟩ (.int .i64 x)) s st4):=C4.out.put hp1 hq 3 _
   have Er10:Hid (Rl (w4.setCell ⟨w1.heap.size,3,none⟩ (.int .i64 x)) w.heap.size 81 [.string ⟨#[]⟩,.string ⟨#[]⟩,.int .i64 0,.int .i64 0,.bool false,.int .i64 0,.int .i64 0]):=Br4.out.off 3 _ (fun e=>by have e:w.heap.size=w1.heap.size:=e;omega)
   have Ex10:Hid (Rl (w4.setCell ⟨w1.heap.size,3,none⟩ (.int .i64 x)) w1.heap.size 81 [.string m,.string nm,.int .i64 3,.int .i64 x,.bool false,.int .i64 0,.int .i64 0]):=Bx4.out.set 3 _
   refine (hy.out _ D10.out.2).mono ?_
   rintro e5 w5 ⟨rfl,R5⟩
   have C5:Hid (Ss q w w5 s st5):=D10.out.trans R5.out
   have Br5:Hid (Rl w5 w.heap.size 81 [.string ⟨#[]⟩,.string ⟨#[]⟩,.int .i64 0,.int .i64 0,.bool false,.int .i64 0,.int .i64 0]):=Er10.out.wr R5.out.1 (fun e=>by have e:w.heap.size=q:=e;have:=Nat.le_refl w.heap.size;omega)
   have Bx5:Hid (Rl w5 w1.heap.size 81 [.string m,.string nm,.int .i64 3,.int .i64 x,.bool false,.int .i64 0,.int .i64 0]):=Ex10.out.wr R5.out.1 (fun e=>by have e:w1.heap.size=q:=e;have:=hp1;omega)
   have a11:w5.cell? ⟨w1.heap.size,0,none⟩=some (.string m):=Bx5.out.cell 0 rfl
   have b11:w5.frozen? ⟨w1.heap.size,0,none⟩=false:=Bx5.out.frozen 0
   have a12:w5.cell? ⟨w1.heap.size,1,none⟩=some (.string nm):=Bx5.out.cell 1 rfl
   have b12:w5.frozen? ⟨w1.heap.size,1,none⟩=false:=Bx5.out.frozen 1
   have a13:w5.cell? ⟨w1.heap.size,2,none⟩=some (.int .i64 3):=Bx5.out.cell 2 rfl
   have b13:w5.frozen? ⟨w1.heap.size,2,none⟩=false:=Bx5.out.frozen 2
   have a14:w5.cell? ⟨w1.heap.size,3,none⟩=some (.int .i64 x):=Bx5.out.cell 3 rfl
   have b14:w5.frozen? ⟨w1.heap.size,3,none⟩=false:=Bx5.out.frozen 3
   have a15:w5.cell? ⟨w1.heap.size,4,none⟩=some (.bool false):=Bx5.out.cell 4 rfl
   have b15:w5.frozen? ⟨w1.heap.size,4,none⟩=false:=Bx5.out.frozen 4
   have a16:w5.cell? ⟨w1.heap.size,5,none⟩=some (.int .i64 0):=Bx5.out.cell 5 rfl
   have b16:w5.frozen? ⟨w1.heap.size,5,none⟩=false:=Bx5.out.frozen 5
   have a17:w5.cell? ⟨w1.heap.size,6,none⟩=some (.int .i64 0):=Bx5.out.cell 6 rfl
   have b17:w5.frozen? ⟨w1.heap.size,6,none⟩=false:=Bx5.out.frozen 6
   have a18:w5.cell? ⟨w.heap.size,0,none⟩=some (.string ⟨#[]⟩):=Br5.out.cell 0 rfl
   have b18:w5.frozen? ⟨w.heap.size,0,none⟩=false:=Br5.out.frozen 0
   have a19:w5.cell? ⟨w.heap.size,1,none⟩=some (.string ⟨#[]⟩):=Br5.out.cell 1 rfl
   have b19:w5.frozen? ⟨w.heap.size,1,none⟩=false:=Br5.out.frozen 1
   have a20:w5.cell? ⟨w.heap.size,2,none⟩=some (.int .i64 0):=Br5.out.cell 2 rfl
   have b20:w5.frozen? ⟨w.heap.size,2,none⟩=false:=Br5.out.frozen 2
   have a21:w5.cell? ⟨w.heap.size,3,none⟩=some (.int .i64 0):=Br5.out.cell 3 rfl
   have b21:w5.frozen? ⟨w.heap.size,3,none⟩=false:=Br5.out.frozen 3
   have a22:w5.cell? ⟨w.heap.size,4,none⟩=some (.bool false):=Br5.out.cell 4 rfl
   have b22:w5.frozen? ⟨w.heap.size,4,none⟩=false:=Br5.out.frozen 4
   have a23:w5.cell? ⟨w.heap.size,5,none⟩=some (.int .i64 0):=Br5.out.cell 5 rfl
   have b23:w5.frozen? ⟨w.heap.size,5,none⟩=false:=Br5.out.frozen 5
   have a24:w5.cell? ⟨w.heap.size,6,none⟩=some (.int .i64 0):=Br5.out.cell 6 rfl
   have b24:w5.frozen? ⟨w.heap.size,6,none⟩=false:=Br5.out.frozen 6
   have l25:=Bx5.out.lt
   have l26:=Br5.out.lt
   clear R5
   go_wp2_with fail
   refine bodyPost_ret (v:=.agg #[.string m,.string nm,.int .i64 3,.int .i64 x,.bool b,.int .i64 0,.int .i64 0]) (by simp [results,Tryz.results30,go_sem,a11,a12,a13,a14,a15,a16,a17,a18,a19,a20,a21,a22,a23,a24,l25,l26]) rfl ⟨rfl,by (repeat refine Ss.put ?_ (by first|exact Nat.le_refl _|exact hp1) hq _ _);exact C5.out⟩
 rw [if_neg k3]
 · have n0:=beq_false k0
   have n1:=beq_false k1
   have n2:=beq_false k2
   have n3:=beq_false k3
   have hx:Hid (∀(W:World),W.rowIs q 48 3 (sF s st3)→Calls Tryz.prog 16 #[.pointer (some ⟨q,0,none⟩),.int .i64 1506] W fun e' w'=>e'=.returned (.tuple #[])∧Hid (Ss q W w' s (sfail st3 1506))):=fun W hW=>sfail_any 1506 W hW
   generalize sfail st3 1506=st4 at *
   clear i3 k0 k1 k2 k3
   have C0:Hid (Ss q w (w.alloc (.cells #[.string ⟨#[]⟩,.string ⟨#[]⟩,.int .i64 0,.int .i64 0,.bool false,.int .i64 0,.int .i64 0] 81)) s st):=(Ss.start h).later (La (Lz _))
   have Br0:Hid (Rl (w.alloc (.cells #[.string ⟨#[]⟩,.string ⟨#[]⟩,.int .i64 0,.int .i64 0,.bool false,.int .i64 0,.int .i64 0] 81)) w.heap.size 81 [.string ⟨#[]⟩,.string ⟨#[]⟩,.int .i64 0,.int .i64 0,.bool false,.int .i64 0,.int .i64 0]):=row_new w 81 [.string ⟨#[]⟩,.string ⟨#[]⟩,.int .i64 0,.int .i64 0,.bool false,.int .i64 0,.int .i64 0]
   clear h
   go_enter Tryz.func30,Tryz.ntmps30
   go_wp2_with fail
   refine (hn1.out _ C0.out.2).mono ?_
   rintro e1 w1 ⟨rfl,R1⟩
   have C1:Hid (Ss q w w1 s st1):=C0.out.trans R1.out
   have Br1:Hid (Rl w1 w.heap.size 81 [.string ⟨#[]⟩,.string ⟨#[]⟩,.int .i64 0,.int .i64 0,.bool false,.int .i64 0,.int .i64 0]):=Br0.out.wr R1.out.1 (fun e=>by have e:w.heap.size=q:=e;have:=Nat.le_refl w.heap.size;omega)
   clear R1
   have hp1:w.heap.size≤w1.heap.size:=C1.out.size
   have hp2:=Br1.out.lt
   go_wp2_with fail
   have D1:Hid (Ss q w (w1.alloc (.cells #[.string m,.string ⟨#[]⟩,.int .i64 0,.int .i64 0,.bool false,.int .i64 0,.int .i64 0] 81)) s st1):=C1.out.later (La (Lz _))
   have Er1:Hid (Rl (w1.alloc (.cells #[.string m,.string ⟨#[]⟩,.int .i64 0,.int .i64 0,.bool false,.int .i64 0,.int .i64 0] 81)) w.heap.size 81 [.string ⟨#[]⟩,.string ⟨#[]⟩,.int .i64 0,.int .i64 0,.bool false,.int .i64 0,.int .i64 0]):=Br1.out.later (La (Lz _))
   have Ex1:Hid (Rl (w1.alloc (.cells #[.string m,.string ⟨#[]⟩,.int .i64 0,.int .i64 0,.bool false,.int .i64 0,.int .i64 0] 81)) w1.heap.size 81 [.string m,.string ⟨#[]⟩,.int .i64 0,.int .i64 0,.bool false,.int .i64 0,.int .i64 0]):=row_new w1 81 [.string m,.string ⟨#[]⟩,.int .i64 0,.int .i64 0,.bool false,.int .i64 0,.int .i64 0]
   refine (hn2.out _ D1.out.2).mono ?_
   rintro e2 w2 ⟨rfl,R2⟩
   have C2:Hid (Ss q w w2 s st2):=D1.out.trans R2.out
   have Br2:Hid (Rl w2 w.heap.size 81 [.string ⟨#[]⟩,.string ⟨#[]⟩,.int .i64 0,.int .i64 0,.bool false,.int .i64 0,.int .i64 0]):=Er1.out.wr R2.out.1 (fun e=>by have e:w.heap.size=q:=e;have:=Nat.le_refl w.heap.size;omega)
   have Bx2:Hid (Rl w2 w1.heap.size 81 [.string m,.string ⟨#[]⟩,.int .i64 0,.int .i64 0,.bool false,.int .i64 0,.int .i64 0]):=Ex1.out.wr R2.out.1 (fun e=>by have e:w1.heap.size=q:=e;have:=hp1;omega)
   have a2:w2.cell? ⟨w1.heap.size,1,none⟩=some (.string ⟨#[]⟩):=Bx2.out.cell 1 rfl
   have b2:w2.frozen? ⟨w1.heap.size,1,none⟩=false:=Bx2.out.frozen 1
   have l3:=Bx2.out.lt
   clear R2
   go_wp2_with fail
   have D4:Hid (Ss q w (w2.setCell ⟨w1.heap.size,1,none⟩ (.string nm)) s st2):=C2.out.put hp1 hq 1 _
   have Er4:Hid (Rl (w2.setCell ⟨w1.heap.size,1,none⟩ (.string nm)) w.heap.size 81 [.string ⟨#[]⟩,.string ⟨#[]⟩,.int .i64 0,.int .i64 0,.bool false,.int .i64 0,.int .i64 0]):=Br2.out.off 1 _ (fun e=>by have e:w.heap.size=w1.heap.size:=e;omega)
   have Ex4:Hid (Rl (w2.setCell ⟨w1.heap.size,1,none⟩ (.string nm)) w1.heap.size 81 [.string m,.string nm,.int .i64 0,.int .i64 0,.bool false,.int .i64 0,.int .i64 0]):=Bx2.out.set 1 _
   refine (hb.out _ D4.out.2).mono ?_
   rintro e3 w3 ⟨rfl,R3⟩
   have C3:Hid (Ss q w w3 s st3):=D4.out.trans R3.out
   have Br3:Hid (Rl w3 w.heap.size 81 [.string ⟨#[]⟩,.string ⟨#[]⟩,.int .i64 0,.int .i64 0,.bool false,.int .i64 0,.int .i64 0]):=Er4.out.wr R3.out.1 (fun e=>by have e:w.heap.size=q:=e;have:=Nat.le_refl w.heap.size;omega)
   have Bx3:Hid (Rl w3 w1.heap.size 81 [.string m,.string nm,.int .i64 0,.int .i64 0,.bool false,.int .i64 0,.int .i64 0]):=Ex4.out.wr R3.out.1 (fun e=>by have e:w1.heap.size=q:=e;have:=hp1;omega)
   have a5:w3.cell? ⟨w1.heap.size,2,none⟩=some (.int .i64 0):=Bx3.out.cell 2 rfl
   have b5:w3.frozen? ⟨w1.heap.size,2,none⟩=false:=Bx3.out.frozen 2
   have l6:=Bx3.out.lt
   clear R3
   go_wp2_with fail
   have D7:Hid (Ss q w (w3.setCell ⟨w1.heap.size,2,none⟩ (.int .i64 k)) s st3):=C3.out.put hp1 hq 2 _
   have Er7:Hid (Rl (w3.setCell ⟨w1.heap.size,2,none⟩ (.int .i64 k)) w.heap.size 81 [.string ⟨#[]⟩,.string ⟨#[]⟩,.int .i64 0,.int .i64 0,.bool false,.int .i64 0,.int .i64 0]):=Br3.out.off 2 _ (fun e=>by have e:w.heap.size=w1.heap.size:=e;omega)
   have Ex7:Hid (Rl (w3.setCell ⟨w1.heap.size,2,none⟩ (.int .i64 k)) w1.heap.size 81 [.string m,.string nm,.int .i64 k,.int .i64 0,.bool false,.int .i64 0,.int .i64 0]):=Bx3.out.set 2 _
   refine (hx.out _ D7.out.2).mono ?_
   rintro e4 w4 ⟨rfl,R4⟩
   have C4:Hid (Ss q w w4 s st4):=D7.out.trans R4.out
   have Br4:Hid (Rl w4 w.heap.size 81 [.string ⟨#[]⟩,.string ⟨#[]⟩,.int .i64 0,.int .i64 0,.bool false,.int .i64 0,.int .i64 0]):=Er7.out.wr R4.out.1 (fun e=>by have e:w.heap.size=q:=e;have:=Nat.le_refl w.heap.size;omega)
   have Bx4:Hid (Rl w4 w1.heap.size 81 [.string m,.string nm,.int .i64 k,.int .i64 0,.bool false,.int .i64 0,.int .i64 0]):=Ex7.out.wr R4.out.1 (fun e=>by have e:w1.heap.size=q:=e;have:=hp1;omega)
   have a8:w4.cell? ⟨w1.heap.size,0,none⟩=some (.string m):=Bx4.out.cell 0 rfl
   have b8:w4.frozen? ⟨w1.heap.size,0,none⟩=false:=Bx4.out.frozen 0
   have a9:w4.cell? ⟨w1.heap.size,1,none⟩=some (.string nm):=Bx4.out.cell 1 rfl
   have b9:w4.frozen? ⟨w1.heap.size,1,none⟩=false:=Bx4.out.frozen 1
   have a10:w4.cell? ⟨w1.heap.size,2,none⟩=some (.int .i64 k):=Bx4.out.cell 2 rfl
   have b10:w4.frozen? ⟨w1.heap.size,2,none⟩=false:=Bx4.out.frozen 2
   have a11:w4.cell? ⟨w1.heap.size,3,none⟩=some (.int .i64 0):=Bx4.out.cell 3 rfl
   have b11:w4.frozen? ⟨w1.heap.size,3,none⟩=false:=Bx4.out.frozen 3
   have a12:w4.cell? ⟨w1.heap.size,4,none⟩=some (.bool false):=Bx4.out.cell 4 rfl
   have b12:w4.frozen? ⟨w1.heap.size,4,none⟩=false:=Bx4.out.frozen 4
   have a13:w4.cell? ⟨w1.heap.size,5,none⟩=some (.int .i64 0):=Bx4.out.cell 5 rfl
   have b13:w4.frozen? ⟨w1.heap.size,5,none⟩=false:=Bx4.out.frozen 5
   have a14:w4.cell? ⟨w1.heap.size,6,none⟩=some (.int .i64 0):=Bx4.out.cell 6 rfl
   have b14:w4.frozen? ⟨w1.heap.size,6,none⟩=false:=Bx4.out.frozen 6
   have a15:w4.cell? ⟨w.heap.size,0,none⟩=some (.string ⟨#[]⟩):=Br4.out.cell 0 rfl
   have b15:w4.frozen? ⟨w.heap.size,0,none⟩=false:=Br4.out.frozen 0
   have a16:w4.cell? ⟨w.heap.size,1,none⟩=some (.string ⟨#[]⟩):=Br4.out.cell 1 rfl
   have b16:w4.frozen? ⟨w.heap.size,1,none⟩=false:=Br4.out.frozen 1
   have a17:w4.cell? ⟨w.heap.size,2,none⟩=some (.int .i64 0):=Br4.out.cell 2 rfl
   have b17:w4.frozen? ⟨w.heap.size,2,none⟩=false:=Br4.out.frozen 2
   have a18:w4.cell? ⟨w.heap.size,3,none⟩=some (.int .i64 0):=Br4.out.cell 3 rfl
   have b18:w4.frozen? ⟨w.heap.size,3,none⟩=false:=Br4.out.frozen 3
   have a19:w4.cell? ⟨w.heap.size,4,none⟩=some (.bool false):=Br4.out.cell 4 rfl
   have b19:w4.frozen? ⟨w.heap.size,4,none⟩=false:=Br4.out.frozen 4
   have a20:w4.cell? ⟨w.heap.size,5,none⟩=some (.int .i64 0):=Br4.out.cell 5 rfl
   have b20:w4.frozen? ⟨w.heap.size,5,none⟩=false:=Br4.out.frozen 5
   have a21:w4.cell? ⟨w.heap.size,6,none⟩=some (.int .i64 0):=Br4.out.cell 6 rfl
   have b21:w4.frozen? ⟨w.heap.size,6,none⟩=false:=Br4.out.frozen 6
   have l22:=Bx4.out.lt
   have l23:=Br4.out.lt
   clear R4
   go_wp2_with fail
   refine bodyPost_ret (v:=.agg #[.string m,.string nm,.int .i64 k,.int .i64 0,.bool false,.int .i64 0,.int .i64 0]) (by simp [results,Tryz.results30,go_sem,a8,a9,a10,a11,a12,a13,a14,a15,a16,a17,a18,a19,a20,a21,l22,l23]) rfl ⟨rfl,by (repeat refine Ss.put ?_ (by first|exact Nat.le_refl _|exact hp1) hq _ _);exact C4.out⟩
end Go.Proofs.YtngciahmoenkiaaGreat
namespace Go.Proofs.YtngciahmoenkiaaGreat
open Go.RowKit
def slocs (s:ByteArray):Nat→List Int→Sst→List Int×Sst
 | 0,ls,st=>(ls,st)
 | k+1,ls,st=>if st.code=0 then (if 256 - (ls.length:Int)<(snum s st).1 then (ls,sfail (snum s st).2 1508) else slocs s k (ls++List.replicate (snum s st).1.toNat (skind s (snum s st).2).1) (skind s (snum s st).2).2) else (ls,st)
theorem slocs_bad (s:ByteArray) (k:Nat) (ls:List Int) (st:Sst) (h:¬st.code=0):slocs s k ls st=(ls,st):=by
 cases k with
 | zero=>rfl
 | succ k=>rw [slocs,if_neg h]
theorem slocs_in {s:ByteArray}:∀(k:Nat) (ls:List Int) (st:Sst),Sin s st→Sin s (slocs s k ls st).2
 | 0,ls,st,h=>h
 | k+1,ls,st,h=>by
  rw [slocs]
  split
  · split
    · exact sfail_in (snum_in h) _
    · exact slocs_in k _ _ (skind_in (snum_in h))
  · exact h
theorem slocs_len {s:ByteArray}:∀(k:Nat) (ls:List Int) (st:Sst),ls.length≤256→(slocs s k ls st).1.length≤256
 | 0,ls,st,h=>h
 | k+1,ls,st,h=>by
  rw [slocs]
  split
  · split
    · exact h
    · have:=snum_rng (s:=s) (st:=st)
      refine slocs_len k _ _ ?_
      rw [List.length_append,List.length_replicate]
      omega
  · exact h
def sclose (size from_:Int) (st:Sst):Sst:=if st.code=0∧¬st.at_ - from_=size then sfail st 1504 else st
def sbody (s:ByteArray) (st:Sst):(List Int×Fs)×Sst :=
 (((slocs s (smany s 1024 (snum s st).2).1.toNat [] (smany s 1024 (snum s st).2).2).1,(sinstrs s (slocs s (smany s 1024 (snum s st).2).1.toNat [] (smany s 1024 (snum s st).2).2).2).1),
  sclose (snum s st).1 (snum s st).2.at_ (sinstrs s (slocs s (smany s 1024 (snum s st).2).1.toNat [] (smany s 1024 (snum s st).2).2).2).2)
theorem Mk.grow {α:Type} {f:α→List Fd} {e t:TypeId} {B k by_:Nat} {v:Value} {xs:List α} {S:Nat→Prop} {wr w2:World} (hM:Mk f B e k wr v xs) (hB:B≤wr.heap.size) (hT:Ti t e k by_) (ty:TypeId) (x:α) (hf:(f x).length=k) (c:List Value) (hn:(xs.length+1)*by_≤140737488355328) (h63:xs.length+1≤1000000000) (W2:Wr S wr w2) (hS:∀j,S j→j<B) (hc:itc (wr.heap.size≤·) w2 (f x) c) :
    ∃g cap w',(Builtin.append_ #[t,t] ty #[v,.slice (some ⟨w2.heap.size,0,none⟩) 1 1]).run Tryz.prog (w2.alloc (.cells c.toArray e))=.ok (.slice (some ⟨g,0,none⟩) (xs.length+1) cap) w'∧Mk f B e k w' (.slice (some ⟨g,0,none⟩) (xs.length+1) cap) (xs++[x])∧Wr (B≤·) w2 w' :=
 hM.more (w:=w2) hT ty hB W2.size (fun j hj hl=>W2.block j hl (fun e=>by have:=hS j e;omega)) x hf c hc hn h63
theorem Wr.low {B k:Nat} {w w':World} (h:Wr (fun j=>j<B) w w') (i:Nat) (v:Value) (hk:k<B):Wr (fun j=>j<B) w (w'.setCell ⟨k,i,none⟩ v):=h.set i v (Or.inl hk)
theorem uni_rng (s:ByteArray) (at_:Int) (h:(unI s at_).2.2=0):0≤(unI s at_).2.1∧(unI s at_).2.1≤s.size:=by
 unfold unI at h ⊢
 split at h
 · rename_i h1
   rw [if_pos h1]
   split at h
   · rename_i h2
     rw [if_pos h2]
     exact ((rl_ge (s:=s) (s.size+1)) 0 false ⟨at_,0,0⟩ h1).1.1
   · rename_i h2
     exact absurd h h2
 · simp at h
theorem sinstrs_in {s:ByteArray} {st:Sst} (h:Sin s st):Sin s (sinstrs s st).2:=by
 unfold sinstrs
 split
 · exact h
 · split
   · rename_i h1
     exact uni_rng s st.at_ h1
   · split <;> exact sfail_in h _
variable {q:Nat} {w wr wr':World} {s:ByteArray} {st st':Sst}
theorem sbody_any (hs:s.size<9223372036854775000) (hin:Sin s st) (w:World) (h:w.rowIs q 48 3 (sF s st)) :
    Calls Tryz.prog 37 #[.pointer (some ⟨q,0,none⟩)] w fun e' w'=>∃A c B c',e'=.returned (.agg #[.slice A (sbody s st).1.1.length c,.slice B (sbody s st).1.2.len c'])∧Hid (Lq (w.heap.size≤·) w' A (sbody s st).1.1)∧Hid (Tr (w.heap.size≤·) w' B (sbody s st).1.2)∧Hid (Ss q w w' s (sbody s st).2):=by
 have hq:=h.lt
 unfold sbody
 have hn:Hid (∀(st1:Sst) (W:World),W.rowIs q 48 3 (sF s st1)→Calls Tryz.prog 31 #[.pointer (some ⟨q,0,none⟩)] W fun e' w'=>e'=.returned (.int .i64 (snum s st1).1)∧Hid (Ss q W w' s (snum s st1).2)):=fun st1 W hW=>snum_any hs W hW
 have h1:=hn.out st
 have i1:=snum_in hin
 generalize snum s st=K1 at *
 obtain⟨size,at1,cd1⟩:=K1
 simp only [] at h1 i1 ⊢
 have h2:∀W:World,W.rowIs q 48 3 (sF s ⟨at1,cd1⟩)→Calls Tryz.prog 27 #[.pointer (some ⟨q,0,none⟩),.int .i64 1024] W fun e' w'=>e'=.returned (.int .i64 (smany s 1024 ⟨at1,cd1⟩).1)∧Hid (Ss q W w' s (smany s 1024 ⟨at1,cd1⟩).2):=fun W hW=>smany_any hs 1024 W hW
 have hr:=smany_rng (s:=s) (st:=⟨at1,cd1⟩) (m:=1024) (by decide)
 have i2:=smany_in i1 1024
 generalize smany s 1024 ⟨at1,cd1⟩=K2 at *
 obtain⟨k0,st2⟩:=K2
 simp only [] at h2 hr i2 ⊢
 obtain⟨k,rfl⟩:=Int.eq_ofNat_of_zero_le hr.1
 rw [Int.toNat_natCast]
 have hk:k≤1024:=by omega
 replace h1:Hid _:=h1
 replace h2:Hid _:=h2
 replace i1:Hid _:=i1
 replace i2:Hid _:=i2
 have C0:Hid (Ss q w ((w.alloc (.cells #[.slice none 0 0,.slice none 0 0] 63)).alloc (.cells #[.slice none 0 0,.slice none 0 0] 63)) s st):=(Ss.start h).later (La (La (Lz _)))
 have Br0:Hid (Rl ((w.alloc (.cells #[.slice none 0 0,.slice none 0 0] 63)).alloc (.cells #[.slice none 0 0,.slice none 0 0] 63)) w.heap.size 63 [.slice none 0 0,.slice none 0 0]):=Rl.later (row_new w 63 [.slice none 0 0,.slice none 0 0]) (La (Lz _))
 clear hin h hr
 go_enter Tryz.func37,Tryz.ntmps37
 go_wp2_with fail
 refine (h1.out _ C0.out.2).mono ?_
 clear h1
 rintro e1 w1 ⟨rfl,R1⟩
 have a1:w1.cell? ⟨q,1,none⟩=some (.int .i64 at1):=R1.out.cell 1 (by decide)
 have l1:=cell_lt a1
 go_wp2_with fail
 refine (h2.out _ R1.out.2).mono ?_
 clear h2
 rintro e2 w2 ⟨rfl,R2⟩
 go_wp2_with fail
 have Bc0:Hid (Rl ((w.alloc (.cells #[.slice none 0 0,.slice none 0 0] 63)).alloc (.cells #[.slice none 0 0,.slice none 0 0] 63)) (w.heap.size+1) 63 [.slice none 0 0,.slice none 0 0]):=by
  have:=row_new (w.alloc (.cells #[.slice none 0 0,.slice none 0 0] 63)) 63 [.slice none 0 0,.slice none 0 0]
  rwa [show (w.alloc (.cells #[.slice none 0 0,.slice none 0 0] 63)).heap.size=w.heap.size+1 by simp] at this
 have C2:Hid (Ss q w w2 s st2):=(C0.out.trans R1.out).trans R2.out
 have Br2:Hid (Rl w2 w.heap.size 63 [.slice none 0 0,.slice none 0 0]):=Br0.out.wr (R1.out.trans R2.out).1 (fun e=>by have e:w.heap.size=q:=e;omega)
 have Bc2:Hid (Rl w2 (w.heap.size+1) 63 [.slice none 0 0,.slice none 0 0]):=Bc0.out.wr (R1.out.trans R2.out).1 (fun e=>by have e:w.heap.size+1=q:=e;omega)
 have hB2:w.heap.size+2≤w2.heap.size:=by have:=(R1.out.trans R2.out).size;simp at this;omega
 clear R1 R2 C0 Br0 Bc0 a1 l1
 go_loopw [7] (fun i wr=>∃(n:Nat) (ls:List Int) (st3:Sst) (A:Option Addr) (cap:Nat),i=.int .i64 (n:Nat)∧n≤k∧ls.length≤256∧Mk f1 (w.heap.size+2) 3 1 wr (.slice A ls.length cap) ls∧Rl wr (w.heap.size+1) 63 [.slice A ls.length cap,.slice none 0 0]∧Rl wr w.heap.size 63 [.slice none 0 0,.slice none 0 0]∧Ss q w wr s st3∧Sin s st3∧w.heap.size+2≤wr.heap.size∧slocs s k [] st2=slocs s (k - n) ls st3) (fun i _=>k - (intOf i).toNat)
 case atStart=>exact⟨0,[],st2,none,0,rfl,Nat.zero_le _,Nat.zero_le _,Mk.start _,Bc2.out,Br2.out,C2.out,i2.out,hB2,rfl⟩
 case round =>
  obtain⟨n,ls,⟨a3,c3⟩,A,cap,rfl,hnk,hls,hM,hX,hY,R3,i3,hB3,htot⟩:=hrel
  clear C2 Br2 Bc2 hB2 i2
  have c2:wr.cell? ⟨q,2,none⟩=some (.int .i64 c3):=R3.cell 2 (by decide)
  have hl:=cell_lt c2
  by_cases hlt:n<k
  · have hl1:(n:Int)<(k:Int):=by omega
    by_cases hc:c3=0
    · subst hc
      have hna:=hn.out ⟨a3,0⟩ wr R3.2
      have ia:=snum_in i3
      have hra:=snum_rng (s:=s) (st:=⟨a3,0⟩)
      obtain⟨m',hm'⟩:∃m',k - n=m'+1:=⟨k - n - 1,by omega⟩
      rw [hm',slocs,if_pos rfl] at htot
      generalize snum s ⟨a3,0⟩=Ka at *
      obtain⟨many,st5⟩:=Ka
      simp only [] at hna ia hra htot
      obtain⟨mn,rfl⟩:=Int.eq_ofNat_of_zero_le hra.1
      rw [Int.toNat_natCast] at htot
      replace hna:Hid (Calls Tryz.prog 31 #[.pointer (some ⟨q,0,none⟩)] wr fun e' w'=>e'=.returned (.int .i64 (mn:Nat))∧Hid (Ss q wr w' s st5)):=hna
      by_cases hov:256 - (ls.length:Int)<(mn:Int)
      · rw [if_pos hov] at htot
        have hf:Hid (∀W,W.rowIs q 48 3 (sF s st5)→Calls Tryz.prog 16 #[.pointer (some ⟨q,0,none⟩),.int .i64 1508] W fun e' w'=>e'=.returned (.tuple #[])∧Hid (Ss q W w' s (sfail st5 1508))):=fun W hW=>sfail_any 1508 W hW
        have ib:=sfail_in ia 1508
        generalize sfail st5 1508=st6 at *
        replace hM:Hid (Mk f1 (w.heap.size+2) 3 1 wr (.slice A ls.length cap) ls):=hM
        replace hX:Hid (Rl wr (w.heap.size+1) 63 [.slice A ls.length cap,.slice none 0 0]):=hX
        replace hY:Hid (Rl wr w.heap.size 63 [.slice none 0 0,.slice none 0 0]):=hY
        replace R3:Hid (Ss q w wr s ⟨a3,0⟩):=R3
        replace htot:Hid (slocs s k [] st2=(ls,st6)):=htot
        replace ib:Hid (Sin s st6):=ib
        clear i3 ia hm' hra hn
        go_wp2_with fail
        refine hna.out.mono ?_
        clear hna
        rintro ea wa ⟨rfl,Ra⟩
        have Xa:Hid (Rl wa (w.heap.size+1) 63 [.slice A ls.length cap,.slice none 0 0]):=hX.out.wr Ra.out.1 (fun e=>by have e:w.heap.size+1=q:=e;omega)
        have x0:wa.cell? ⟨w.heap.size+1,0,none⟩=some (.slice A ls.length cap):=Xa.out.cell 0 rfl
        have y0:=cell_lt x0
        go_wp2_with fail
        refine (hf.out _ Ra.out.2).mono ?_
        clear hf
        rintro eb wb ⟨rfl,Rb⟩
        have Rab:=Ra.out.trans Rb.out
        have hM:=hM.out.wr Rab.1 (fun j e=>by have e:j=q:=e;omega)
        have hX:=Xa.out.wr Rb.out.1 (fun e=>by have e:w.heap.size+1=q:=e;omega)
        have hY:=hY.out.wr Rab.1 (fun e=>by have e:w.heap.size=q:=e;omega)
        have R3:=R3.out.trans Rab
        have hB3:w.heap.size+2≤wb.heap.size:=Nat.le_trans hB3 Rab.size
        have i3:=ib.out
        have htot:=htot.out
        clear Rab Ra Rb Xa ib x0 y0 hov
        obtain⟨⟨f,a4,c4⟩,hE⟩:∃X,sinstrs s st6=X:=⟨_,rfl⟩
        have hx:Hid (∀W:World,W.rowIs q 48 3 (sF s st6)→Calls Tryz.prog 35 #[.pointer (some ⟨q,0,none⟩)] W fun e' w'=>∃A c,e'=.returned (.slice A f.len c)∧Hid (Tr (W.heap.size≤·) w' A f)∧Hid (Ss q W w' s ⟨a4,c4⟩)):=fun W hW=>by
         have:=sinstrs_any hs W hW
         rw [hE] at this
         exact this
        have i4:Sin s ⟨a4,c4⟩:=by
         have:=sinstrs_in i3
         rw [hE] at this
         exact this
        have hsub:Hid (-9223372036854775808≤a4 - at1∧a4 - at1≤9223372036854775807):=by
         have x1:=i1.out.1
         have x2:=i1.out.2
         have x3:=i4.1
         have x4:=i4.2
         simp only [] at x1 x2 x3 x4
         exact⟨by omega,by omega⟩
        replace htot:Hid (slocs s k [] st2=(ls,st6)):=htot
        replace hE:Hid (sinstrs s st6=(f,⟨a4,c4⟩)):=hE
        replace hM:Hid (Mk f1 (w.heap.size+2) 3 1 wb (.slice A ls.length cap) ls):=hM
        replace hX:Hid (Rl wb (w.heap.size+1) 63 [.slice A ls.length cap,.slice none 0 0]):=hX
        replace hY:Hid (Rl wb w.heap.size 63 [.slice none 0 0,.slice none 0 0]):=hY
        replace R3:Hid (Ss q w wb s st6):=R3
        have hw:wrap64 (a4 - at1)=a4 - at1:=by have:=hsub.out;unfold wrap64;omega
        replace hw:Hid (wrap64 (a4 - at1)=a4 - at1):=hw
        clear i3 i4 hsub
        go_wp2_with fail
        refine (hx.out _ R3.out.2).mono ?_
        clear hx
        rintro e5 w5 ⟨Bf,c5,rfl,T5,R5⟩
        have X5:Hid (Rl w5 (w.heap.size+1) 63 [.slice A ls.length cap,.slice none 0 0]):=hX.out.wr R5.out.1 (fun e=>by have e:w.heap.size+1=q:=e;omega)
        have Y5:Hid (Rl w5 w.heap.size 63 [.slice none 0 0,.slice none 0 0]):=hY.out.wr R5.out.1 (fun e=>by have e:w.heap.size=q:=e;omega)
        have C5:Hid (Ss q w w5 s ⟨a4,c4⟩):=R3.out.trans R5.out
        have M5:Hid (Mk f1 (w.heap.size+2) 3 1 w5 (.slice A ls.length cap) ls):=hM.out.wr R5.out.1 (fun j e=>by have e:j=q:=e;omega)
        have hz5:w.heap.size+2≤w5.heap.size:=Nat.le_trans hB3 R5.out.size
        have T6:Hid (Tr (w.heap.size+2≤·) w5 Bf f):=T5.out.mono (fun j hj=>Nat.le_trans hB3 hj)
        have x0:w5.cell? ⟨w.heap.size+1,0,none⟩=some (.slice A ls.length cap):=X5.out.cell 0 rfl
        have x1:w5.cell? ⟨w.heap.size+1,1,none⟩=some (.slice none 0 0):=X5.out.cell 1 rfl
        have x2:w5.frozen? ⟨w.heap.size+1,1,none⟩=false:=X5.out.frozen 1
        have x3:w5.cell? ⟨w.heap.size,0,none⟩=some (.slice none 0 0):=Y5.out.cell 0 rfl
        have x4:w5.cell? ⟨w.heap.size,1,none⟩=some (.slice none 0 0):=Y5.out.cell 1 rfl
        have x5:w5.frozen? ⟨w.heap.size,0,none⟩=false:=Y5.out.frozen 0
        have x6:w5.frozen? ⟨w.heap.size,1,none⟩=false:=Y5.out.frozen 1
        have x7:w5.cell? ⟨q,1,none⟩=some (.int .i64 a4):=C5.out.cell 1 (by decide)
        have x8:w5.cell? ⟨q,2,none⟩=some (.int .i64 c4):=C5.out.cell 2 (by decide)
        have y1:q≠w.heap.size+1:=by omega
        have y2:q≠w.heap.size:=by omega
        have y3:=cell_lt x7
        have y4:=cell_lt x0
        have y5:=cell_lt x3
        have C6:Hid (Ss q w (w5.setCell ⟨w.heap.size+1,1,none⟩ (.slice Bf f.len c5)) s ⟨a4,c4⟩):=C5.out.put (Nat.le_succ _) hq 1 _
        clear hX hY R3 R5 T5 hM
        have hfin:Hid (∀(W:World) (st9:Sst),Wr (fun j=>j<w.heap.size+2) w5 W→Ss q w W s st9→sclose size at1 ⟨a4,c4⟩=st9→(Lq (w.heap.size≤·) W A (slocs s k [] st2).1∧Tr (w.heap.size≤·) W Bf (sinstrs s (slocs s k [] st2).2).1∧Ss q w W s (sclose size at1 (sinstrs s (slocs s k [] st2).2).2))∧(slocs s k [] st2).1.length=ls.length∧(sinstrs s (slocs s k [] st2).2).1.len=f.len):=by
         intro W st9 hW hS he
         rw [htot.out]
         simp only []
         rw [hE.out]
         simp only []
         rw [he]
         refine⟨⟨((M5.out.wr hW (fun j e=>e)).rt.lq).mono (fun j hj=>by have hj:w.heap.size+2≤j:=hj;show w.heap.size≤j;omega),(T6.out.keep (fun j hj hl=>hW.block j hl (fun e=>by have e:j<w.heap.size+2:=e;have hj:w.heap.size+2≤j:=hj;omega))).mono (fun j hj=>by have hj:w.heap.size+2≤j:=hj;show w.heap.size≤j;omega),hS⟩,(by first|rfl|trivial),(by first|rfl|trivial)⟩
        clear T6 M5 htot hE
        by_cases hc4:c4=0
        · subst hc4
          by_cases hd:a4 - at1=size
          · have hd2:(wrap64 (a4 - at1) != size)=false:=by rw [hw.out,hd];simp
            have he:Hid (sclose size at1 ⟨a4,0⟩=⟨a4,0⟩):=if_neg (fun x=>x.2 hd)
            clear hw hd X5 Y5
            go_wp2_with fail
            refine bodyPost_ret (v:=.agg #[.slice A ls.length cap,.slice Bf f.len c5]) (by simp [results,Tryz.results37,go_sem,x0,x1,x3,x4,y3,y4,y5]) rfl ?_
            obtain⟨F1,F2,F3⟩:=hfin.out _ ⟨a4,0⟩ ((((Wr.refl (fun j=>j<w.heap.size+2) w5).low (k:=w.heap.size+1) 1 _ (by omega)).low (k:=w.heap.size) 0 _ (by omega)).low (k:=w.heap.size) 1 _ (by omega)) (((C6.out.put (Nat.le_refl _) hq 0 _).put (Nat.le_refl _) hq 1 _)) he.out
            exact⟨A,cap,Bf,c5,by rw [F2,F3],F1.1,F1.2.1,F1.2.2⟩
          · have hd2:(wrap64 (a4 - at1) != size)=true:=by rw [hw.out];simpa using hd
            have he:Hid (sclose size at1 ⟨a4,0⟩=sfail ⟨a4,0⟩ 1504):=if_pos ⟨rfl,hd⟩
            have hf:Hid (∀W,W.rowIs q 48 3 (sF s ⟨a4,0⟩)→Calls Tryz.prog 16 #[.pointer (some ⟨q,0,none⟩),.int .i64 1504] W fun e' w'=>e'=.returned (.tuple #[])∧Hid (Ss q W w' s (sfail ⟨a4,0⟩ 1504))):=fun W hW=>sfail_any 1504 W hW
            generalize sfail ⟨a4,0⟩ 1504=st9 at *
            have V6:Hid (Wr (fun j=>j<w.heap.size+2) w5 (w5.setCell ⟨w.heap.size+1,1,none⟩ (.slice Bf f.len c5))):=(Wr.refl _ _).low 1 _ (by omega)
            have X6:Hid (Rl (w5.setCell ⟨w.heap.size+1,1,none⟩ (.slice Bf f.len c5)) (w.heap.size+1) 63 [.slice A ls.length cap,.slice Bf f.len c5]):=X5.out.set 1 _
            have Y6:Hid (Rl (w5.setCell ⟨w.heap.size+1,1,none⟩ (.slice Bf f.len c5)) w.heap.size 63 [.slice none 0 0,.slice none 0 0]):=Y5.out.off 1 _ (by omega)
            clear hw hd X5 Y5
            go_wp2_with fail
            refine (hf.out _ C6.out.2).mono ?_
            clear hf
            rintro e6 w6 ⟨rfl,R6⟩
            have X7:=X6.out.wr R6.out.1 (fun e=>by have e:w.heap.size+1=q:=e;omega)
            have Y7:=Y6.out.wr R6.out.1 (fun e=>by have e:w.heap.size=q:=e;omega)
            have z0:w6.cell? ⟨w.heap.size+1,0,none⟩=some (.slice A ls.length cap):=X7.cell 0 rfl
            have z1:w6.cell? ⟨w.heap.size+1,1,none⟩=some (.slice Bf f.len c5):=X7.cell 1 rfl
            have z3:w6.cell? ⟨w.heap.size,0,none⟩=some (.slice none 0 0):=Y7.cell 0 rfl
            have z4:w6.cell? ⟨w.heap.size,1,none⟩=some (.slice none 0 0):=Y7.cell 1 rfl
            have z5:w6.frozen? ⟨w.heap.size,0,none⟩=false:=Y7.frozen 0
            have z6:w6.frozen? ⟨w.heap.size,1,none⟩=false:=Y7.frozen 1
            have z7:=cell_lt z0
            have z8:=cell_lt z3
            clear X7 Y7 x0 x1 x2 x3 x4 x5 x6 x7 x8
            go_wp2_with fail
            refine bodyPost_ret (v:=.agg #[.slice A ls.length cap,.slice Bf f.len c5]) (by simp [results,Tryz.results37,go_sem,z0,z1,z3,z4,z7,z8]) rfl ?_
            obtain⟨F1,F2,F3⟩:=hfin.out _ st9 (((V6.out.trans (R6.out.1.mono (fun j _ e=>by have e:j=q:=e;show j<w.heap.size+2;omega))).low (k:=w.heap.size) 0 _ (by omega)).low (k:=w.heap.size) 1 _ (by omega)) ((((C6.out.trans R6.out).put (Nat.le_refl _) hq 0 _).put (Nat.le_refl _) hq 1 _)) he.out
            exact⟨A,cap,Bf,c5,by rw [F2,F3],F1.1,F1.2.1,F1.2.2⟩
        · have hc5:(c4==0)=false:=beq_false hc4
          have he:Hid (sclose size at1 ⟨a4,c4⟩=⟨a4,c4⟩):=if_neg (fun x=>hc4 x.1)
          clear hw X5 Y5
          go_wp2_with fail
          refine bodyPost_ret (v:=.agg #[.slice A ls.length cap,.slice Bf f.len c5]) (by simp [results,Tryz.results37,go_sem,x0,x1,x3,x4,y3,y4,y5]) rfl ?_
          obtain⟨F1,F2,F3⟩:=hfin.out _ ⟨a4,c4⟩ ((((Wr.refl (fun j=>j<w.heap.size+2) w5).low (k:=w.heap.size+1) 1 _ (by omega)).low (k:=w.heap.size) 0 _ (by omega)).low (k:=w.heap.size) 1 _ (by omega)) (((C6.out.put (Nat.le_refl _) hq 0 _).put (Nat.le_refl _) hq 1 _)) he.out
          exact⟨A,cap,Bf,c5,by rw [F2,F3],F1.1,F1.2.1,F1.2.2⟩
      · rw [if_neg hov] at htot
        have hkd:∀W,W.rowIs q 48 3 (sF s st5)→Calls Tryz.prog 33 #[.pointer (some ⟨q,0,none⟩)] W fun e' w'=>e'=.returned (.int .i64 (skind s st5).1)∧Hid (Ss q W w' s (skind s st5).2):=fun W hW=>skind_any hs ia W hW
        have ib:=skind_in ia
        generalize skind s st5=Kb at *
        obtain⟨t,st6⟩:=Kb
        simp only [] at hkd ib htot
        replace hkd:Hid (∀W,W.rowIs q 48 3 (sF s st5)→Calls Tryz.prog 33 #[.pointer (some ⟨q,0,none⟩)] W fun e' w'=>e'=.returned (.int .i64 t)∧Hid (Ss q W w' s st6)):=hkd
        replace hM:Hid (Mk f1 (w.heap.size+2) 3 1 wr (.slice A ls.length cap) ls):=hM
        replace hX:Hid (Rl wr (w.heap.size+1) 63 [.slice A ls.length cap,.slice none 0 0]):=hX
        replace hY:Hid (Rl wr w.heap.size 63 [.slice none 0 0,.slice none 0 0]):=hY
        replace R3:Hid (Ss q w wr s ⟨a3,0⟩):=R3
        replace htot:Hid (slocs s k [] st2=slocs s m' (ls++List.replicate mn t) st6):=htot
        replace ib:Hid (Sin s st6):=ib
        replace hm':Hid (k - n=m'+1):=hm'
        have hov2:Hid (ls.length+mn≤256):=by show ls.length+mn≤256;omega
        clear i3 ia hra hn
        go_wp2_with fail
        refine hna.out.mono ?_
        clear hna
        rintro ea wa ⟨rfl,Ra⟩
        have Xa:Hid (Rl wa (w.heap.size+1) 63 [.slice A ls.length cap,.slice none 0 0]):=hX.out.wr Ra.out.1 (fun e=>by have e:w.heap.size+1=q:=e;omega)
        have x0:wa.cell? ⟨w.heap.size+1,0,none⟩=some (.slice A ls.length cap):=Xa.out.cell 0 rfl
        have y0:=cell_lt x0
        go_wp2_with fail
        refine (hkd.out _ Ra.out.2).mono ?_
        clear hkd
        rintro eb wb ⟨rfl,Rb⟩
        have Rab:Hid (Ss q wr wb s st6):=Ra.out.trans Rb.out
        have hM1:Hid (Mk f1 (w.heap.size+2) 3 1 wb (.slice A ls.length cap) ls):=hM.out.wr Rab.out.1 (fun j e=>by have e:j=q:=e;omega)
        have hX1:Hid (Rl wb (w.heap.size+1) 63 [.slice A ls.length cap,.slice none 0 0]):=Xa.out.wr Rb.out.1 (fun e=>by have e:w.heap.size+1=q:=e;omega)
        have hY1:Hid (Rl wb w.heap.size 63 [.slice none 0 0,.slice none 0 0]):=hY.out.wr Rab.out.1 (fun e=>by have e:w.heap.size=q:=e;omega)
        have R4:Hid (Ss q w wb s st6):=R3.out.trans Rab.out
        have hB4:w.heap.size+2≤wb.heap.size:=Nat.le_trans hB3 Rab.out.size
        clear Rab Ra Rb Xa x0 y0 hM hX hY R3 c2 hl hB3 hov
        go_wp2_with fail
        go_loopw [10] (fun j wi=>∃(m:Nat) (A1:Option Addr) (cap1:Nat),j=.int .i64 (m:Nat)∧m≤mn∧Mk f1 (w.heap.size+2) 3 1 wi (.slice A1 (ls.length+m) cap1) (ls++List.replicate m t)∧Rl wi (w.heap.size+1) 63 [.slice A1 (ls.length+m) cap1,.slice none 0 0]∧Rl wi w.heap.size 63 [.slice none 0 0,.slice none 0 0]∧Ss q w wi s st6∧w.heap.size+2≤wi.heap.size) (fun j _=>mn - (intOf j).toNat)
        case atStart=>exact⟨0,A,cap,rfl,Nat.zero_le _,by rw [List.replicate_zero,List.append_nil];exact hM1.out,hX1.out,hY1.out,R4.out,hB4⟩
        case round =>
         obtain⟨m,A1,cap1,rfl,hm,hM2,hX2,hY2,R5,hB5⟩:=hrel
         clear hM1 hX1 hY1 R4 hB4
         by_cases hmm:m<mn
         · have hmi:(m:Int)<(mn:Int):=by omega
           have x0:wr.cell? ⟨w.heap.size+1,0,none⟩=some (.slice A1 (ls.length+m) cap1):=hX2.cell 0 rfl
           have y0:=cell_lt x0
           have hlr:(ls++List.replicate m t).length=ls.length+m:=by rw [List.length_append,List.length_replicate]
           obtain⟨g,cap2,w',r2,M',V'⟩:=hM2.grow (S:=fun _=>False) (w2:=wr) hB5 ti_int 24 t rfl [.int .i64 t] (by have:=hov2.out;omega) (by have:=hov2.out;omega) (Wr.refl _ _) (fun j e=>e.elim) ⟨_,[],rfl,rfl,rfl⟩
           rw [hlr] at r2 M'
           have X3:=hX2.wr V' (fun e=>by have e:w.heap.size+2≤w.heap.size+1:=e;omega)
           have x3:w'.cell? ⟨w.heap.size+1,0,none⟩=some (.slice A1 (ls.length+m) cap1):=X3.cell 0 rfl
           have x4:w'.frozen? ⟨w.heap.size+1,0,none⟩=false:=X3.frozen 0
           have y3:=cell_lt x3
           have hend:Hid (Mk f1 (w.heap.size+2) 3 1 (w'.setCell ⟨w.heap.size+1,0,none⟩ (.slice (some ⟨g,0,none⟩) (ls.length+m+1) cap2)) (.slice (some ⟨g,0,none⟩) (ls.length+(m+1)) cap2) (ls++List.replicate (m+1) t)∧Rl (w'.setCell ⟨w.heap.size+1,0,none⟩ (.slice (some ⟨g,0,none⟩) (ls.length+m+1) cap2)) (w.heap.size+1) 63 [.slice (some ⟨g,0,none⟩) (ls.length+(m+1)) cap2,.slice none 0 0]∧Rl (w'.setCell ⟨w.heap.size+1,0,none⟩ (.slice (some ⟨g,0,none⟩) (ls.length+m+1) cap2)) w.heap.size 63 [.slice none 0 0,.slice none 0 0]∧Ss q w (w'.setCell ⟨w.heap.size+1,0,none⟩ (.slice (some ⟨g,0,none⟩) (ls.length+m+1) cap2)) s st6∧w.heap.size+2≤(w'.setCell ⟨w.heap.size+1,0,none⟩ (.slice (some ⟨g,0,none⟩) (ls.length+m+1) cap2)).heap.size):=by
            refine⟨?_,X3.set 0 _,Rl.off (hY2.wr V' (fun e=>by have e:w.heap.size+2≤w.heap.size:=e;omega)) 0 _ (by omega),(R5.above V' (by omega) (by omega)).put (Nat.le_succ _) hq 0 _,?_⟩
            · have:=M'.wr ((Wr.refl (fun j=>j<w.heap.size+2) w').low (k:=w.heap.size+1) 0 (.slice (some ⟨g,0,none⟩) (ls.length+m+1) cap2) (by omega)) (fun j e=>e)
              rw [List.append_assoc,←List.replicate_succ'] at this
              exact this
            · have:=V'.size
              simp [World.setCell]
              omega
           replace r2:Hid _:=r2
           have hov3:=hov2.out
           clear M' V' X3 hM2 hX2 hY2 R5 hlr hk htot ib hm' i1
           go_wp2_with (at_builtin;refine wpList_app rfl _ _ 24 rfl _ _ _ rfl rfl r2.out ?_;clear r2)
           go_roundw
           case rel=>exact⟨m+1,some ⟨g,0,none⟩,cap2,by go_num,hmm,hend.out⟩
           case measure=>simp [intOf];omega
         · obtain rfl:m=mn:=by omega
           have hmi:¬(m:Int)<(m:Int):=by omega
           have hend:Hid (slocs s k [] st2=slocs s (k - (n+1)) (ls++List.replicate m t) st6∧(ls++List.replicate m t).length=ls.length+m∧ls.length+m≤256):=⟨by rw [htot.out,show k - (n+1)=m' by have:=hm'.out;omega],by rw [List.length_append,List.length_replicate],hov2.out⟩
           replace hM2:Hid (Mk f1 (w.heap.size+2) 3 1 wr (.slice A1 (ls.length+m) cap1) (ls++List.replicate m t)):=hM2
           replace hX2:Hid (Rl wr (w.heap.size+1) 63 [.slice A1 (ls.length+m) cap1,.slice none 0 0]):=hX2
           replace hY2:Hid (Rl wr w.heap.size 63 [.slice none 0 0,.slice none 0 0]):=hY2
           replace R5:Hid (Ss q w wr s st6):=R5
           clear htot hm' hov2
           go_wp2_with fail
           go_roundw
           case rel=>exact⟨n+1,ls++List.replicate m t,st6,A1,cap1,by go_num,hlt,by rw [hend.out.2.1];exact hend.out.2.2,by rw [hend.out.2.1];exact hM2.out,by rw [hend.out.2.1];exact hX2.out,hY2.out,R5.out,ib.out,hB5,hend.out.1⟩
           case measure=>simp [intOf];omega
    · have hc2:(c3==0)=false:=beq_false hc
      rw [slocs_bad s (k - n) ls ⟨a3,c3⟩ hc] at htot
      clear hn
      obtain⟨⟨f,a4,c4⟩,hE⟩:∃X,sinstrs s ⟨a3,c3⟩=X:=⟨_,rfl⟩
      have hx:Hid (∀W:World,W.rowIs q 48 3 (sF s ⟨a3,c3⟩)→Calls Tryz.prog 35 #[.pointer (some ⟨q,0,none⟩)] W fun e' w'=>∃A c,e'=.returned (.slice A f.len c)∧Hid (Tr (W.heap.size≤·) w' A f)∧Hid (Ss q W w' s ⟨a4,c4⟩)):=fun W hW=>by
       have:=sinstrs_any hs W hW
       rw [hE] at this
       exact this
      have i4:Sin s ⟨a4,c4⟩:=by
       have:=sinstrs_in i3
       rw [hE] at this
       exact this
      have hsub:Hid (-9223372036854775808≤a4 - at1∧a4 - at1≤9223372036854775807):=by
       have x1:=i1.out.1
       have x2:=i1.out.2
       have x3:=i4.1
       have x4:=i4.2
       simp only [] at x1 x2 x3 x4
       exact⟨by omega,by omega⟩
      replace htot:Hid (slocs s k [] st2=(ls,⟨a3,c3⟩)):=htot
      replace hE:Hid (sinstrs s ⟨a3,c3⟩=(f,⟨a4,c4⟩)):=hE
      replace hM:Hid (Mk f1 (w.heap.size+2) 3 1 wr (.slice A ls.length cap) ls):=hM
      replace hX:Hid (Rl wr (w.heap.size+1) 63 [.slice A ls.length cap,.slice none 0 0]):=hX
      replace hY:Hid (Rl wr w.heap.size 63 [.slice none 0 0,.slice none 0 0]):=hY
      replace R3:Hid (Ss q w wr s ⟨a3,c3⟩):=R3
      have hw:wrap64 (a4 - at1)=a4 - at1:=by have:=hsub.out;unfold wrap64;omega
      replace hw:Hid (wrap64 (a4 - at1)=a4 - at1):=hw
      clear i3 i4 hsub
      go_wp2_with fail
      refine (hx.out _ R3.out.2).mono ?_
      clear hx
      rintro e5 w5 ⟨Bf,c5,rfl,T5,R5⟩
      have X5:Hid (Rl w5 (w.heap.size+1) 63 [.slice A ls.length cap,.slice none 0 0]):=hX.out.wr R5.out.1 (fun e=>by have e:w.heap.size+1=q:=e;omega)
      have Y5:Hid (Rl w5 w.heap.size 63 [.slice none 0 0,.slice none 0 0]):=hY.out.wr R5.out.1 (fun e=>by have e:w.heap.size=q:=e;omega)
      have C5:Hid (Ss q w w5 s ⟨a4,c4⟩):=R3.out.trans R5.out
      have M5:Hid (Mk f1 (w.heap.size+2) 3 1 w5 (.slice A ls.length cap) ls):=hM.out.wr R5.out.1 (fun j e=>by have e:j=q:=e;omega)
      have hz5:w.heap.size+2≤w5.heap.size:=Nat.le_trans hB3 R5.out.size
      have T6:Hid (Tr (w.heap.size+2≤·) w5 Bf f):=T5.out.mono (fun j hj=>Nat.le_trans hB3 hj)
      have x0:w5.cell? ⟨w.heap.size+1,0,none⟩=some (.slice A ls.length cap):=X5.out.cell 0 rfl
      have x1:w5.cell? ⟨w.heap.size+1,1,none⟩=some (.slice none 0 0):=X5.out.cell 1 rfl
      have x2:w5.frozen? ⟨w.heap.size+1,1,none⟩=false:=X5.out.frozen 1
      have x3:w5.cell? ⟨w.heap.size,0,none⟩=some (.slice none 0 0):=Y5.out.cell 0 rfl
      have x4:w5.cell? ⟨w.heap.size,1,none⟩=some (.slice none 0 0):=Y5.out.cell 1 rfl
      have x5:w5.frozen? ⟨w.heap.size,0,none⟩=false:=Y5.out.frozen 0
      have x6:w5.frozen? ⟨w.heap.size,1,none⟩=false:=Y5.out.frozen 1
      have x7:w5.cell? ⟨q,1,none⟩=some (.int .i64 a4):=C5.out.cell 1 (by decide)
      have x8:w5.cell? ⟨q,2,none⟩=some (.int .i64 c4):=C5.out.cell 2 (by decide)
      have y1:q≠w.heap.size+1:=by omega
      have y2:q≠w.heap.size:=by omega
      have y3:=cell_lt x7
      have y4:=cell_lt x0
      have y5:=cell_lt x3
      have C6:Hid (Ss q w (w5.setCell ⟨w.heap.size+1,1,none⟩ (.slice Bf f.len c5)) s ⟨a4,c4⟩):=C5.out.put (Nat.le_succ _) hq 1 _
      clear hX hY R3 R5 T5 hM
      have hfin:Hid (∀(W:World) (st9:Sst),Wr (fun j=>j<w.heap.size+2) w5 W→Ss q w W s st9→sclose size at1 ⟨a4,c4⟩=st9→(Lq (w.heap.size≤·) W A (slocs s k [] st2).1∧Tr (w.heap.size≤·) W Bf (sinstrs s (slocs s k [] st2).2).1∧Ss q w W s (sclose size at1 (sinstrs s (slocs s k [] st2).2).2))∧(slocs s k [] st2).1.length=ls.length∧(sinstrs s (slocs s k [] st2).2).1.len=f.len):=by
       intro W st9 hW hS he
       rw [htot.out]
       simp only []
       rw [hE.out]
       simp only []
       rw [he]
       refine⟨⟨((M5.out.wr hW (fun j e=>e)).rt.lq).mono (fun j hj=>by have hj:w.heap.size+2≤j:=hj;show w.heap.size≤j;omega),(T6.out.keep (fun j hj hl=>hW.block j hl (fun e=>by have e:j<w.heap.size+2:=e;have hj:w.heap.size+2≤j:=hj;omega))).mono (fun j hj=>by have hj:w.heap.size+2≤j:=hj;show w.heap.size≤j;omega),hS⟩,(by first|rfl|trivial),(by first|rfl|trivial)⟩
      clear T6 M5 htot hE
      by_cases hc4:c4=0
      · subst hc4
        by_cases hd:a4 - at1=size
        · have hd2:(wrap64 (a4 - at1) != size)=false:=by rw [hw.out,hd];simp
          have he:Hid (sclose size at1 ⟨a4,0⟩=⟨a4,0⟩):=if_neg (fun x=>x.2 hd)
          clear hw hd X5 Y5
          go_wp2_with fail
          refine bodyPost_ret (v:=.agg #[.slice A ls.length cap,.slice Bf f.len c5]) (by simp [results,Tryz.results37,go_sem,x0,x1,x3,x4,y3,y4,y5]) rfl ?_
          obtain⟨F1,F2,F3⟩:=hfin.out _ ⟨a4,0⟩ ((((Wr.refl (fun j=>j<w.heap.size+2) w5).low (k:=w.heap.size+1) 1 _ (by omega)).low (k:=w.heap.size) 0 _ (by omega)).low (k:=w.heap.size) 1 _ (by omega)) (((C6.out.put (Nat.le_refl _) hq 0 _).put (Nat.le_refl _) hq 1 _)) he.out
          exact⟨A,cap,Bf,c5,by rw [F2,F3],F1.1,F1.2.1,F1.2.2⟩
        · have hd2:(wrap64 (a4 - at1) != size)=true:=by rw [hw.out];simpa using hd
          have he:Hid (sclose size at1 ⟨a4,0⟩=sfail ⟨a4,0⟩ 1504):=if_pos ⟨rfl,hd⟩
          have hf:Hid (∀W,W.rowIs q 48 3 (sF s ⟨a4,0⟩)→Calls Tryz.prog 16 #[.pointer (some ⟨q,0,none⟩),.int .i64 1504] W fun e' w'=>e'=.returned (.tuple #[])∧Hid (Ss q W w' s (sfail ⟨a4,0⟩ 1504))):=fun W hW=>sfail_any 1504 W hW
          generalize sfail ⟨a4,0⟩ 1504=st9 at *
          have V6:Hid (Wr (fun j=>j<w.heap.size+2) w5 (w5.setCell ⟨w.heap.size+1,1,none⟩ (.slice Bf f.len c5))):=(Wr.refl _ _).low 1 _ (by omega)
          have X6:Hid (Rl (w5.setCell ⟨w.heap.size+1,1,none⟩ (.slice Bf f.len c5)) (w.heap.size+1) 63 [.slice A ls.length cap,.slice Bf f.len c5]):=X5.out.set 1 _
          have Y6:Hid (Rl (w5.setCell ⟨w.heap.size+1,1,none⟩ (.slice Bf f.len c5)) w.heap.size 63 [.slice none 0 0,.slice none 0 0]):=Y5.out.off 1 _ (by omega)
          clear hw hd X5 Y5
          go_wp2_with fail
          refine (hf.out _ C6.out.2).mono ?_
          clear hf
          rintro e6 w6 ⟨rfl,R6⟩
          have X7:=X6.out.wr R6.out.1 (fun e=>by have e:w.heap.size+1=q:=e;omega)
          have Y7:=Y6.out.wr R6.out.1 (fun e=>by have e:w.heap.size=q:=e;omega)
          have z0:w6.cell? ⟨w.heap.size+1,0,none⟩=some (.slice A ls.length cap):=X7.cell 0 rfl
          have z1:w6.cell? ⟨w.heap.size+1,1,none⟩=some (.slice Bf f.len c5):=X7.cell 1 rfl
          have z3:w6.cell? ⟨w.heap.size,0,none⟩=some (.slice none 0 0):=Y7.cell 0 rfl
          have z4:w6.cell? ⟨w.heap.size,1,none⟩=some (.slice none 0 0):=Y7.cell 1 rfl
          have z5:w6.frozen? ⟨w.heap.size,0,none⟩=false:=Y7.frozen 0
          have z6:w6.frozen? ⟨w.heap.size,1,none⟩=false:=Y7.frozen 1
          have z7:=cell_lt z0
          have z8:=cell_lt z3
          clear X7 Y7 x0 x1 x2 x3 x4 x5 x6 x7 x8
          go_wp2_with fail
          refine bodyPost_ret (v:=.agg #[.slice A ls.length cap,.slice Bf f.len c5]) (by simp [results,Tryz.results37,go_sem,z0,z1,z3,z4,z7,z8]) rfl ?_
          obtain⟨F1,F2,F3⟩:=hfin.out _ st9 (((V6.out.trans (R6.out.1.mono (fun j _ e=>by have e:j=q:=e;show j<w.heap.size+2;omega))).low (k:=w.heap.size) 0 _ (by omega)).low (k:=w.heap.size) 1 _ (by omega)) ((((C6.out.trans R6.out).put (Nat.le_refl _) hq 0 _).put (Nat.le_refl _) hq 1 _)) he.out
          exact⟨A,cap,Bf,c5,by rw [F2,F3],F1.1,F1.2.1,F1.2.2⟩
      · have hc5:(c4==0)=false:=beq_false hc4
        have he:Hid (sclose size at1 ⟨a4,c4⟩=⟨a4,c4⟩):=if_neg (fun x=>hc4 x.1)
        clear hw X5 Y5
        go_wp2_with fail
        refine bodyPost_ret (v:=.agg #[.slice A ls.length cap,.slice Bf f.len c5]) (by simp [results,Tryz.results37,go_sem,x0,x1,x3,x4,y3,y4,y5]) rfl ?_
        obtain⟨F1,F2,F3⟩:=hfin.out _ ⟨a4,c4⟩ ((((Wr.refl (fun j=>j<w.heap.size+2) w5).low (k:=w.heap.size+1) 1 _ (by omega)).low (k:=w.heap.size) 0 _ (by omega)).low (k:=w.heap.size) 1 _ (by omega)) (((C6.out.put (Nat.le_refl _) hq 0 _).put (Nat.le_refl _) hq 1 _)) he.out
        exact⟨A,cap,Bf,c5,by rw [F2,F3],F1.1,F1.2.1,F1.2.2⟩
  · have hl1:¬(n:Int)<(k:Int):=by omega
    rw [show k - n=0 by omega] at htot
    simp only [slocs] at htot
    clear hn
    obtain⟨⟨f,a4,c4⟩,hE⟩:∃X,sinstrs s ⟨a3,c3⟩=X:=⟨_,rfl⟩
    have hx:Hid (∀W:World,W.rowIs q 48 3 (sF s ⟨a3,c3⟩)→Calls Tryz.prog 35 #[.pointer (some ⟨q,0,none⟩)] W fun e' w'=>∃A c,e'=.returned (.slice A f.len c)∧Hid (Tr (W.heap.size≤·) w' A f)∧Hid (Ss q W w' s ⟨a4,c4⟩)):=fun W hW=>by
     have:=sinstrs_any hs W hW
     rw [hE] at this
     exact this
    have i4:Sin s ⟨a4,c4⟩:=by
     have:=sinstrs_in i3
     rw [hE] at this
     exact this
    have hsub:Hid (-9223372036854775808≤a4 - at1∧a4 - at1≤9223372036854775807):=by
     have x1:=i1.out.1
     have x2:=i1.out.2
     have x3:=i4.1
     have x4:=i4.2
     simp only [] at x1 x2 x3 x4
     exact⟨by omega,by omega⟩
    replace htot:Hid (slocs s k [] st2=(ls,⟨a3,c3⟩)):=htot
    replace hE:Hid (sinstrs s ⟨a3,c3⟩=(f,⟨a4,c4⟩)):=hE
    replace hM:Hid (Mk f1 (w.heap.size+2) 3 1 wr (.slice A ls.length cap) ls):=hM
    replace hX:Hid (Rl wr (w.heap.size+1) 63 [.slice A ls.length cap,.slice none 0 0]):=hX
    replace hY:Hid (Rl wr w.heap.size 63 [.slice none 0 0,.slice none 0 0]):=hY
    replace R3:Hid (Ss q w wr s ⟨a3,c3⟩):=R3
    have hw:wrap64 (a4 - at1)=a4 - at1:=by have:=hsub.out;unfold wrap64;omega
    replace hw:Hid (wrap64 (a4 - at1)=a4 - at1):=hw
    clear i3 i4 hsub
    go_wp2_with fail
    refine (hx.out _ R3.out.2).mono ?_
    clear hx
    rintro e5 w5 ⟨Bf,c5,rfl,T5,R5⟩
    have X5:Hid (Rl w5 (w.heap.size+1) 63 [.slice A ls.length cap,.slice none 0 0]):=hX.out.wr R5.out.1 (fun e=>by have e:w.heap.size+1=q:=e;omega)
    have Y5:Hid (Rl w5 w.heap.size 63 [.slice none 0 0,.slice none 0 0]):=hY.out.wr R5.out.1 (fun e=>by have e:w.heap.size=q:=e;omega)
    have C5:Hid (Ss q w w5 s ⟨a4,c4⟩):=R3.out.trans R5.out
    have M5:Hid (Mk f1 (w.heap.size+2) 3 1 w5 (.slice A ls.length cap) ls):=hM.out.wr R5.out.1 (fun j e=>by have e:j=q:=e;omega)
    have hz5:w.heap.size+2≤w5.heap.size:=Nat.le_trans hB3 R5.out.size
    have T6:Hid (Tr (w.heap.size+2≤·) w5 Bf f):=T5.out.mono (fun j hj=>Nat.le_trans hB3 hj)
    have x0:w5.cell? ⟨w.heap.size+1,0,none⟩=some (.slice A ls.length cap):=X5.out.cell 0 rfl
    have x1:w5.cell? ⟨w.heap.size+1,1,none⟩=some (.slice none 0 0):=X5.out.cell 1 rfl
    have x2:w5.frozen? ⟨w.heap.size+1,1,none⟩=false:=X5.out.frozen 1
    have x3:w5.cell? ⟨w.heap.size,0,none⟩=some (.slice none 0 0):=Y5.out.cell 0 rfl
    have x4:w5.cell? ⟨w.heap.size,1,none⟩=some (.slice none 0 0):=Y5.out.cell 1 rfl
    have x5:w5.frozen? ⟨w.heap.size,0,none⟩=false:=Y5.out.frozen 0
    have x6:w5.frozen? ⟨w.heap.size,1,none⟩=false:=Y5.out.frozen 1
    have x7:w5.cell? ⟨q,1,none⟩=some (.int .i64 a4):=C5.out.cell 1 (by decide)
    have x8:w5.cell? ⟨q,2,none⟩=some (.int .i64 c4):=C5.out.cell 2 (by decide)
    have y1:q≠w.heap.size+1:=by omega
    have y2:q≠w.heap.size:=by omega
    have y3:=cell_lt x7
    have y4:=cell_lt x0
    have y5:=cell_lt x3
    have C6:Hid (Ss q w (w5.setCell ⟨w.heap.size+1,1,none⟩ (.slice Bf f.len c5)) s ⟨a4,c4⟩):=C5.out.put (Nat.le_succ _) hq 1 _
    clear hX hY R3 R5 T5 hM
    have hfin:Hid (∀(W:World) (st9:Sst),Wr (fun j=>j<w.heap.size+2) w5 W→Ss q w W s st9→sclose size at1 ⟨a4,c4⟩=st9→(Lq (w.heap.size≤·) W A (slocs s k [] st2).1∧Tr (w.heap.size≤·) W Bf (sinstrs s (slocs s k [] st2).2).1∧Ss q w W s (sclose size at1 (sinstrs s (slocs s k [] st2).2).2))∧(slocs s k [] st2).1.length=ls.length∧(sinstrs s (slocs s k [] st2).2).1.len=f.len):=by
     intro W st9 hW hS he
     rw [htot.out]
     simp only []
     rw [hE.out]
     simp only []
     rw [he]
     refine⟨⟨((M5.out.wr hW (fun j e=>e)).rt.lq).mono (fun j hj=>by have hj:w.heap.size+2≤j:=hj;show w.heap.size≤j;omega),(T6.out.keep (fun j hj hl=>hW.block j hl (fun e=>by have e:j<w.heap.size+2:=e;have hj:w.heap.size+2≤j:=hj;omega))).mono (fun j hj=>by have hj:w.heap.size+2≤j:=hj;show w.heap.size≤j;omega),hS⟩,(by first|rfl|trivial),(by first|rfl|trivial)⟩
    clear T6 M5 htot hE
    by_cases hc4:c4=0
    · subst hc4
      by_cases hd:a4 - at1=size
      · have hd2:(wrap64 (a4 - at1) != size)=false:=by rw [hw.out,hd];simp
        have he:Hid (sclose size at1 ⟨a4,0⟩=⟨a4,0⟩):=if_neg (fun x=>x.2 hd)
        clear hw hd X5 Y5
        go_wp2_with fail
        refine bodyPost_ret (v:=.agg #[.slice A ls.length cap,.slice Bf f.len c5]) (by simp [results,Tryz.results37,go_sem,x0,x1,x3,x4,y3,y4,y5]) rfl ?_
        obtain⟨F1,F2,F3⟩:=hfin.out _ ⟨a4,0⟩ ((((Wr.refl (fun j=>j<w.heap.size+2) w5).low (k:=w.heap.size+1) 1 _ (by omega)).low (k:=w.heap.size) 0 _ (by omega)).low (k:=w.heap.size) 1 _ (by omega)) (((C6.out.put (Nat.le_refl _) hq 0 _).put (Nat.le_refl _) hq 1 _)) he.out
        exact⟨A,cap,Bf,c5,by rw [F2,F3],F1.1,F1.2.1,F1.2.2⟩
      · have hd2:(wrap64 (a4 - at1) != size)=true:=by rw [hw.out];simpa using hd
        have he:Hid (sclose size at1 ⟨a4,0⟩=sfail ⟨a4,0⟩ 1504):=if_pos ⟨rfl,hd⟩
        have hf:Hid (∀W,W.rowIs q 48 3 (sF s ⟨a4,0⟩)→Calls Tryz.prog 16 #[.pointer (some ⟨q,0,none⟩),.int .i64 1504] W fun e' w'=>e'=.returned (.tuple #[])∧Hid (Ss q W w' s (sfail ⟨a4,0⟩ 1504))):=fun W hW=>sfail_any 1504 W hW
        generalize sfail ⟨a4,0⟩ 1504=st9 at *
        have V6:Hid (Wr (fun j=>j<w.heap.size+2) w5 (w5.setCell ⟨w.heap.size+1,1,none⟩ (.slice Bf f.len c5))):=(Wr.refl _ _).low 1 _ (by omega)
        have X6:Hid (Rl (w5.setCell ⟨w.heap.size+1,1,none⟩ (.slice Bf f.len c5)) (w.heap.size+1) 63 [.slice A ls.length cap,.slice Bf f.len c5]):=X5.out.set 1 _
        have Y6:Hid (Rl (w5.setCell ⟨w.heap.size+1,1,none⟩ (.slice Bf f.len c5)) w.heap.size 63 [.slice none 0 0,.slice none 0 0]):=Y5.out.off 1 _ (by omega)
        clear hw hd X5 Y5
        go_wp2_with fail
        refine (hf.out _ C6.out.2).mono ?_
        clear hf
        rintro e6 w6 ⟨rfl,R6⟩
        have X7:=X6.out.wr R6.out.1 (fun e=>by have e:w.heap.size+1=q:=e;omega)
        have Y7:=Y6.out.wr R6.out.1 (fun e=>by have e:w.heap.size=q:=e;omega)
        have z0:w6.cell? ⟨w.heap.size+1,0,none⟩=some (.slice A ls.length cap):=X7.cell 0 rfl
        have z1:w6.cell? ⟨w.heap.size+1,1,none⟩=some (.slice Bf f.len c5):=X7.cell 1 rfl
        have z3:w6.cell? ⟨w.heap.size,0,none⟩=some (.slice none 0 0):=Y7.cell 0 rfl
        have z4:w6.cell? ⟨w.heap.size,1,none⟩=some (.slice none 0 0):=Y7.cell 1 rfl
        have z5:w6.frozen? ⟨w.heap.size,0,none⟩=false:=Y7.frozen 0
        have z6:w6.frozen? ⟨w.heap.size,1,none⟩=false:=Y7.frozen 1
        have z7:=cell_lt z0
        have z8:=cell_lt z3
        clear X7 Y7 x0 x1 x2 x3 x4 x5 x6 x7 x8
        go_wp2_with fail
        refine bodyPost_ret (v:=.agg #[.slice A ls.length cap,.slice Bf f.len c5]) (by simp [results,Tryz.results37,go_sem,z0,z1,z3,z4,z7,z8]) rfl ?_
        obtain⟨F1,F2,F3⟩:=hfin.out _ st9 (((V6.out.trans (R6.out.1.mono (fun j _ e=>by have e:j=q:=e;show j<w.heap.size+2;omega))).low (k:=w.heap.size) 0 _ (by omega)).low (k:=w.heap.size) 1 _ (by omega)) ((((C6.out.trans R6.out).put (Nat.le_refl _) hq 0 _).put (Nat.le_refl _) hq 1 _)) he.out
        exact⟨A,cap,Bf,c5,by rw [F2,F3],F1.1,F1.2.1,F1.2.2⟩
    · have hc5:(c4==0)=false:=beq_false hc4
      have he:Hid (sclose size at1 ⟨a4,c4⟩=⟨a4,c4⟩):=if_neg (fun x=>hc4 x.1)
      clear hw X5 Y5
      go_wp2_with fail
      refine bodyPost_ret (v:=.agg #[.slice A ls.length cap,.slice Bf f.len c5]) (by simp [results,Tryz.results37,go_sem,x0,x1,x3,x4,y3,y4,y5]) rfl ?_
      obtain⟨F1,F2,F3⟩:=hfin.out _ ⟨a4,c4⟩ ((((Wr.refl (fun j=>j<w.heap.size+2) w5).low (k:=w.heap.size+1) 1 _ (by omega)).low (k:=w.heap.size) 0 _ (by omega)).low (k:=w.heap.size) 1 _ (by omega)) (((C6.out.put (Nat.le_refl _) hq 0 _).put (Nat.le_refl _) hq 1 _)) he.out
      exact⟨A,cap,Bf,c5,by rw [F2,F3],F1.1,F1.2.1,F1.2.2⟩
end Go.Proofs.YtngciahmoenkiaaGreat
namespace Go.Proofs.YtngciahmoenkiaaGreat
open Go.RowKit
section
variable {q p j k by_:Nat} {w wr wr' w3:World} {s:ByteArray} {st st' st3:Sst} {L:List Value} {v:Value} {e t:TypeId}
def Ms (q p:Nat) (w wr:World) (s:ByteArray) (st:Sst) (L:List Value):Prop:=Wr (fun k=>k=q∨k=p) w wr∧wr.rowIs q 48 3 (sF s st)∧Rl wr p 32 L
def Lo {α:Type} (f:α→List Fd) (e:TypeId) (k q p j:Nat) (w wr:World) (s:ByteArray) (st:Sst) (L:List Value) (v:Value) (d:List α):Prop:=Ms q p w wr s st (L.set j v)∧Mk f w.heap.size e k wr v d
theorem Ms.ss (h:Ms q p w wr s st L) (R:Ss q wr wr' s st') (hpq:p≠q):Ms q p w wr' s st' L:=⟨h.1.trans (R.1.mono (fun _ _ e=>Or.inl e)),R.2,h.2.2.wr R.1 hpq⟩
theorem Lo.size {α:Type} {f:α→List Fd} {d:List α} (h:Lo f e k q p j w wr s st L v d):w.heap.size≤wr.heap.size:=h.1.1.size
theorem Lo.more {α:Type} {f:α→List Fd} {d:List α} (h:Lo f e k q p j w wr s st L v d) (hq:q<w.heap.size) (hp:p<w.heap.size) (hpq:p≠q) (hj:j<L.length) (hT:Ti t e k by_) (ty:TypeId) (x:α) (hf:(f x).length=k) (c:List Value) (hn:(d.length+1)*by_≤140737488355328) (h63:d.length+1≤1000000000) (R:Ss q wr w3 s st3) (hc:itc (wr.heap.size≤·) w3 (f x) c) :
    ∃g cap w',(Builtin.append_ #[t,t] ty #[v,.slice (some ⟨w3.heap.size,0,none⟩) 1 1]).run Tryz.prog (w3.alloc (.cells c.toArray e))=.ok (.slice (some ⟨g,0,none⟩) (d.length+1) cap) w'∧(w3.cell? ⟨p,j,none⟩=some v∧p<w3.heap.size)∧(w'.cell? ⟨p,j,none⟩=some v∧w'.frozen? ⟨p,j,none⟩=false∧p<w'.heap.size)∧Lo f e k q p j w (w'.setCell ⟨p,j,none⟩ (.slice (some ⟨g,0,none⟩) (d.length+1) cap)) s st3 L (.slice (some ⟨g,0,none⟩) (d.length+1) cap) (d++[x]):=by
 obtain⟨⟨hW,hQ,hL⟩,hM⟩:=h
 obtain⟨g,cap,w',r,M',V'⟩:=hM.grow hW.size hT ty x hf c hn h63 R.1 (fun i e=>by have e:i=q:=e;omega) hc
 have hv:(L.set j v)[j]?=some v:=by simp [hj]
 have L3:=hL.wr R.1 hpq
 have L4:=L3.wr V' (fun e=>by have e:w.heap.size≤p:=e;omega)
 refine⟨g,cap,w',r,⟨L3.cell j hv,L3.lt⟩,⟨L4.cell j hv,L4.frozen j,L4.lt⟩,⟨?_,?_,?_⟩,?_⟩
 · refine Wr.set ?_ j _ (Or.inl (Or.inr rfl))
   exact (hW.trans (R.1.mono (fun _ _ e=>Or.inl e))).above V' (Nat.le_refl _)
 · exact (R.2.of_block (V'.block q R.2.lt (fun e=>by have e:w.heap.size≤q:=e;omega))).of_block (Below.heap_setCell w' ⟨p,j,none⟩ _ q (fun e=>hpq (e:q=p).symm))
 · have:=L4.set j (.slice (some ⟨g,0,none⟩) (d.length+1) cap)
   rwa [List.set_set] at this
 · exact M'.wr ((Wr.refl (fun i=>i<w.heap.size) w').low j _ hp) (fun _ e=>e)
def Sd {α:Type} (f:α→List Fd) (q p j:Nat) (w w':World) (s:ByteArray) (L:List Value) (r:List α×Sst):Prop:=∃A c,Rt f (w.heap.size≤·) w' A r.1∧Ms q p w w' s r.2 (L.set j (.slice A r.1.length c))
theorem Lo.cell {α:Type} {f:α→List Fd} {d:List α} (h:Lo f e k q p j w wr s st L v d) (hj:j<L.length):wr.cell? ⟨p,j,none⟩=some v:=h.1.2.2.cell j (by simp [hj])
theorem Lo.start {α:Type} {f:α→List Fd} (h:Ms q p w wr s st L) (hj:L[j]?=some (.slice none 0 0)):Lo f e k q p j w wr s st L (.slice none 0 0) ([]:List α):=by
 refine⟨?_,Mk.start _⟩
 rwa [show L.set j (.slice none 0 0)=L from ?_]
 apply List.ext_getElem?
 intro i
 rw [List.getElem?_set]
 split
 · rename_i e
   subst e
   rw [if_pos (List.getElem?_eq_some_iff.1 hj).1,hj]
 · rfl
end
abbrev fTy (x:List Int×List Int):List Fd:=[fL x.1,fL x.2]
abbrev fIm (x:Imp):List Fd:=[fT x.1,fT x.2.1,fN x.2.2.1,fN x.2.2.2.1,fB x.2.2.2.2.1,fN x.2.2.2.2.2.1,fN x.2.2.2.2.2.2]
abbrev fLi (x:Int×Int):List Fd:=[fN x.1,fN x.2]
abbrev fGl (x:Int×Bool×Fs):List Fd:=[fN x.1,fB x.2.1,fI x.2.2]
abbrev fEx (x:ByteArray×Int×Int):List Fd:=[fT x.1,fN x.2.1,fN x.2.2]
abbrev fEl (x:Fs×List Int):List Fd:=[fI x.1,fL x.2]
abbrev fCo (x:List Int×Fs):List Fd:=[fL x.1,fI x.2]
abbrev fDa (x:Fs×ByteArray):List Fd:=[fI x.1,fT x.2]
theorem ti_fty:Ti 22 68 2 48:=ti_of Tryz.underlying22 (by kernel_rfl) (by decide)
theorem ti_imp:Ti 23 81 7 72:=ti_of Tryz.underlying23 (by kernel_rfl) (by decide)
theorem ti_lim:Ti 25 79 2 16:=ti_of Tryz.underlying25 (by kernel_rfl) (by decide)
theorem ti_glo:Ti 26 55 3 40:=ti_of Tryz.underlying26 (by kernel_rfl) (by decide)
theorem ti_exp:Ti 27 58 3 32:=ti_of Tryz.underlying27 (by kernel_rfl) (by decide)
theorem ti_elm:Ti 28 60 2 48:=ti_of Tryz.underlying28 (by kernel_rfl) (by decide)
theorem ti_cod:Ti 29 63 2 48:=ti_of Tryz.underlying29 (by kernel_rfl) (by decide)
theorem ti_dat:Ti 30 65 2 40:=ti_of Tryz.underlying30 (by kernel_rfl) (by decide)
end Go.Proofs.YtngciahmoenkiaaGreat
namespace Go.Proofs.YtngciahmoenkiaaGreat
open Go.RowKit
variable {q p:Nat} {w wr wr':World} {s:ByteArray} {st st':Sst} {L:List Value}
theorem simp4_in {k:Int} (h:Sin s st):Sin s (simp4 s k st).2:=by
 unfold simp4
 split
 · exact snum_in h
 · split
   · exact slim_in (smust_in h _)
   · split
     · exact slim_in h
     · split
       · exact sflag_in (skind_in h)
       · exact sfail_in h _
theorem spart_in (h:Sin s st):Sin s (spart s st).2:=simp4_in (sbyte_in (sname_in (sname_in h)))
def simps (s:ByteArray) (st:Sst):List Imp×Sst:=srep (spart s) (smany s 1024 st).1.toNat (smany s 1024 st).2
theorem simps_in (h:Sin s st):Sin s (simps s st).2:=srep_in (spart s) (fun _ h=>spart_in h) _ _ (smany_in h _)
theorem sfirst2 (hs:s.size<9223372036854775000) (hin:Sin s st) (hp:p<w.heap.size) (hpq:p≠q) (hlen:L.length=11) (hj:L[1]?=some (.slice none 0 0)) (h:w.rowIs q 48 3 (sF s st)) (hR:Rl w p 32 L) :
    Calls Tryz.prog 14 #[.pointer (some ⟨q,0,none⟩),.int .i64 2,.pointer (some ⟨p,0,none⟩)] w fun e' w'=>e'=.returned (.tuple #[])∧Hid (Sd fIm q p 1 w w' s L (simps s st)):=by
 have hq:=h.lt
 have hm:Hid (Calls Tryz.prog 27 #[.pointer (some ⟨q,0,none⟩),.int .i64 1024] w fun e' w'=>e'=.returned (.int .i64 (smany s 1024 st).1)∧Hid (Ss q w w' s (smany s 1024 st).2)):=smany_any hs 1024 w h
 have hr:=smany_rng (s:=s) (st:=st) (m:=1024) (by decide)
 have hi1:=smany_in hin 1024
 have M0:Ms q p w w s st L:=⟨Wr.refl _ _,h,hR⟩
 unfold simps
 generalize smany s 1024 st=K at *
 obtain⟨k0,st1⟩:=K
 simp only [] at hm hr hi1 ⊢
 obtain⟨k,rfl⟩:=Int.eq_ofNat_of_zero_le hr.1
 rw [Int.toNat_natCast]
 have hk:k≤1024:=by omega
 have hj2:1<L.length:=by omega
 replace hi1:Hid (Sin s st1):=hi1
 replace M0:Hid (Ms q p w w s st L):=M0
 replace hj:Hid (L[1]?=some (.slice none 0 0)):=hj
 clear hin h hr hR
 go_enter Tryz.func14,Tryz.ntmps14
 go_wp2_with (go_at_call 27;refine hm.out.mono ?_;rintro e1 w1 ⟨rfl,R1⟩)
 go_loopw [10] (fun i wr=>∃(d:List Imp) (st2:Sst) (A:Option Addr) (cap:Nat),i=.int .i64 (d.length:Nat)∧d.length≤k∧Lo fIm 81 7 q p 1 w wr s st2 L (.slice A d.length cap) d∧Sin s st2∧srep (spart s) k st1=(d++(srep (spart s) (k - d.length) st2).1,(srep (spart s) (k - d.length) st2).2)) (fun i _=>k - (intOf i).toNat)
 case atStart=>exact⟨[],st1,none,0,rfl,Nat.zero_le _,Lo.start (M0.out.ss R1.out hpq) hj.out,hi1.out,rfl⟩
 case round =>
  obtain⟨d,⟨a2,cd⟩,A,cap,rfl,hd,hM,hi2,htot⟩:=hrel
  have c2:wr.cell? ⟨q,2,none⟩=some (.int .i64 cd):=hM.1.2.1.cell (i:=2) (by decide)
  have hl:=cell_lt c2
  have c3:wr.cell? ⟨p,1,none⟩=some (.slice A d.length cap):=hM.cell hj2
  have hl3:=cell_lt c3
  clear M0 hj hm hi1 R1
  by_cases hlt:d.length<k
  · have hl1:(d.length:Int)<(k:Int):=by omega
    by_cases hc:cd=0
    · subst hc
      obtain⟨m,hm2⟩:∃m,k - d.length=m+1:=⟨k - d.length - 1,by omega⟩
      rw [hm2,srep_ok _ _ _ rfl] at htot
      have hx:Hid (∀W,W.rowIs q 48 3 (sF s ⟨a2,0⟩)→Calls Tryz.prog 30 #[.pointer (some ⟨q,0,none⟩)] W fun e' w'=>e'=.returned (impV (spart s ⟨a2,0⟩).1)∧Hid (Ss q W w' s (spart s ⟨a2,0⟩).2)):=fun W hW=>spart_any hs hi2 W hW
      have hi3:=spart_in hi2
      generalize spart s ⟨a2,0⟩=K3 at *
      obtain⟨⟨m0,m1,m2,m3,m4,m5,m6⟩,st3⟩:=K3
      simp only [impV] at hx htot hi3
      have hS0:Hid (Ss q wr wr s ⟨a2,0⟩):=⟨Wr.refl _ _,hM.1.2.1⟩
      have hst:Hid (∀w3,Ss q wr w3 s st3→∃g cap' w',(Builtin.append_ #[23,23] 23 #[.slice A d.length cap,.slice (some ⟨w3.heap.size,0,none⟩) 1 1]).run Tryz.prog (w3.alloc (.cells #[.string m0,.string m1,.int .i64 m2,.int .i64 m3,.bool m4,.int .i64 m5,.int .i64 m6] 81))=.ok (.slice (some ⟨g,0,none⟩) (d.length+1) cap') w'∧(w3.cell? ⟨p,1,none⟩=some (.slice A d.length cap)∧p<w3.heap.size)∧(w'.cell? ⟨p,1,none⟩=some (.slice A d.length cap)∧w'.frozen? ⟨p,1,none⟩=false∧p<w'.heap.size)∧Lo fIm 81 7 q p 1 w (w'.setCell ⟨p,1,none⟩ (.slice (some ⟨g,0,none⟩) (d.length+1) cap')) s st3 L (.slice (some ⟨g,0,none⟩) (d.length+1) cap') (d++[(m0,m1,m2,m3,m4,m5,m6)])) :=
       fun w3 R3=>hM.more hq hp hpq hj2 ti_imp 23 ((m0,m1,m2,m3,m4,m5,m6)) rfl [.string m0,.string m1,.int .i64 m2,.int .i64 m3,.bool m4,.int .i64 m5,.int .i64 m6] (by omega) (by omega) R3 ⟨_,_,rfl,rfl,_,_,rfl,rfl,_,_,rfl,rfl,_,_,rfl,rfl,_,_,rfl,rfl,_,_,rfl,rfl,_,_,rfl,rfl,rfl⟩
      have hfin:Hid (d.length+1≤k∧Sin s st3∧srep (spart s) k st1=((d++[(m0,m1,m2,m3,m4,m5,m6)])++(srep (spart s) (k - (d++[(m0,m1,m2,m3,m4,m5,m6)]).length) st3).1,(srep (spart s) (k - (d++[(m0,m1,m2,m3,m4,m5,m6)]).length) st3).2)):=by
       refine⟨hlt,hi3,?_⟩
       rw [show k - (d++[(m0,m1,m2,m3,m4,m5,m6)]).length=m by rw [List.length_append,List.length_singleton];omega,htot,List.append_assoc]
       rfl
      clear htot hM hi2 hi3 hm2 hd
      go_wp2_with fail
      go_region_law (first|(refine step_app (by rfl) _ _ 23 (by rfl) _ _ _ (by rfl) (by rfl) r2.out ?_)|(go_simp;go_at_call 30;refine (hx.out _ (hS0.out.later (Ld (Lz _))).2).mono ?_;rintro e w3 ⟨rfl,R3⟩;obtain⟨g,cap',w',r2,⟨t0,t1⟩,⟨t2,t3,t4⟩,hnx⟩:=hst.out w3 ((hS0.out.later (Ld (Lz _))).trans R3.out);replace r2:Hid _:=r2;replace hnx:Hid (Lo fIm 81 7 q p 1 w (w'.setCell ⟨p,1,none⟩ (.slice (some ⟨g,0,none⟩) (d.length+1) cap')) s st3 L (.slice (some ⟨g,0,none⟩) (d.length+1) cap') (d++[(m0,m1,m2,m3,m4,m5,m6)])):=hnx))
      all_goals
       clear hst
       go_wp2_with fail
       go_roundw
       case rel=>exact⟨d++[(m0,m1,m2,m3,m4,m5,m6)],st3,some ⟨g,0,none⟩,cap',by rw [List.length_append];go_num,by rw [List.length_append];exact hfin.out.1,by rw [List.length_append];exact hnx.out,hfin.out.2⟩
       case measure=>simp [intOf];omega
    · have hc2:(cd==0)=false:=beq_false hc
      rw [srep_bad (spart s) (k - d.length) ⟨a2,cd⟩ hc,List.append_nil] at htot
      replace htot:Hid (srep (spart s) k st1=(d,⟨a2,cd⟩)):=htot
      have hfin:Hid (Rt fIm (w.heap.size≤·) wr A d∧Ms q p w wr s ⟨a2,cd⟩ (L.set 1 (.slice A d.length cap))):=⟨hM.2.rt,hM.1⟩
      clear hM hi2
      go_wp2_with fail
      go_end0
      rw [htot.out]
      exact⟨rfl,A,cap,hfin.out.1,hfin.out.2⟩
  · have hl1:¬(d.length:Int)<(k:Int):=by omega
    rw [show k - d.length=0 by omega] at htot
    simp only [srep,List.append_nil] at htot
    replace htot:Hid (srep (spart s) k st1=(d,⟨a2,cd⟩)):=htot
    have hfin:Hid (Rt fIm (w.heap.size≤·) wr A d∧Ms q p w wr s ⟨a2,cd⟩ (L.set 1 (.slice A d.length cap))):=⟨hM.2.rt,hM.1⟩
    clear hM hi2
    go_wp2_with fail
    go_end0
    rw [htot.out]
    exact⟨rfl,A,cap,hfin.out.1,hfin.out.2⟩
def sfuncs (s:ByteArray) (st:Sst):List Int×Sst:=srep (snum s) (smany s 256 st).1.toNat (smany s 256 st).2
theorem sfuncs_in (h:Sin s st):Sin s (sfuncs s st).2:=srep_in (snum s) (fun _ h=>snum_in h) _ _ (smany_in h _)
theorem sfirst3 (hs:s.size<9223372036854775000) (hin:Sin s st) (hp:p<w.heap.size) (hpq:p≠q) (hlen:L.length=11) (hj:L[2]?=some (.slice none 0 0)) (h:w.rowIs q 48 3 (sF s st)) (hR:Rl w p 32 L) :
    Calls Tryz.prog 14 #[.pointer (some ⟨q,0,none⟩),.int .i64 3,.pointer (some ⟨p,0,none⟩)] w fun e' w'=>e'=.returned (.tuple #[])∧Hid (Sd f1 q p 2 w w' s L (sfuncs s st)):=by
 have hq:=h.lt
 have hm:Hid (Calls Tryz.prog 27 #[.pointer (some ⟨q,0,none⟩),.int .i64 256] w fun e' w'=>e'=.returned (.int .i64 (smany s 256 st).1)∧Hid (Ss q w w' s (smany s 256 st).2)):=smany_any hs 256 w h
 have hr:=smany_rng (s:=s) (st:=st) (m:=256) (by decide)
 have hi1:=smany_in hin 256
 have M0:Ms q p w w s st L:=⟨Wr.refl _ _,h,hR⟩
 unfold sfuncs
 generalize smany s 256 st=K at *
 obtain⟨k0,st1⟩:=K
 simp only [] at hm hr hi1 ⊢
 obtain⟨k,rfl⟩:=Int.eq_ofNat_of_zero_le hr.1
 rw [Int.toNat_natCast]
 have hk:k≤256:=by omega
 have hj2:2<L.length:=by omega
 replace hi1:Hid (Sin s st1):=hi1
 replace M0:Hid (Ms q p w w s st L):=M0
 replace hj:Hid (L[2]?=some (.slice none 0 0)):=hj
 clear hin h hr hR
 go_enter Tryz.func14,Tryz.ntmps14
 go_wp2_with (go_at_call 27;refine hm.out.mono ?_;rintro e1 w1 ⟨rfl,R1⟩)
 go_loopw [12] (fun i wr=>∃(d:List Int) (st2:Sst) (A:Option Addr) (cap:Nat),i=.int .i64 (d.length:Nat)∧d.length≤k∧Lo f1 3 1 q p 2 w wr s st2 L (.slice A d.length cap) d∧Sin s st2∧srep (snum s) k st1=(d++(srep (snum s) (k - d.length) st2).1,(srep (snum s) (k - d.length) st2).2)) (fun i _=>k - (intOf i).toNat)
 case atStart=>exact⟨[],st1,none,0,rfl,Nat.zero_le _,Lo.start (M0.out.ss R1.out hpq) hj.out,hi1.out,rfl⟩
 case round =>
  obtain⟨d,⟨a2,cd⟩,A,cap,rfl,hd,hM,hi2,htot⟩:=hrel
  have c2:wr.cell? ⟨q,2,none⟩=some (.int .i64 cd):=hM.1.2.1.cell (i:=2) (by decide)
  have hl:=cell_lt c2
  have c3:wr.cell? ⟨p,2,none⟩=some (.slice A d.length cap):=hM.cell hj2
  have hl3:=cell_lt c3
  clear M0 hj hm hi1 R1
  by_cases hlt:d.length<k
  · have hl1:(d.length:Int)<(k:Int):=by omega
    by_cases hc:cd=0
    · subst hc
      obtain⟨m,hm2⟩:∃m,k - d.length=m+1:=⟨k - d.length - 1,by omega⟩
      rw [hm2,srep_ok _ _ _ rfl] at htot
      have hx:Hid (∀W,W.rowIs q 48 3 (sF s ⟨a2,0⟩)→Calls Tryz.prog 31 #[.pointer (some ⟨q,0,none⟩)] W fun e' w'=>e'=.returned (.int .i64 (snum s ⟨a2,0⟩).1)∧Hid (Ss q W w' s (snum s ⟨a2,0⟩).2)):=fun W hW=>snum_any hs W hW
      have hi3:=snum_in hi2
      generalize snum s ⟨a2,0⟩=K3 at *
      obtain⟨x,st3⟩:=K3
      simp only [] at hx htot hi3
      have hS0:Hid (Ss q wr wr s ⟨a2,0⟩):=⟨Wr.refl _ _,hM.1.2.1⟩
      have hst:Hid (∀w3,Ss q wr w3 s st3→∃g cap' w',(Builtin.append_ #[24,24] 24 #[.slice A d.length cap,.slice (some ⟨w3.heap.size,0,none⟩) 1 1]).run Tryz.prog (w3.alloc (.cells #[.int .i64 x] 3))=.ok (.slice (some ⟨g,0,none⟩) (d.length+1) cap') w'∧(w3.cell? ⟨p,2,none⟩=some (.slice A d.length cap)∧p<w3.heap.size)∧(w'.cell? ⟨p,2,none⟩=some (.slice A d.length cap)∧w'.frozen? ⟨p,2,none⟩=false∧p<w'.heap.size)∧Lo f1 3 1 q p 2 w (w'.setCell ⟨p,2,none⟩ (.slice (some ⟨g,0,none⟩) (d.length+1) cap')) s st3 L (.slice (some ⟨g,0,none⟩) (d.length+1) cap') (d++[x])) :=
       fun w3 R3=>hM.more hq hp hpq hj2 ti_int 24 (x) rfl [.int .i64 x] (by omega) (by omega) R3 ⟨_,_,rfl,rfl,rfl⟩
      have hfin:Hid (d.length+1≤k∧Sin s st3∧srep (snum s) k st1=((d++[x])++(srep (snum s) (k - (d++[x]).length) st3).1,(srep (snum s) (k - (d++[x]).length) st3).2)):=by
       refine⟨hlt,hi3,?_⟩
       rw [show k - (d++[x]).length=m by rw [List.length_append,List.length_singleton];omega,htot,List.append_assoc]
       rfl
      clear htot hM hi2 hi3 hm2 hd
      go_wp2_with fail
      go_region_law (first|(refine step_app (by rfl) _ _ 24 (by rfl) _ _ _ (by rfl) (by rfl) r2.out ?_)|(go_simp;go_at_call 31;refine (hx.out _ (hS0.out.later (Ld (Lz _))).2).mono ?_;rintro e w3 ⟨rfl,R3⟩;obtain⟨g,cap',w',r2,⟨t0,t1⟩,⟨t2,t3,t4⟩,hnx⟩:=hst.out w3 ((hS0.out.later (Ld (Lz _))).trans R3.out);replace r2:Hid _:=r2;replace hnx:Hid (Lo f1 3 1 q p 2 w (w'.setCell ⟨p,2,none⟩ (.slice (some ⟨g,0,none⟩) (d.length+1) cap')) s st3 L (.slice (some ⟨g,0,none⟩) (d.length+1) cap') (d++[x])):=hnx))
      all_goals
       clear hst
       go_wp2_with fail
       go_roundw
       case rel=>exact⟨d++[x],st3,some ⟨g,0,none⟩,cap',by rw [List.length_append];go_num,by rw [List.length_append];exact hfin.out.1,by rw [List.length_append];exact hnx.out,hfin.out.2⟩
       case measure=>simp [intOf];omega
    · have hc2:(cd==0)=false:=beq_false hc
      rw [srep_bad (snum s) (k - d.length) ⟨a2,cd⟩ hc,List.append_nil] at htot
      replace htot:Hid (srep (snum s) k st1=(d,⟨a2,cd⟩)):=htot
      have hfin:Hid (Rt f1 (w.heap.size≤·) wr A d∧Ms q p w wr s ⟨a2,cd⟩ (L.set 2 (.slice A d.length cap))):=⟨hM.2.rt,hM.1⟩
      clear hM hi2
      go_wp2_with fail
      go_end0
      rw [htot.out]
      exact⟨rfl,A,cap,hfin.out.1,hfin.out.2⟩
  · have hl1:¬(d.length:Int)<(k:Int):=by omega
    rw [show k - d.length=0 by omega] at htot
    simp only [srep,List.append_nil] at htot
    replace htot:Hid (srep (snum s) k st1=(d,⟨a2,cd⟩)):=htot
    have hfin:Hid (Rt f1 (w.heap.size≤·) wr A d∧Ms q p w wr s ⟨a2,cd⟩ (L.set 2 (.slice A d.length cap))):=⟨hM.2.rt,hM.1⟩
    clear hM hi2
    go_wp2_with fail
    go_end0
    rw [htot.out]
    exact⟨rfl,A,cap,hfin.out.1,hfin.out.2⟩
def stabs (s:ByteArray) (st:Sst):List (Int×Int)×Sst:=srep (fun st=>slim s (smust s 112 st)) (smany s 1024 st).1.toNat (smany s 1024 st).2
theorem stabs_in (h:Sin s st):Sin s (stabs s st).2:=srep_in (fun st=>slim s (smust s 112 st)) (fun _ h=>slim_in (smust_in h _)) _ _ (smany_in h _)
theorem sfirst4 (hs:s.size<9223372036854775000) (hin:Sin s st) (hp:p<w.heap.size) (hpq:p≠q) (hlen:L.length=11) (hj:L[3]?=some (.slice none 0 0)) (h:w.rowIs q 48 3 (sF s st)) (hR:Rl w p 32 L) :
    Calls Tryz.prog 14 #[.pointer (some ⟨q,0,none⟩),.int .i64 4,.pointer (some ⟨p,0,none⟩)] w fun e' w'=>e'=.returned (.tuple #[])∧Hid (Sd fLi q p 3 w w' s L (stabs s st)):=by
 have hq:=h.lt
 have hm:Hid (Calls Tryz.prog 27 #[.pointer (some ⟨q,0,none⟩),.int .i64 1024] w fun e' w'=>e'=.returned (.int .i64 (smany s 1024 st).1)∧Hid (Ss q w w' s (smany s 1024 st).2)):=smany_any hs 1024 w h
 have hr:=smany_rng (s:=s) (st:=st) (m:=1024) (by decide)
 have hi1:=smany_in hin 1024
 have M0:Ms q p w w s st L:=⟨Wr.refl _ _,h,hR⟩
 unfold stabs
 generalize smany s 1024 st=K at *
 obtain⟨k0,st1⟩:=K
 simp only [] at hm hr hi1 ⊢
 obtain⟨k,rfl⟩:=Int.eq_ofNat_of_zero_le hr.1
 rw [Int.toNat_natCast]
 have hk:k≤1024:=by omega
 have hj2:3<L.length:=by omega
 replace hi1:Hid (Sin s st1):=hi1
 replace M0:Hid (Ms q p w w s st L):=M0
 replace hj:Hid (L[3]?=some (.slice none 0 0)):=hj
 clear hin h hr hR
 go_enter Tryz.func14,Tryz.ntmps14
 go_wp2_with (go_at_call 27;refine hm.out.mono ?_;rintro e1 w1 ⟨rfl,R1⟩)
 go_loopw [14] (fun i wr=>∃(d:List (Int×Int)) (st2:Sst) (A:Option Addr) (cap:Nat),i=.int .i64 (d.length:Nat)∧d.length≤k∧Lo fLi 79 2 q p 3 w wr s st2 L (.slice A d.length cap) d∧Sin s st2∧srep (fun st=>slim s (smust s 112 st)) k st1=(d++(srep (fun st=>slim s (smust s 112 st)) (k - d.length) st2).1,(srep (fun st=>slim s (smust s 112 st)) (k - d.length) st2).2)) (fun i _=>k - (intOf i).toNat)
 case atStart=>exact⟨[],st1,none,0,rfl,Nat.zero_le _,Lo.start (M0.out.ss R1.out hpq) hj.out,hi1.out,rfl⟩
 case round =>
  obtain⟨d,⟨a2,cd⟩,A,cap,rfl,hd,hM,hi2,htot⟩:=hrel
  have c2:wr.cell? ⟨q,2,none⟩=some (.int .i64 cd):=hM.1.2.1.cell (i:=2) (by decide)
  have hl:=cell_lt c2
  have c3:wr.cell? ⟨p,3,none⟩=some (.slice A d.length cap):=hM.cell hj2
  have hl3:=cell_lt c3
  clear M0 hj hm hi1 R1
  by_cases hlt:d.length<k
  · have hl1:(d.length:Int)<(k:Int):=by omega
    by_cases hc:cd=0
    · subst hc
      obtain⟨m,hm2⟩:∃m,k - d.length=m+1:=⟨k - d.length - 1,by omega⟩
      rw [hm2,srep_ok _ _ _ rfl] at htot
      have hmu:Hid (Calls Tryz.prog 28 #[.pointer (some ⟨q,0,none⟩),.int .i64 112] wr fun e' w'=>e'=.returned (.tuple #[])∧Hid (Ss q wr w' s (smust s 112 ⟨a2,0⟩))):=smust_any hs hi2 112 wr hM.1.2.1
      have hi4:=smust_in hi2 112
      generalize smust s 112 ⟨a2,0⟩=st4 at *
      have hx:Hid (∀W,W.rowIs q 48 3 (sF s st4)→Calls Tryz.prog 32 #[.pointer (some ⟨q,0,none⟩)] W fun e' w'=>e'=.returned (.agg #[.int .i64 (slim s st4).1.1,.int .i64 (slim s st4).1.2])∧Hid (Ss q W w' s (slim s st4).2)):=fun W hW=>slim_any hs hi4 W hW
      have hi3:=slim_in hi4
      generalize slim s st4=K3 at *
      obtain⟨⟨x,y⟩,st3⟩:=K3
      simp only [] at hx htot hi3
      have hS0:Hid (Ss q wr wr s ⟨a2,0⟩):=⟨Wr.refl _ _,hM.1.2.1⟩
      have hst:Hid (∀w3,Ss q wr w3 s st3→∃g cap' w',(Builtin.append_ #[25,25] 25 #[.slice A d.length cap,.slice (some ⟨w3.heap.size,0,none⟩) 1 1]).run Tryz.prog (w3.alloc (.cells #[.int .i64 x,.int .i64 y] 79))=.ok (.slice (some ⟨g,0,none⟩) (d.length+1) cap') w'∧(w3.cell? ⟨p,3,none⟩=some (.slice A d.length cap)∧p<w3.heap.size)∧(w'.cell? ⟨p,3,none⟩=some (.slice A d.length cap)∧w'.frozen? ⟨p,3,none⟩=false∧p<w'.heap.size)∧Lo fLi 79 2 q p 3 w (w'.setCell ⟨p,3,none⟩ (.slice (some ⟨g,0,none⟩) (d.length+1) cap')) s st3 L (.slice (some ⟨g,0,none⟩) (d.length+1) cap') (d++[(x,y)])) :=
       fun w3 R3=>hM.more hq hp hpq hj2 ti_lim 25 ((x,y)) rfl [.int .i64 x,.int .i64 y] (by omega) (by omega) R3 ⟨_,_,rfl,rfl,_,_,rfl,rfl,rfl⟩
      have hfin:Hid (d.length+1≤k∧Sin s st3∧srep (fun st=>slim s (smust s 112 st)) k st1=((d++[(x,y)])++(srep (fun st=>slim s (smust s 112 st)) (k - (d++[(x,y)]).length) st3).1,(srep (fun st=>slim s (smust s 112 st)) (k - (d++[(x,y)]).length) st3).2)):=by
       refine⟨hlt,hi3,?_⟩
       rw [show k - (d++[(x,y)]).length=m by rw [List.length_append,List.length_singleton];omega,htot,List.append_assoc]
       rfl
      clear htot hM hi2 hi3 hm2 hd
      go_wp2_with fail
      refine hmu.out.mono ?_
      clear hmu
      rintro e2 w2 ⟨rfl,R2⟩
      have S2:Hid (Ss q wr w2 s st4):=hS0.out.trans R2.out
      have b3:w2.cell? ⟨p,3,none⟩=some (.slice A d.length cap):=R2.out.keep hpq c3
      have b4:=cell_lt b3
      clear R2 c2 hl c3 hl3
      go_wp2_with fail
      go_region_law (first|(refine step_app (by rfl) _ _ 25 (by rfl) _ _ _ (by rfl) (by rfl) r2.out ?_)|(go_simp;go_at_call 32;refine (hx.out _ (S2.out.later (Ld (Lz _))).2).mono ?_;rintro e w3 ⟨rfl,R3⟩;obtain⟨g,cap',w',r2,⟨t0,t1⟩,⟨t2,t3,t4⟩,hnx⟩:=hst.out w3 ((S2.out.later (Ld (Lz _))).trans R3.out);replace r2:Hid _:=r2;replace hnx:Hid (Lo fLi 79 2 q p 3 w (w'.setCell ⟨p,3,none⟩ (.slice (some ⟨g,0,none⟩) (d.length+1) cap')) s st3 L (.slice (some ⟨g,0,none⟩) (d.length+1) cap') (d++[(x,y)])):=hnx))
      all_goals
       clear hst
       go_wp2_with fail
       go_roundw
       case rel=>exact⟨d++[(x,y)],st3,some ⟨g,0,none⟩,cap',by rw [List.length_append];go_num,by rw [List.length_append];exact hfin.out.1,by rw [List.length_append];exact hnx.out,hfin.out.2⟩
       case measure=>simp [intOf];omega
    · have hc2:(cd==0)=false:=beq_false hc
      rw [srep_bad (fun st=>slim s (smust s 112 st)) (k - d.length) ⟨a2,cd⟩ hc,List.append_nil] at htot
      replace htot:Hid (srep (fun st=>slim s (smust s 112 st)) k st1=(d,⟨a2,cd⟩)):=htot
      have hfin:Hid (Rt fLi (w.heap.size≤·) wr A d∧Ms q p w wr s ⟨a2,cd⟩ (L.set 3 (.slice A d.length cap))):=⟨hM.2.rt,hM.1⟩
      clear hM hi2
      go_wp2_with fail
      go_end0
      rw [htot.out]
      exact⟨rfl,A,cap,hfin.out.1,hfin.out.2⟩
  · have hl1:¬(d.length:Int)<(k:Int):=by omega
    rw [show k - d.length=0 by omega] at htot
    simp only [srep,List.append_nil] at htot
    replace htot:Hid (srep (fun st=>slim s (smust s 112 st)) k st1=(d,⟨a2,cd⟩)):=htot
    have hfin:Hid (Rt fLi (w.heap.size≤·) wr A d∧Ms q p w wr s ⟨a2,cd⟩ (L.set 3 (.slice A d.length cap))):=⟨hM.2.rt,hM.1⟩
    clear hM hi2
    go_wp2_with fail
    go_end0
    rw [htot.out]
    exact⟨rfl,A,cap,hfin.out.1,hfin.out.2⟩
def smems (s:ByteArray) (st:Sst):List (Int×Int)×Sst:=srep (slim s) (smany s 1024 st).1.toNat (smany s 1024 st).2
theorem smems_in (h:Sin s st):Sin s (smems s st).2:=srep_in (slim s) (fun _ h=>slim_in h) _ _ (smany_in h _)
theorem sfirst5 (hs:s.size<9223372036854775000) (hin:Sin s st) (hp:p<w.heap.size) (hpq:p≠q) (hlen:L.length=11) (hj:L[4]?=some (.slice none 0 0)) (h:w.rowIs q 48 3 (sF s st)) (hR:Rl w p 32 L) :
    Calls Tryz.prog 14 #[.pointer (some ⟨q,0,none⟩),.int .i64 5,.pointer (some ⟨p,0,none⟩)] w fun e' w'=>e'=.returned (.tuple #[])∧Hid (Sd fLi q p 4 w w' s L (smems s st)):=by
 have hq:=h.lt
 have hm:Hid (Calls Tryz.prog 27 #[.pointer (some ⟨q,0,none⟩),.int .i64 1024] w fun e' w'=>e'=.returned (.int .i64 (smany s 1024 st).1)∧Hid (Ss q w w' s (smany s 1024 st).2)):=smany_any hs 1024 w h
 have hr:=smany_rng (s:=s) (st:=st) (m:=1024) (by decide)
 have hi1:=smany_in hin 1024
 have M0:Ms q p w w s st L:=⟨Wr.refl _ _,h,hR⟩
 unfold smems
 generalize smany s 1024 st=K at *
 obtain⟨k0,st1⟩:=K
 simp only [] at hm hr hi1 ⊢
 obtain⟨k,rfl⟩:=Int.eq_ofNat_of_zero_le hr.1
 rw [Int.toNat_natCast]
 have hk:k≤1024:=by omega
 have hj2:4<L.length:=by omega
 replace hi1:Hid (Sin s st1):=hi1
 replace M0:Hid (Ms q p w w s st L):=M0
 replace hj:Hid (L[4]?=some (.slice none 0 0)):=hj
 clear hin h hr hR
 go_enter Tryz.func14,Tryz.ntmps14
 go_wp2_with (go_at_call 27;refine hm.out.mono ?_;rintro e1 w1 ⟨rfl,R1⟩)
 go_loopw [16] (fun i wr=>∃(d:List (Int×Int)) (st2:Sst) (A:Option Addr) (cap:Nat),i=.int .i64 (d.length:Nat)∧d.length≤k∧Lo fLi 79 2 q p 4 w wr s st2 L (.slice A d.length cap) d∧Sin s st2∧srep (slim s) k st1=(d++(srep (slim s) (k - d.length) st2).1,(srep (slim s) (k - d.length) st2).2)) (fun i _=>k - (intOf i).toNat)
 case atStart=>exact⟨[],st1,none,0,rfl,Nat.zero_le _,Lo.start (M0.out.ss R1.out hpq) hj.out,hi1.out,rfl⟩
 case round =>
  obtain⟨d,⟨a2,cd⟩,A,cap,rfl,hd,hM,hi2,htot⟩:=hrel
  have c2:wr.cell? ⟨q,2,none⟩=some (.int .i64 cd):=hM.1.2.1.cell (i:=2) (by decide)
  have hl:=cell_lt c2
  have c3:wr.cell? ⟨p,4,none⟩=some (.slice A d.length cap):=hM.cell hj2
  have hl3:=cell_lt c3
  clear M0 hj hm hi1 R1
  by_cases hlt:d.length<k
  · have hl1:(d.length:Int)<(k:Int):=by omega
    by_cases hc:cd=0
    · subst hc
      obtain⟨m,hm2⟩:∃m,k - d.length=m+1:=⟨k - d.length - 1,by omega⟩
      rw [hm2,srep_ok _ _ _ rfl] at htot
      have hx:Hid (∀W,W.rowIs q 48 3 (sF s ⟨a2,0⟩)→Calls Tryz.prog 32 #[.pointer (some ⟨q,0,none⟩)] W fun e' w'=>e'=.returned (.agg #[.int .i64 (slim s ⟨a2,0⟩).1.1,.int .i64 (slim s ⟨a2,0⟩).1.2])∧Hid (Ss q W w' s (slim s ⟨a2,0⟩).2)):=fun W hW=>slim_any hs hi2 W hW
      have hi3:=slim_in hi2
      generalize slim s ⟨a2,0⟩=K3 at *
      obtain⟨⟨x,y⟩,st3⟩:=K3
      simp only [] at hx htot hi3
      have hS0:Hid (Ss q wr wr s ⟨a2,0⟩):=⟨Wr.refl _ _,hM.1.2.1⟩
      have hst:Hid (∀w3,Ss q wr w3 s st3→∃g cap' w',(Builtin.append_ #[25,25] 25 #[.slice A d.length cap,.slice (some ⟨w3.heap.size,0,none⟩) 1 1]).run Tryz.prog (w3.alloc (.cells #[.int .i64 x,.int .i64 y] 79))=.ok (.slice (some ⟨g,0,none⟩) (d.length+1) cap') w'∧(w3.cell? ⟨p,4,none⟩=some (.slice A d.length cap)∧p<w3.heap.size)∧(w'.cell? ⟨p,4,none⟩=some (.slice A d.length cap)∧w'.frozen? ⟨p,4,none⟩=false∧p<w'.heap.size)∧Lo fLi 79 2 q p 4 w (w'.setCell ⟨p,4,none⟩ (.slice (some ⟨g,0,none⟩) (d.length+1) cap')) s st3 L (.slice (some ⟨g,0,none⟩) (d.length+1) cap') (d++[(x,y)])) :=
       fun w3 R3=>hM.more hq hp hpq hj2 ti_lim 25 ((x,y)) rfl [.int .i64 x,.int .i64 y] (by omega) (by omega) R3 ⟨_,_,rfl,rfl,_,_,rfl,rfl,rfl⟩
      have hfin:Hid (d.length+1≤k∧Sin s st3∧srep (slim s) k st1=((d++[(x,y)])++(srep (slim s) (k - (d++[(x,y)]).length) st3).1,(srep (slim s) (k - (d++[(x,y)]).length) st3).2)):=by
       refine⟨hlt,hi3,?_⟩
       rw [show k - (d++[(x,y)]).length=m by rw [List.length_append,List.length_singleton];omega,htot,List.append_assoc]
       rfl
      clear htot hM hi2 hi3 hm2 hd
      go_wp2_with fail
      go_region_law (first|(refine step_app (by rfl) _ _ 25 (by rfl) _ _ _ (by rfl) (by rfl) r2.out ?_)|(go_simp;go_at_call 32;refine (hx.out _ (hS0.out.later (Ld (Lz _))).2).mono ?_;rintro e w3 ⟨rfl,R3⟩;obtain⟨g,cap',w',r2,⟨t0,t1⟩,⟨t2,t3,t4⟩,hnx⟩:=hst.out w3 ((hS0.out.later (Ld (Lz _))).trans R3.out);replace r2:Hid _:=r2;replace hnx:Hid (Lo fLi 79 2 q p 4 w (w'.setCell ⟨p,4,none⟩ (.slice (some ⟨g,0,none⟩) (d.length+1) cap')) s st3 L (.slice (some ⟨g,0,none⟩) (d.length+1) cap') (d++[(x,y)])):=hnx))
      all_goals
       clear hst
       go_wp2_with fail
       go_roundw
       case rel=>exact⟨d++[(x,y)],st3,some ⟨g,0,none⟩,cap',by rw [List.length_append];go_num,by rw [List.length_append];exact hfin.out.1,by rw [List.length_append];exact hnx.out,hfin.out.2⟩
       case measure=>simp [intOf];omega
    · have hc2:(cd==0)=false:=beq_false hc
      rw [srep_bad (slim s) (k - d.length) ⟨a2,cd⟩ hc,List.append_nil] at htot
      replace htot:Hid (srep (slim s) k st1=(d,⟨a2,cd⟩)):=htot
      have hfin:Hid (Rt fLi (w.heap.size≤·) wr A d∧Ms q p w wr s ⟨a2,cd⟩ (L.set 4 (.slice A d.length cap))):=⟨hM.2.rt,hM.1⟩
      clear hM hi2
      go_wp2_with fail
      go_end0
      rw [htot.out]
      exact⟨rfl,A,cap,hfin.out.1,hfin.out.2⟩
  · have hl1:¬(d.length:Int)<(k:Int):=by omega
    rw [show k - d.length=0 by omega] at htot
    simp only [srep,List.append_nil] at htot
    replace htot:Hid (srep (slim s) k st1=(d,⟨a2,cd⟩)):=htot
    have hfin:Hid (Rt fLi (w.heap.size≤·) wr A d∧Ms q p w wr s ⟨a2,cd⟩ (L.set 4 (.slice A d.length cap))):=⟨hM.2.rt,hM.1⟩
    clear hM hi2
    go_wp2_with fail
    go_end0
    rw [htot.out]
    exact⟨rfl,A,cap,hfin.out.1,hfin.out.2⟩
end Go.Proofs.YtngciahmoenkiaaGreat
namespace Go.Proofs.YtngciahmoenkiaaGreat
open Go.RowKit
variable {q p:Nat} {w wr wr':World} {s:ByteArray} {st st':Sst} {L:List Value}
theorem sbody_in (h:Sin s st):Sin s (sbody s st).2:=by
 unfold sbody sclose
 simp only []
 split
 · exact sfail_in (sinstrs_in (slocs_in _ _ _ (smany_in (snum_in h) _))) _
 · exact sinstrs_in (slocs_in _ _ _ (smany_in (snum_in h) _))
def scodes (s:ByteArray) (st:Sst):List (List Int×Fs)×Sst:=srep (sbody s) (smany s 256 st).1.toNat (smany s 256 st).2
theorem scodes_in (h:Sin s st):Sin s (scodes s st).2:=srep_in (sbody s) (fun _ h=>sbody_in h) _ _ (smany_in h _)
theorem slast10 (hs:s.size<9223372036854775000) (hin:Sin s st) (hp:p<w.heap.size) (hpq:p≠q) (hlen:L.length=11) (hj:L[9]?=some (.slice none 0 0)) (h:w.rowIs q 48 3 (sF s st)) (hR:Rl w p 32 L) :
    Calls Tryz.prog 15 #[.pointer (some ⟨q,0,none⟩),.int .i64 10,.pointer (some ⟨p,0,none⟩)] w fun e' w'=>e'=.returned (.tuple #[])∧Hid (Sd fCo q p 9 w w' s L (scodes s st)):=by
 have hq:=h.lt
 have hm:Hid (Calls Tryz.prog 27 #[.pointer (some ⟨q,0,none⟩),.int .i64 256] w fun e' w'=>e'=.returned (.int .i64 (smany s 256 st).1)∧Hid (Ss q w w' s (smany s 256 st).2)):=smany_any hs 256 w h
 have hr:=smany_rng (s:=s) (st:=st) (m:=256) (by decide)
 have hi1:=smany_in hin 256
 have M0:Ms q p w w s st L:=⟨Wr.refl _ _,h,hR⟩
 unfold scodes
 generalize smany s 256 st=K at *
 obtain⟨k0,st1⟩:=K
 simp only [] at hm hr hi1 ⊢
 obtain⟨k,rfl⟩:=Int.eq_ofNat_of_zero_le hr.1
 rw [Int.toNat_natCast]
 have hk:k≤256:=by omega
 have hj2:9<L.length:=by omega
 replace hi1:Hid (Sin s st1):=hi1
 replace M0:Hid (Ms q p w w s st L):=M0
 replace hj:Hid (L[9]?=some (.slice none 0 0)):=hj
 clear hin h hr hR
 go_enter Tryz.func15,Tryz.ntmps15
 go_wp2_with (go_at_call 27;refine hm.out.mono ?_;rintro e1 w1 ⟨rfl,R1⟩)
 go_loopw [18] (fun i wr=>∃(d:List (List Int×Fs)) (st2:Sst) (A:Option Addr) (cap:Nat),i=.int .i64 (d.length:Nat)∧d.length≤k∧Lo fCo 63 2 q p 9 w wr s st2 L (.slice A d.length cap) d∧Sin s st2∧srep (sbody s) k st1=(d++(srep (sbody s) (k - d.length) st2).1,(srep (sbody s) (k - d.length) st2).2)) (fun i _=>k - (intOf i).toNat)
 case atStart=>exact⟨[],st1,none,0,rfl,Nat.zero_le _,Lo.start (M0.out.ss R1.out hpq) hj.out,hi1.out,rfl⟩
 case round =>
  obtain⟨d,⟨a2,cd⟩,A,cap,rfl,hd,hM,hi2,htot⟩:=hrel
  have c2:wr.cell? ⟨q,2,none⟩=some (.int .i64 cd):=hM.1.2.1.cell (i:=2) (by decide)
  have hl:=cell_lt c2
  have c3:wr.cell? ⟨p,9,none⟩=some (.slice A d.length cap):=hM.cell hj2
  have hl3:=cell_lt c3
  clear M0 hj hm hi1 R1
  by_cases hlt:d.length<k
  · have hl1:(d.length:Int)<(k:Int):=by omega
    by_cases hc:cd=0
    · subst hc
      obtain⟨m,hm2⟩:∃m,k - d.length=m+1:=⟨k - d.length - 1,by omega⟩
      rw [hm2,srep_ok _ _ _ rfl] at htot
      have hx:Hid (∀W,W.rowIs q 48 3 (sF s ⟨a2,0⟩)→Calls Tryz.prog 37 #[.pointer (some ⟨q,0,none⟩)] W fun e' w'=>∃A c B c',e'=.returned (.agg #[.slice A (sbody s ⟨a2,0⟩).1.1.length c,.slice B (sbody s ⟨a2,0⟩).1.2.len c'])∧Hid (Lq (W.heap.size≤·) w' A (sbody s ⟨a2,0⟩).1.1)∧Hid (Tr (W.heap.size≤·) w' B (sbody s ⟨a2,0⟩).1.2)∧Hid (Ss q W w' s (sbody s ⟨a2,0⟩).2)):=fun W hW=>sbody_any hs hi2 W hW
      have hi3:=sbody_in hi2
      generalize sbody s ⟨a2,0⟩=K3 at *
      obtain⟨⟨ls,fb⟩,st3⟩:=K3
      simp only [] at hx htot hi3
      have hS0:Hid (Ss q wr wr s ⟨a2,0⟩):=⟨Wr.refl _ _,hM.1.2.1⟩
      have hst:Hid (∀w3 A1 n1 B1 n2,Lq (wr.heap.size≤·) w3 A1 ls→Tr (wr.heap.size≤·) w3 B1 fb→Ss q wr w3 s st3→∃g cap' w',(Builtin.append_ #[29,29] 29 #[.slice A d.length cap,.slice (some ⟨w3.heap.size,0,none⟩) 1 1]).run Tryz.prog (w3.alloc (.cells #[.slice A1 ls.length n1,.slice B1 fb.len n2] 63))=.ok (.slice (some ⟨g,0,none⟩) (d.length+1) cap') w'∧(w3.cell? ⟨p,9,none⟩=some (.slice A d.length cap)∧p<w3.heap.size)∧(w'.cell? ⟨p,9,none⟩=some (.slice A d.length cap)∧w'.frozen? ⟨p,9,none⟩=false∧p<w'.heap.size)∧Lo fCo 63 2 q p 9 w (w'.setCell ⟨p,9,none⟩ (.slice (some ⟨g,0,none⟩) (d.length+1) cap')) s st3 L (.slice (some ⟨g,0,none⟩) (d.length+1) cap') (d++[(ls,fb)])) :=
       fun w3 A1 n1 B1 n2 q1 q2 R3=>hM.more hq hp hpq hj2 ti_cod 29 ((ls,fb)) rfl [.slice A1 ls.length n1,.slice B1 fb.len n2] (by omega) (by omega) R3 ⟨_,_,rfl,⟨A1,n1,rfl,q1⟩,_,_,rfl,⟨B1,n2,rfl,q2⟩,rfl⟩
      have hfin:Hid (d.length+1≤k∧Sin s st3∧srep (sbody s) k st1=((d++[(ls,fb)])++(srep (sbody s) (k - (d++[(ls,fb)]).length) st3).1,(srep (sbody s) (k - (d++[(ls,fb)]).length) st3).2)):=by
       refine⟨hlt,hi3,?_⟩
       rw [show k - (d++[(ls,fb)]).length=m by rw [List.length_append,List.length_singleton];omega,htot,List.append_assoc]
       rfl
      clear htot hM hi2 hi3 hm2 hd
      go_wp2_with fail
      go_region_law (first|(refine step_app (by rfl) _ _ 29 (by rfl) _ _ _ (by rfl) (by rfl) r2.out ?_)|(go_simp;go_at_call 37;refine (hx.out _ (hS0.out.later (Ld (Lz _))).2).mono ?_;rintro e w3 ⟨A1,n1,B1,n2,rfl,q1,q2,R3⟩;obtain⟨g,cap',w',r2,⟨t0,t1⟩,⟨t2,t3,t4⟩,hnx⟩:=hst.out w3 A1 n1 B1 n2 q1.out q2.out ((hS0.out.later (Ld (Lz _))).trans R3.out);replace r2:Hid _:=r2;replace hnx:Hid (Lo fCo 63 2 q p 9 w (w'.setCell ⟨p,9,none⟩ (.slice (some ⟨g,0,none⟩) (d.length+1) cap')) s st3 L (.slice (some ⟨g,0,none⟩) (d.length+1) cap') (d++[(ls,fb)])):=hnx))
      all_goals
       clear hst
       go_wp2_with fail
       go_roundw
       case rel=>exact⟨d++[(ls,fb)],st3,some ⟨g,0,none⟩,cap',by rw [List.length_append];go_num,by rw [List.length_append];exact hfin.out.1,by rw [List.length_append];exact hnx.out,hfin.out.2⟩
       case measure=>simp [intOf];omega
    · have hc2:(cd==0)=false:=beq_false hc
      rw [srep_bad (sbody s) (k - d.length) ⟨a2,cd⟩ hc,List.append_nil] at htot
      replace htot:Hid (srep (sbody s) k st1=(d,⟨a2,cd⟩)):=htot
      have hfin:Hid (Rt fCo (w.heap.size≤·) wr A d∧Ms q p w wr s ⟨a2,cd⟩ (L.set 9 (.slice A d.length cap))):=⟨hM.2.rt,hM.1⟩
      clear hM hi2
      go_wp2_with fail
      go_end0
      rw [htot.out]
      exact⟨rfl,A,cap,hfin.out.1,hfin.out.2⟩
  · have hl1:¬(d.length:Int)<(k:Int):=by omega
    rw [show k - d.length=0 by omega] at htot
    simp only [srep,List.append_nil] at htot
    replace htot:Hid (srep (sbody s) k st1=(d,⟨a2,cd⟩)):=htot
    have hfin:Hid (Rt fCo (w.heap.size≤·) wr A d∧Ms q p w wr s ⟨a2,cd⟩ (L.set 9 (.slice A d.length cap))):=⟨hM.2.rt,hM.1⟩
    clear hM hi2
    go_wp2_with fail
    go_end0
    rw [htot.out]
    exact⟨rfl,A,cap,hfin.out.1,hfin.out.2⟩
end Go.Proofs.YtngciahmoenkiaaGreat
namespace Go.Proofs.YtngciahmoenkiaaGreat
open Go.RowKit
variable {q p:Nat} {w wr wr':World} {s:ByteArray} {st st':Sst} {L:List Value}
def sty (s:ByteArray) (st:Sst):(List Int×List Int)×Sst:=(((skinds s (smust s 96 st)).1,(skinds s (skinds s (smust s 96 st)).2).1),(skinds s (skinds s (smust s 96 st)).2).2)
def stys (s:ByteArray) (st:Sst):List (List Int×List Int)×Sst:=srep (sty s) (smany s 256 st).1.toNat (smany s 256 st).2
theorem stys_in (h:Sin s st):Sin s (stys s st).2:=srep_in (sty s) (fun _ h=>skinds_in (skinds_in (smust_in h _))) _ _ (smany_in h _)
theorem sfirst1 (hs:s.size<9223372036854775000) (hin:Sin s st) (hp:p<w.heap.size) (hpq:p≠q) (hlen:L.length=11) (hj:L[0]?=some (.slice none 0 0)) (h:w.rowIs q 48 3 (sF s st)) (hR:Rl w p 32 L) :
    Calls Tryz.prog 14 #[.pointer (some ⟨q,0,none⟩),.int .i64 1,.pointer (some ⟨p,0,none⟩)] w fun e' w'=>e'=.returned (.tuple #[])∧Hid (Sd fTy q p 0 w w' s L (stys s st)):=by
 have hq:=h.lt
 have hm:Hid (Calls Tryz.prog 27 #[.pointer (some ⟨q,0,none⟩),.int .i64 256] w fun e' w'=>e'=.returned (.int .i64 (smany s 256 st).1)∧Hid (Ss q w w' s (smany s 256 st).2)):=smany_any hs 256 w h
 have hr:=smany_rng (s:=s) (st:=st) (m:=256) (by decide)
 have hi1:=smany_in hin 256
 have M0:Ms q p w w s st L:=⟨Wr.refl _ _,h,hR⟩
 unfold stys
 generalize smany s 256 st=K at *
 obtain⟨k0,st1⟩:=K
 simp only [] at hm hr hi1 ⊢
 obtain⟨k,rfl⟩:=Int.eq_ofNat_of_zero_le hr.1
 rw [Int.toNat_natCast]
 have hk:k≤256:=by omega
 have hj2:0<L.length:=by omega
 replace hi1:Hid (Sin s st1):=hi1
 replace M0:Hid (Ms q p w w s st L):=M0
 replace hj:Hid (L[0]?=some (.slice none 0 0)):=hj
 clear hin h hr hR
 go_enter Tryz.func14,Tryz.ntmps14
 go_wp2_with (go_at_call 27;refine hm.out.mono ?_;rintro e1 w1 ⟨rfl,R1⟩)
 go_loopw [7] (fun i wr=>∃(d:List (List Int×List Int)) (st2:Sst) (A:Option Addr) (cap:Nat),i=.int .i64 (d.length:Nat)∧d.length≤k∧Lo fTy 68 2 q p 0 w wr s st2 L (.slice A d.length cap) d∧Sin s st2∧srep (sty s) k st1=(d++(srep (sty s) (k - d.length) st2).1,(srep (sty s) (k - d.length) st2).2)) (fun i _=>k - (intOf i).toNat)
 case atStart=>exact⟨[],st1,none,0,rfl,Nat.zero_le _,Lo.start (M0.out.ss R1.out hpq) hj.out,hi1.out,rfl⟩
 case round =>
  obtain⟨d,⟨a2,cd⟩,A,cap,rfl,hd,hM,hi2,htot⟩:=hrel
  have c2:wr.cell? ⟨q,2,none⟩=some (.int .i64 cd):=hM.1.2.1.cell (i:=2) (by decide)
  have hl:=cell_lt c2
  have c3:wr.cell? ⟨p,0,none⟩=some (.slice A d.length cap):=hM.cell hj2
  have hl3:=cell_lt c3
  clear M0 hj hm hi1 R1
  by_cases hlt:d.length<k
  · have hl1:(d.length:Int)<(k:Int):=by omega
    by_cases hc:cd=0
    · subst hc
      obtain⟨m,hm2⟩:∃m,k - d.length=m+1:=⟨k - d.length - 1,by omega⟩
      rw [hm2,srep_ok _ _ _ rfl] at htot
      simp only [sty] at htot
      have hS0:Hid (Ss q wr wr s ⟨a2,0⟩):=⟨Wr.refl _ _,hM.1.2.1⟩
      have h1:Hid (∀W,W.rowIs q 48 3 (sF s ⟨a2,0⟩)→Calls Tryz.prog 28 #[.pointer (some ⟨q,0,none⟩),.int .i64 96] W fun e' w'=>e'=.returned (.tuple #[])∧Hid (Ss q W w' s (smust s 96 ⟨a2,0⟩))):=fun W hW=>smust_any hs hi2 96 W hW
      have j1:=smust_in hi2 96
      generalize smust s 96 ⟨a2,0⟩=st4 at *
      have h2:Hid (∀W,W.rowIs q 48 3 (sF s st4)→Calls Tryz.prog 29 #[.pointer (some ⟨q,0,none⟩)] W fun e' w'=>∃A c,e'=.returned (.slice A (skinds s st4).1.length c)∧Hid (Lq (W.heap.size≤·) w' A (skinds s st4).1)∧Hid (Ss q W w' s (skinds s st4).2)):=fun W hW=>skinds_any hs j1 W hW
      have j2:=skinds_in j1
      generalize skinds s st4=Kst5 at *
      obtain⟨l1,st5⟩:=Kst5
      simp only [] at h2 j2 htot
      have h3:Hid (∀W,W.rowIs q 48 3 (sF s st5)→Calls Tryz.prog 29 #[.pointer (some ⟨q,0,none⟩)] W fun e' w'=>∃A c,e'=.returned (.slice A (skinds s st5).1.length c)∧Hid (Lq (W.heap.size≤·) w' A (skinds s st5).1)∧Hid (Ss q W w' s (skinds s st5).2)):=fun W hW=>skinds_any hs j2 W hW
      have hi3:=skinds_in j2
      generalize skinds s st5=Kst3 at *
      obtain⟨l2,st3⟩:=Kst3
      simp only [] at h3 hi3 htot
      have hst:Hid (∀w3 A1 n1 A2 n2,Lq (wr.heap.size≤·) w3 A1 l1→Lq (wr.heap.size≤·) w3 A2 l2→Ss q wr w3 s st3→∃g cap' w',(Builtin.append_ #[22,22] 22 #[.slice A d.length cap,.slice (some ⟨w3.heap.size,0,none⟩) 1 1]).run Tryz.prog (w3.alloc (.cells #[.slice A1 l1.length n1,.slice A2 l2.length n2] 68))=.ok (.slice (some ⟨g,0,none⟩) (d.length+1) cap') w'∧(w3.cell? ⟨p,0,none⟩=some (.slice A d.length cap)∧p<w3.heap.size)∧(w'.cell? ⟨p,0,none⟩=some (.slice A d.length cap)∧w'.frozen? ⟨p,0,none⟩=false∧p<w'.heap.size)∧Lo fTy 68 2 q p 0 w (w'.setCell ⟨p,0,none⟩ (.slice (some ⟨g,0,none⟩) (d.length+1) cap')) s st3 L (.slice (some ⟨g,0,none⟩) (d.length+1) cap') (d++[(l1,l2)])) :=
       fun w3 A1 n1 A2 n2 q1 q2 R3=>hM.more hq hp hpq hj2 ti_fty 22 ((l1,l2)) rfl [.slice A1 l1.length n1,.slice A2 l2.length n2] (by omega) (by omega) R3 ⟨_,_,rfl,⟨A1,n1,rfl,q1⟩,_,_,rfl,⟨A2,n2,rfl,q2⟩,rfl⟩
      have hfin:Hid (d.length+1≤k∧Sin s st3∧srep (sty s) k st1=((d++[(l1,l2)])++(srep (sty s) (k - (d++[(l1,l2)]).length) st3).1,(srep (sty s) (k - (d++[(l1,l2)]).length) st3).2)):=by
       refine⟨hlt,hi3,?_⟩
       rw [show k - (d++[(l1,l2)]).length=m by rw [List.length_append,List.length_singleton];omega,htot,List.append_assoc]
       rfl
      clear htot hM hi2 hi3 hm2 hd j1 j2
      go_wp2_with fail
      refine (h1.out _ hS0.out.2).mono ?_
      rintro e1 w1 ⟨rfl,R1⟩
      have C1:Hid (Ss q wr w1 s st4):=hS0.out.trans R1.out
      have z1:wr.heap.size≤w1.heap.size:=R1.out.size
      clear R1
      go_wp2_with fail
      refine (h2.out _ C1.out.2).mono ?_
      rintro e2 w2 ⟨A1,n1,rfl,q1,R2⟩
      have C2:Hid (Ss q wr w2 s st5):=C1.out.trans R2.out
      have z2:w1.heap.size≤w2.heap.size:=R2.out.size
      have hpt:wr.heap.size≤w2.heap.size:=by omega
      clear R2
      have V0:Hid (Wr (·=q) w2 w2):=Wr.refl _ _
      go_wp2_with fail
      have D1:Hid (Ss q wr (w2.alloc (.cells #[.slice A1 l1.length n1,.slice none 0 0] 68)) s st5):=C2.out.later (La (Lz _))
      have Et1:Hid (Rl (w2.alloc (.cells #[.slice A1 l1.length n1,.slice none 0 0] 68)) w2.heap.size 68 [.slice A1 l1.length n1,.slice none 0 0]):=row_new w2 68 [.slice A1 l1.length n1,.slice none 0 0]
      have V_2:Hid (Wr (·=q) w2 (w2.alloc (.cells #[.slice A1 l1.length n1,.slice none 0 0] 68))):=V0.out.ltr (La (Lz _))
      refine (h3.out _ D1.out.2).mono ?_
      rintro e3 w3 ⟨A2,n2,rfl,q2,R3⟩
      have C3:Hid (Ss q wr w3 s st3):=D1.out.trans R3.out
      have Bt3:Hid (Rl w3 w2.heap.size 68 [.slice A1 l1.length n1,.slice none 0 0]):=Et1.out.wr R3.out.1 (fun e=>by have e:w2.heap.size=q:=e;have:=hpt;omega)
      have V_3:Hid (Wr (·=q) w2 w3):=V_2.out.trans R3.out.1
      have z3:w2.heap.size+1≤w3.heap.size:=by have:=R3.out.size;simpa using this
      have b3:w3.cell? ⟨p,0,none⟩=some (.slice A d.length cap):=C3.out.keep hpq c3
      have b4:=cell_lt b3
      have y1:p≠w2.heap.size:=by omega
      have a4:w3.cell? ⟨w2.heap.size,0,none⟩=some (.slice A1 l1.length n1):=Bt3.out.cell 0 rfl
      have b4:w3.frozen? ⟨w2.heap.size,0,none⟩=false:=Bt3.out.frozen 0
      have a5:w3.cell? ⟨w2.heap.size,1,none⟩=some (.slice none 0 0):=Bt3.out.cell 1 rfl
      have b5:w3.frozen? ⟨w2.heap.size,1,none⟩=false:=Bt3.out.frozen 1
      have l6:=Bt3.out.lt
      clear R3
      go_wp2_with fail
      have D7:Hid (Ss q wr (w3.setCell ⟨w2.heap.size,1,none⟩ (.slice A2 l2.length n2)) s st3):=C3.out.put hpt hl 1 _
      have Et7:Hid (Rl (w3.setCell ⟨w2.heap.size,1,none⟩ (.slice A2 l2.length n2)) w2.heap.size 68 [.slice A1 l1.length n1,.slice A2 l2.length n2]):=Bt3.out.set 1 _
      have V_8:Hid (Wr (·=q) w2 (w3.setCell ⟨w2.heap.size,1,none⟩ (.slice A2 l2.length n2))):=V_3.out.set 1 _ (Or.inr (by omega))
      clear c2 c3 hl3
      obtain⟨g,cap',w',r2,⟨t0,t1⟩,⟨t2,t3,t4⟩,hnx⟩:=hst.out (World.drew (w3.setCell ⟨w2.heap.size,1,none⟩ (.slice A2 l2.length n2))) A1 n1 A2 n2 ((q1.out.keep (fun j hj hl=>(V_8.out.ltr (Ld (Lz _))).block j hl (fun e=>by have e:j=q:=e;have hj:w1.heap.size≤j:=hj;omega))).mono (fun j hj=>by have hj:w1.heap.size≤j:=hj;show wr.heap.size≤j;omega)) ((q2.out.keep (fun j hj hl=>Below.heap_setCell w3 ⟨w2.heap.size,1,none⟩ _ j (fun e=>by have e:j=w2.heap.size:=e;have hj:(World.alloc w2 _).heap.size≤j:=hj;simp at hj;omega))).mono (fun j hj=>by have hj:(World.alloc w2 _).heap.size≤j:=hj;show wr.heap.size≤j;simp at hj;omega)) (D7.out.later (Ld (Lz _)))
      rw [show (World.drew (w3.setCell ⟨w2.heap.size,1,none⟩ (.slice A2 l2.length n2))).heap.size=w3.heap.size by simp [World.drew,World.setCell]] at r2
      replace r2:Hid _:=r2
      replace hnx:Hid (Lo fTy 68 2 q p 0 w (w'.setCell ⟨p,0,none⟩ (.slice (some ⟨g,0,none⟩) (d.length+1) cap')) s st3 L (.slice (some ⟨g,0,none⟩) (d.length+1) cap') (d++[(l1,l2)])):=hnx
      go_region_law (refine step_app (by rfl) _ _ 22 (by rfl) _ _ _ (by rfl) (by rfl) r2.out ?_)
      all_goals
       clear hst
       go_wp2_with fail
       go_roundw
       case rel=>exact⟨d++[(l1,l2)],st3,some ⟨g,0,none⟩,cap',by rw [List.length_append];go_num,by rw [List.length_append];exact hfin.out.1,by rw [List.length_append];exact hnx.out,hfin.out.2⟩
       case measure=>simp [intOf];omega
    · have hc2:(cd==0)=false:=beq_false hc
      rw [srep_bad (sty s) (k - d.length) ⟨a2,cd⟩ hc,List.append_nil] at htot
      replace htot:Hid (srep (sty s) k st1=(d,⟨a2,cd⟩)):=htot
      have hfin:Hid (Rt fTy (w.heap.size≤·) wr A d∧Ms q p w wr s ⟨a2,cd⟩ (L.set 0 (.slice A d.length cap))):=⟨hM.2.rt,hM.1⟩
      clear hM hi2
      go_wp2_with fail
      go_end0
      rw [htot.out]
      exact⟨rfl,A,cap,hfin.out.1,hfin.out.2⟩
  · have hl1:¬(d.length:Int)<(k:Int):=by omega
    rw [show k - d.length=0 by omega] at htot
    simp only [srep,List.append_nil] at htot
    replace htot:Hid (srep (sty s) k st1=(d,⟨a2,cd⟩)):=htot
    have hfin:Hid (Rt fTy (w.heap.size≤·) wr A d∧Ms q p w wr s ⟨a2,cd⟩ (L.set 0 (.slice A d.length cap))):=⟨hM.2.rt,hM.1⟩
    clear hM hi2
    go_wp2_with fail
    go_end0
    rw [htot.out]
    exact⟨rfl,A,cap,hfin.out.1,hfin.out.2⟩
def sglo (s:ByteArray) (st:Sst):(Int×Bool×Fs)×Sst:=(((skind s st).1,(sflag s (skind s st).2).1,(sinstrs s (sflag s (skind s st).2).2).1),(sinstrs s (sflag s (skind s st).2).2).2)
def sglos (s:ByteArray) (st:Sst):List (Int×Bool×Fs)×Sst:=srep (sglo s) (smany s 1024 st).1.toNat (smany s 1024 st).2
theorem sglos_in (h:Sin s st):Sin s (sglos s st).2:=srep_in (sglo s) (fun _ h=>sinstrs_in (sflag_in (skind_in h))) _ _ (smany_in h _)
theorem slast6 (hs:s.size<9223372036854775000) (hin:Sin s st) (hp:p<w.heap.size) (hpq:p≠q) (hlen:L.length=11) (hj:L[5]?=some (.slice none 0 0)) (h:w.rowIs q 48 3 (sF s st)) (hR:Rl w p 32 L) :
    Calls Tryz.prog 15 #[.pointer (some ⟨q,0,none⟩),.int .i64 6,.pointer (some ⟨p,0,none⟩)] w fun e' w'=>e'=.returned (.tuple #[])∧Hid (Sd fGl q p 5 w w' s L (sglos s st)):=by
 have hq:=h.lt
 have hm:Hid (Calls Tryz.prog 27 #[.pointer (some ⟨q,0,none⟩),.int .i64 1024] w fun e' w'=>e'=.returned (.int .i64 (smany s 1024 st).1)∧Hid (Ss q w w' s (smany s 1024 st).2)):=smany_any hs 1024 w h
 have hr:=smany_rng (s:=s) (st:=st) (m:=1024) (by decide)
 have hi1:=smany_in hin 1024
 have M0:Ms q p w w s st L:=⟨Wr.refl _ _,h,hR⟩
 unfold sglos
 generalize smany s 1024 st=K at *
 obtain⟨k0,st1⟩:=K
 simp only [] at hm hr hi1 ⊢
 obtain⟨k,rfl⟩:=Int.eq_ofNat_of_zero_le hr.1
 rw [Int.toNat_natCast]
 have hk:k≤1024:=by omega
 have hj2:5<L.length:=by omega
 replace hi1:Hid (Sin s st1):=hi1
 replace M0:Hid (Ms q p w w s st L):=M0
 replace hj:Hid (L[5]?=some (.slice none 0 0)):=hj
 clear hin h hr hR
 go_enter Tryz.func15,Tryz.ntmps15
 go_wp2_with (go_at_call 27;refine hm.out.mono ?_;rintro e1 w1 ⟨rfl,R1⟩)
 go_loopw [7] (fun i wr=>∃(d:List (Int×Bool×Fs)) (st2:Sst) (A:Option Addr) (cap:Nat),i=.int .i64 (d.length:Nat)∧d.length≤k∧Lo fGl 55 3 q p 5 w wr s st2 L (.slice A d.length cap) d∧Sin s st2∧srep (sglo s) k st1=(d++(srep (sglo s) (k - d.length) st2).1,(srep (sglo s) (k - d.length) st2).2)) (fun i _=>k - (intOf i).toNat)
 case atStart=>exact⟨[],st1,none,0,rfl,Nat.zero_le _,Lo.start (M0.out.ss R1.out hpq) hj.out,hi1.out,rfl⟩
 case round =>
  obtain⟨d,⟨a2,cd⟩,A,cap,rfl,hd,hM,hi2,htot⟩:=hrel
  have c2:wr.cell? ⟨q,2,none⟩=some (.int .i64 cd):=hM.1.2.1.cell (i:=2) (by decide)
  have hl:=cell_lt c2
  have c3:wr.cell? ⟨p,5,none⟩=some (.slice A d.length cap):=hM.cell hj2
  have hl3:=cell_lt c3
  clear M0 hj hm hi1 R1
  by_cases hlt:d.length<k
  · have hl1:(d.length:Int)<(k:Int):=by omega
    by_cases hc:cd=0
    · subst hc
      obtain⟨m,hm2⟩:∃m,k - d.length=m+1:=⟨k - d.length - 1,by omega⟩
      rw [hm2,srep_ok _ _ _ rfl] at htot
      simp only [sglo] at htot
      have hS0:Hid (Ss q wr wr s ⟨a2,0⟩):=⟨Wr.refl _ _,hM.1.2.1⟩
      have h1:Hid (∀W,W.rowIs q 48 3 (sF s ⟨a2,0⟩)→Calls Tryz.prog 33 #[.pointer (some ⟨q,0,none⟩)] W fun e' w'=>e'=.returned (.int .i64 (skind s ⟨a2,0⟩).1)∧Hid (Ss q W w' s (skind s ⟨a2,0⟩).2)):=fun W hW=>skind_any hs hi2 W hW
      have j1:=skind_in hi2
      generalize skind s ⟨a2,0⟩=Kst4 at *
      obtain⟨x,st4⟩:=Kst4
      simp only [] at h1 j1 htot
      have h2:Hid (∀W,W.rowIs q 48 3 (sF s st4)→Calls Tryz.prog 34 #[.pointer (some ⟨q,0,none⟩)] W fun e' w'=>e'=.returned (.bool (sflag s st4).1)∧Hid (Ss q W w' s (sflag s st4).2)):=fun W hW=>sflag_any hs j1 W hW
      have j2:=sflag_in j1
      generalize sflag s st4=Kst5 at *
      obtain⟨b,st5⟩:=Kst5
      simp only [] at h2 j2 htot
      have h3:Hid (∀W,W.rowIs q 48 3 (sF s st5)→Calls Tryz.prog 35 #[.pointer (some ⟨q,0,none⟩)] W fun e' w'=>∃A c,e'=.returned (.slice A (sinstrs s st5).1.len c)∧Hid (Tr (W.heap.size≤·) w' A (sinstrs s st5).1)∧Hid (Ss q W w' s (sinstrs s st5).2)):=fun W hW=>sinstrs_any hs W hW
      have hi3:=sinstrs_in j2
      generalize sinstrs s st5=Kst3 at *
      obtain⟨fb,st3⟩:=Kst3
      simp only [] at h3 hi3 htot
      have hst:Hid (∀w3 A1 n1,Tr (wr.heap.size≤·) w3 A1 fb→Ss q wr w3 s st3→∃g cap' w',(Builtin.append_ #[26,26] 26 #[.slice A d.length cap,.slice (some ⟨w3.heap.size,0,none⟩) 1 1]).run Tryz.prog (w3.alloc (.cells #[.int .i64 x,.bool b,.slice A1 fb.len n1] 55))=.ok (.slice (some ⟨g,0,none⟩) (d.length+1) cap') w'∧(w3.cell? ⟨p,5,none⟩=some (.slice A d.length cap)∧p<w3.heap.size)∧(w'.cell? ⟨p,5,none⟩=some (.slice A d.length cap)∧w'.frozen? ⟨p,5,none⟩=false∧p<w'.heap.size)∧Lo fGl 55 3 q p 5 w (w'.setCell ⟨p,5,none⟩ (.slice (some ⟨g,0,none⟩) (d.length+1) cap')) s st3 L (.slice (some ⟨g,0,none⟩) (d.length+1) cap') (d++[(x,b,fb)])) :=
       fun w3 A1 n1 q1 R3=>hM.more hq hp hpq hj2 ti_glo 26 ((x,b,fb)) rfl [.int .i64 x,.bool b,.slice A1 fb.len n1] (by omega) (by omega) R3 ⟨_,_,rfl,rfl,_,_,rfl,rfl,_,_,rfl,⟨A1,n1,rfl,q1⟩,rfl⟩
      have hfin:Hid (d.length+1≤k∧Sin s st3∧srep (sglo s) k st1=((d++[(x,b,fb)])++(srep (sglo s) (k - (d++[(x,b,fb)]).length) st3).1,(srep (sglo s) (k - (d++[(x,b,fb)]).length) st3).2)):=by
       refine⟨hlt,hi3,?_⟩
       rw [show k - (d++[(x,b,fb)]).length=m by rw [List.length_append,List.length_singleton];omega,htot,List.append_assoc]
       rfl
      clear htot hM hi2 hi3 hm2 hd j1 j2
      go_wp2_with fail
      refine (h1.out _ hS0.out.2).mono ?_
      rintro e1 w1 ⟨rfl,R1⟩
      have C1:Hid (Ss q wr w1 s st4):=hS0.out.trans R1.out
      have z1:wr.heap.size≤w1.heap.size:=R1.out.size
      clear R1
      go_wp2_with fail
      have D1:Hid (Ss q wr (w1.alloc (.cells #[.int .i64 x,.bool false,.slice none 0 0] 55)) s st4):=C1.out.later (La (Lz _))
      have Et1:Hid (Rl (w1.alloc (.cells #[.int .i64 x,.bool false,.slice none 0 0] 55)) w1.heap.size 55 [.int .i64 x,.bool false,.slice none 0 0]):=row_new w1 55 [.int .i64 x,.bool false,.slice none 0 0]
      refine (h2.out _ D1.out.2).mono ?_
      rintro e2 w2 ⟨rfl,R2⟩
      have C2:Hid (Ss q wr w2 s st5):=D1.out.trans R2.out
      have Bt2:Hid (Rl w2 w1.heap.size 55 [.int .i64 x,.bool false,.slice none 0 0]):=Et1.out.wr R2.out.1 (fun e=>by have e:w1.heap.size=q:=e;have:=z1;omega)
      have z2:w1.heap.size+1≤w2.heap.size:=by have:=R2.out.size;simpa using this
      have a2:w2.cell? ⟨w1.heap.size,1,none⟩=some (.bool false):=Bt2.out.cell 1 rfl
      have b2:w2.frozen? ⟨w1.heap.size,1,none⟩=false:=Bt2.out.frozen 1
      have l3:=Bt2.out.lt
      clear R2
      go_wp2_with fail
      have D4:Hid (Ss q wr (w2.setCell ⟨w1.heap.size,1,none⟩ (.bool b)) s st5):=C2.out.put z1 hl 1 _
      have Et4:Hid (Rl (w2.setCell ⟨w1.heap.size,1,none⟩ (.bool b)) w1.heap.size 55 [.int .i64 x,.bool b,.slice none 0 0]):=Bt2.out.set 1 _
      refine (h3.out _ D4.out.2).mono ?_
      rintro e3 w3 ⟨A1,n1,rfl,q1,R3⟩
      have C3:Hid (Ss q wr w3 s st3):=D4.out.trans R3.out
      have Bt3:Hid (Rl w3 w1.heap.size 55 [.int .i64 x,.bool b,.slice none 0 0]):=Et4.out.wr R3.out.1 (fun e=>by have e:w1.heap.size=q:=e;have:=z1;omega)
      have z3:w2.heap.size≤w3.heap.size:=by have:=R3.out.size;simpa [World.setCell] using this
      have b3:w3.cell? ⟨p,5,none⟩=some (.slice A d.length cap):=C3.out.keep hpq c3
      have b4:=cell_lt b3
      have y1:p≠w1.heap.size:=by omega
      have a5:w3.cell? ⟨w1.heap.size,0,none⟩=some (.int .i64 x):=Bt3.out.cell 0 rfl
      have b5:w3.frozen? ⟨w1.heap.size,0,none⟩=false:=Bt3.out.frozen 0
      have a6:w3.cell? ⟨w1.heap.size,1,none⟩=some (.bool b):=Bt3.out.cell 1 rfl
      have b6:w3.frozen? ⟨w1.heap.size,1,none⟩=false:=Bt3.out.frozen 1
      have a7:w3.cell? ⟨w1.heap.size,2,none⟩=some (.slice none 0 0):=Bt3.out.cell 2 rfl
      have b7:w3.frozen? ⟨w1.heap.size,2,none⟩=false:=Bt3.out.frozen 2
      have l8:=Bt3.out.lt
      clear R3
      go_wp2_with fail
      have D9:Hid (Ss q wr (w3.setCell ⟨w1.heap.size,2,none⟩ (.slice A1 fb.len n1)) s st3):=C3.out.put z1 hl 2 _
      have Et9:Hid (Rl (w3.setCell ⟨w1.heap.size,2,none⟩ (.slice A1 fb.len n1)) w1.heap.size 55 [.int .i64 x,.bool b,.slice A1 fb.len n1]):=Bt3.out.set 2 _
      clear c2 c3 hl3
      obtain⟨g,cap',w',r2,⟨t0,t1⟩,⟨t2,t3,t4⟩,hnx⟩:=hst.out (World.drew (w3.setCell ⟨w1.heap.size,2,none⟩ (.slice A1 fb.len n1))) A1 n1 (((q1.out.keep (fun j hj hl=>Below.heap_setCell w3 ⟨w1.heap.size,2,none⟩ _ j (fun e=>by have e:j=w1.heap.size:=e;have hj:(World.setCell w2 _ _).heap.size≤j:=hj;simp [World.setCell] at hj;omega))).mono (fun j hj=>by have hj:(World.setCell w2 _ _).heap.size≤j:=hj;show wr.heap.size≤j;simp [World.setCell] at hj;omega)).later (Ld (Lz _))) (D9.out.later (Ld (Lz _)))
      rw [show (World.drew (w3.setCell ⟨w1.heap.size,2,none⟩ (.slice A1 fb.len n1))).heap.size=w3.heap.size by simp [World.drew,World.setCell]] at r2
      replace r2:Hid _:=r2
      replace hnx:Hid (Lo fGl 55 3 q p 5 w (w'.setCell ⟨p,5,none⟩ (.slice (some ⟨g,0,none⟩) (d.length+1) cap')) s st3 L (.slice (some ⟨g,0,none⟩) (d.length+1) cap') (d++[(x,b,fb)])):=hnx
      go_region_law (refine step_app (by rfl) _ _ 26 (by rfl) _ _ _ (by rfl) (by rfl) r2.out ?_)
      all_goals
       clear hst
       go_wp2_with fail
       go_roundw
       case rel=>exact⟨d++[(x,b,fb)],st3,some ⟨g,0,none⟩,cap',by rw [List.length_append];go_num,by rw [List.length_append];exact hfin.out.1,by rw [List.length_append];exact hnx.out,hfin.out.2⟩
       case measure=>simp [intOf];omega
    · have hc2:(cd==0)=false:=beq_false hc
      rw [srep_bad (sglo s) (k - d.length) ⟨a2,cd⟩ hc,List.append_nil] at htot
      replace htot:Hid (srep (sglo s) k st1=(d,⟨a2,cd⟩)):=htot
      have hfin:Hid (Rt fGl (w.heap.size≤·) wr A d∧Ms q p w wr s ⟨a2,cd⟩ (L.set 5 (.slice A d.length cap))):=⟨hM.2.rt,hM.1⟩
      clear hM hi2
      go_wp2_with fail
      go_end0
      rw [htot.out]
      exact⟨rfl,A,cap,hfin.out.1,hfin.out.2⟩
  · have hl1:¬(d.length:Int)<(k:Int):=by omega
    rw [show k - d.length=0 by omega] at htot
    simp only [srep,List.append_nil] at htot
    replace htot:Hid (srep (sglo s) k st1=(d,⟨a2,cd⟩)):=htot
    have hfin:Hid (Rt fGl (w.heap.size≤·) wr A d∧Ms q p w wr s ⟨a2,cd⟩ (L.set 5 (.slice A d.length cap))):=⟨hM.2.rt,hM.1⟩
    clear hM hi2
    go_wp2_with fail
    go_end0
    rw [htot.out]
    exact⟨rfl,A,cap,hfin.out.1,hfin.out.2⟩
