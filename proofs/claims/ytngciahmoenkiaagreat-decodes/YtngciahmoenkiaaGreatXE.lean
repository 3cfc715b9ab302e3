import Derived.Test.YtngciahmoenkiaaGreatXD
set_option linter.unusedVariables false
set_option linter.unusedSimpArgs false
set_option maxRecDepth 100000
set_option maxHeartbeats 4000000
namespace Go.Proofs.YtngciahmoenkiaaGreat
open Go.RowKit
def fo (op:Int):Int :=
 if op=0∨op=1∨op=15∨op=26∨op=27∨(69≤op∧op≤191) then 0
 else if op=2∨op=3 then 1
 else if op=4 then 2
 else if op=12∨op=13∨op=16∨(32≤op∧op≤36) then 3
 else if op=14 then 4
 else if op=17 then 5
 else if 40≤op∧op≤62 then 6
 else if op=63∨op=64 then 7
 else if 65≤op∧op≤68 then 8
 else 9
theorem beq_false {x y:Int} (h:¬x=y):(x==y)=false:=by simpa using h
theorem fo_rng (op:Int):0≤fo op∧fo op≤9:=by
 unfold fo
 repeat' split
 all_goals omega
theorem form_0 (w:World):Calls Tryz.prog 83 #[.int .i64 0] w fun e w'=>e=.returned (.int .i64 0)∧w'=w:=by
 go_enter Tryz.func83,Tryz.ntmps83
 go_wp2
 go_ret
 exact⟨rfl,rfl⟩
theorem form_1 (w:World):Calls Tryz.prog 83 #[.int .i64 1] w fun e w'=>e=.returned (.int .i64 0)∧w'=w:=by
 go_enter Tryz.func83,Tryz.ntmps83
 go_wp2
 go_ret
 exact⟨rfl,rfl⟩
theorem form_15 (w:World):Calls Tryz.prog 83 #[.int .i64 15] w fun e w'=>e=.returned (.int .i64 0)∧w'=w:=by
 go_enter Tryz.func83,Tryz.ntmps83
 go_wp2
 go_ret
 exact⟨rfl,rfl⟩
theorem form_26 (w:World):Calls Tryz.prog 83 #[.int .i64 26] w fun e w'=>e=.returned (.int .i64 0)∧w'=w:=by
 go_enter Tryz.func83,Tryz.ntmps83
 go_wp2
 go_ret
 exact⟨rfl,rfl⟩
theorem form_27 (w:World):Calls Tryz.prog 83 #[.int .i64 27] w fun e w'=>e=.returned (.int .i64 0)∧w'=w:=by
 go_enter Tryz.func83,Tryz.ntmps83
 go_wp2
 go_ret
 exact⟨rfl,rfl⟩
theorem form_2 (w:World):Calls Tryz.prog 83 #[.int .i64 2] w fun e w'=>e=.returned (.int .i64 1)∧w'=w:=by
 go_enter Tryz.func83,Tryz.ntmps83
 go_wp2
 go_ret
 exact⟨rfl,rfl⟩
theorem form_3 (w:World):Calls Tryz.prog 83 #[.int .i64 3] w fun e w'=>e=.returned (.int .i64 1)∧w'=w:=by
 go_enter Tryz.func83,Tryz.ntmps83
 go_wp2
 go_ret
 exact⟨rfl,rfl⟩
theorem form_4 (w:World):Calls Tryz.prog 83 #[.int .i64 4] w fun e w'=>e=.returned (.int .i64 2)∧w'=w:=by
 go_enter Tryz.func83,Tryz.ntmps83
 go_wp2
 go_ret
 exact⟨rfl,rfl⟩
theorem form_12 (w:World):Calls Tryz.prog 83 #[.int .i64 12] w fun e w'=>e=.returned (.int .i64 3)∧w'=w:=by
 go_enter Tryz.func83,Tryz.ntmps83
 go_wp2
 go_ret
 exact⟨rfl,rfl⟩
theorem form_13 (w:World):Calls Tryz.prog 83 #[.int .i64 13] w fun e w'=>e=.returned (.int .i64 3)∧w'=w:=by
 go_enter Tryz.func83,Tryz.ntmps83
 go_wp2
 go_ret
 exact⟨rfl,rfl⟩
theorem form_16 (w:World):Calls Tryz.prog 83 #[.int .i64 16] w fun e w'=>e=.returned (.int .i64 3)∧w'=w:=by
 go_enter Tryz.func83,Tryz.ntmps83
 go_wp2
 go_ret
 exact⟨rfl,rfl⟩
theorem form_14 (w:World):Calls Tryz.prog 83 #[.int .i64 14] w fun e w'=>e=.returned (.int .i64 4)∧w'=w:=by
 go_enter Tryz.func83,Tryz.ntmps83
 go_wp2
 go_ret
 exact⟨rfl,rfl⟩
theorem form_17 (w:World):Calls Tryz.prog 83 #[.int .i64 17] w fun e w'=>e=.returned (.int .i64 5)∧w'=w:=by
 go_enter Tryz.func83,Tryz.ntmps83
 go_wp2
 go_ret
 exact⟨rfl,rfl⟩
theorem form_63 (w:World):Calls Tryz.prog 83 #[.int .i64 63] w fun e w'=>e=.returned (.int .i64 7)∧w'=w:=by
 go_enter Tryz.func83,Tryz.ntmps83
 go_wp2
 go_ret
 exact⟨rfl,rfl⟩
theorem form_64 (w:World):Calls Tryz.prog 83 #[.int .i64 64] w fun e w'=>e=.returned (.int .i64 7)∧w'=w:=by
 go_enter Tryz.func83,Tryz.ntmps83
 go_wp2
 go_ret
 exact⟨rfl,rfl⟩
theorem form_num (op:Int) (n0:(op==0)=false) (n1:(op==1)=false) (n15:(op==15)=false) (n26:(op==26)=false) (n27:(op==27)=false) (n2:(op==2)=false) (n3:(op==3)=false) (n4:(op==4)=false) (n12:(op==12)=false) (n13:(op==13)=false) (n16:(op==16)=false) (n14:(op==14)=false) (n17:(op==17)=false) (n63:(op==63)=false) (n64:(op==64)=false) (h1:69≤op) (h2:op≤191) (w:World):Calls Tryz.prog 83 #[.int .i64 op] w fun e w'=>e=.returned (.int .i64 0)∧w'=w:=by
 go_enter Tryz.func83,Tryz.ntmps83
 go_wp2
 go_ret
 exact⟨rfl,rfl⟩
theorem form_over (op:Int) (n0:(op==0)=false) (n1:(op==1)=false) (n15:(op==15)=false) (n26:(op==26)=false) (n27:(op==27)=false) (n2:(op==2)=false) (n3:(op==3)=false) (n4:(op==4)=false) (n12:(op==12)=false) (n13:(op==13)=false) (n16:(op==16)=false) (n14:(op==14)=false) (n17:(op==17)=false) (n63:(op==63)=false) (n64:(op==64)=false) (h1:191<op) (w:World):Calls Tryz.prog 83 #[.int .i64 op] w fun e w'=>e=.returned (.int .i64 9)∧w'=w:=by
 go_enter Tryz.func83,Tryz.ntmps83
 go_wp2
 go_ret
 exact⟨rfl,rfl⟩
theorem form_var (op:Int) (n0:(op==0)=false) (n1:(op==1)=false) (n15:(op==15)=false) (n26:(op==26)=false) (n27:(op==27)=false) (n2:(op==2)=false) (n3:(op==3)=false) (n4:(op==4)=false) (n12:(op==12)=false) (n13:(op==13)=false) (n16:(op==16)=false) (n14:(op==14)=false) (n17:(op==17)=false) (n63:(op==63)=false) (n64:(op==64)=false) (h1:32≤op) (h2:op≤36) (w:World):Calls Tryz.prog 83 #[.int .i64 op] w fun e w'=>e=.returned (.int .i64 3)∧w'=w:=by
 go_enter Tryz.func83,Tryz.ntmps83
 go_wp2
 go_ret
 exact⟨rfl,rfl⟩
theorem form_acc (op:Int) (n0:(op==0)=false) (n1:(op==1)=false) (n15:(op==15)=false) (n26:(op==26)=false) (n27:(op==27)=false) (n2:(op==2)=false) (n3:(op==3)=false) (n4:(op==4)=false) (n12:(op==12)=false) (n13:(op==13)=false) (n16:(op==16)=false) (n14:(op==14)=false) (n17:(op==17)=false) (n63:(op==63)=false) (n64:(op==64)=false) (h1:40≤op) (h2:op≤62) (w:World):Calls Tryz.prog 83 #[.int .i64 op] w fun e w'=>e=.returned (.int .i64 6)∧w'=w:=by
 go_enter Tryz.func83,Tryz.ntmps83
 go_wp2
 go_ret
 exact⟨rfl,rfl⟩
theorem form_con (op:Int) (n0:(op==0)=false) (n1:(op==1)=false) (n15:(op==15)=false) (n26:(op==26)=false) (n27:(op==27)=false) (n2:(op==2)=false) (n3:(op==3)=false) (n4:(op==4)=false) (n12:(op==12)=false) (n13:(op==13)=false) (n16:(op==16)=false) (n14:(op==14)=false) (n17:(op==17)=false) (n63:(op==63)=false) (n64:(op==64)=false) (h1:65≤op) (h2:op≤68) (w:World):Calls Tryz.prog 83 #[.int .i64 op] w fun e w'=>e=.returned (.int .i64 8)∧w'=w:=by
 go_enter Tryz.func83,Tryz.ntmps83
 go_wp2
 go_ret
 exact⟨rfl,rfl⟩
theorem form_low (op:Int) (n0:(op==0)=false) (n1:(op==1)=false) (n15:(op==15)=false) (n26:(op==26)=false) (n27:(op==27)=false) (n2:(op==2)=false) (n3:(op==3)=false) (n4:(op==4)=false) (n12:(op==12)=false) (n13:(op==13)=false) (n16:(op==16)=false) (n14:(op==14)=false) (n17:(op==17)=false) (n63:(op==63)=false) (n64:(op==64)=false) (h1:op<32) (w:World):Calls Tryz.prog 83 #[.int .i64 op] w fun e w'=>e=.returned (.int .i64 9)∧w'=w:=by
 go_enter Tryz.func83,Tryz.ntmps83
 go_wp2
 go_ret
 exact⟨rfl,rfl⟩
theorem form_mid (op:Int) (n0:(op==0)=false) (n1:(op==1)=false) (n15:(op==15)=false) (n26:(op==26)=false) (n27:(op==27)=false) (n2:(op==2)=false) (n3:(op==3)=false) (n4:(op==4)=false) (n12:(op==12)=false) (n13:(op==13)=false) (n16:(op==16)=false) (n14:(op==14)=false) (n17:(op==17)=false) (n63:(op==63)=false) (n64:(op==64)=false) (h1:36<op) (h2:op<40) (w:World):Calls Tryz.prog 83 #[.int .i64 op] w fun e w'=>e=.returned (.int .i64 9)∧w'=w:=by
 go_enter Tryz.func83,Tryz.ntmps83
 go_wp2
 go_ret
 exact⟨rfl,rfl⟩
theorem form_any (op:Int) (w:World):Calls Tryz.prog 83 #[.int .i64 op] w fun e w'=>e=.returned (.int .i64 (fo op))∧w'=w:=by
 by_cases n0:op=0
 · subst n0
   exact form_0 w
 by_cases n1:op=1
 · subst n1
   exact form_1 w
 by_cases n15:op=15
 · subst n15
   exact form_15 w
 by_cases n26:op=26
 · subst n26
   exact form_26 w
 by_cases n27:op=27
 · subst n27
   exact form_27 w
 by_cases n2:op=2
 · subst n2
   exact form_2 w
 by_cases n3:op=3
 · subst n3
   exact form_3 w
 by_cases n4:op=4
 · subst n4
   exact form_4 w
 by_cases n12:op=12
 · subst n12
   exact form_12 w
 by_cases n13:op=13
 · subst n13
   exact form_13 w
 by_cases n16:op=16
 · subst n16
   exact form_16 w
 by_cases n14:op=14
 · subst n14
   exact form_14 w
 by_cases n17:op=17
 · subst n17
   exact form_17 w
 by_cases n63:op=63
 · subst n63
   exact form_63 w
 by_cases n64:op=64
 · subst n64
   exact form_64 w
 by_cases h:69≤op∧op≤191
 · have e:fo op=0:=by unfold fo;(repeat' split) <;> omega
   rw [e]
   exact form_num op (beq_false n0) (beq_false n1) (beq_false n15) (beq_false n26) (beq_false n27) (beq_false n2) (beq_false n3) (beq_false n4) (beq_false n12) (beq_false n13) (beq_false n16) (beq_false n14) (beq_false n17) (beq_false n63) (beq_false n64) h.1 h.2 w
 by_cases h:191<op
 · have e:fo op=9:=by unfold fo;(repeat' split) <;> omega
   rw [e]
   exact form_over op (beq_false n0) (beq_false n1) (beq_false n15) (beq_false n26) (beq_false n27) (beq_false n2) (beq_false n3) (beq_false n4) (beq_false n12) (beq_false n13) (beq_false n16) (beq_false n14) (beq_false n17) (beq_false n63) (beq_false n64) h w
 by_cases h:32≤op∧op≤36
 · have e:fo op=3:=by unfold fo;(repeat' split) <;> omega
   rw [e]
   exact form_var op (beq_false n0) (beq_false n1) (beq_false n15) (beq_false n26) (beq_false n27) (beq_false n2) (beq_false n3) (beq_false n4) (beq_false n12) (beq_false n13) (beq_false n16) (beq_false n14) (beq_false n17) (beq_false n63) (beq_false n64) h.1 h.2 w
 by_cases h:40≤op∧op≤62
 · have e:fo op=6:=by unfold fo;(repeat' split) <;> omega
   rw [e]
   exact form_acc op (beq_false n0) (beq_false n1) (beq_false n15) (beq_false n26) (beq_false n27) (beq_false n2) (beq_false n3) (beq_false n4) (beq_false n12) (beq_false n13) (beq_false n16) (beq_false n14) (beq_false n17) (beq_false n63) (beq_false n64) h.1 h.2 w
 by_cases h:65≤op∧op≤68
 · have e:fo op=8:=by unfold fo;(repeat' split) <;> omega
   rw [e]
   exact form_con op (beq_false n0) (beq_false n1) (beq_false n15) (beq_false n26) (beq_false n27) (beq_false n2) (beq_false n3) (beq_false n4) (beq_false n12) (beq_false n13) (beq_false n16) (beq_false n14) (beq_false n17) (beq_false n63) (beq_false n64) h.1 h.2 w
 by_cases h:op<32
 · have e:fo op=9:=by unfold fo;(repeat' split) <;> omega
   rw [e]
   exact form_low op (beq_false n0) (beq_false n1) (beq_false n15) (beq_false n26) (beq_false n27) (beq_false n2) (beq_false n3) (beq_false n4) (beq_false n12) (beq_false n13) (beq_false n16) (beq_false n14) (beq_false n17) (beq_false n63) (beq_false n64) h w
 by_cases h:36<op∧op<40
 · have e:fo op=9:=by unfold fo;(repeat' split) <;> omega
   rw [e]
   exact form_mid op (beq_false n0) (beq_false n1) (beq_false n15) (beq_false n26) (beq_false n27) (beq_false n2) (beq_false n3) (beq_false n4) (beq_false n12) (beq_false n13) (beq_false n16) (beq_false n14) (beq_false n17) (beq_false n63) (beq_false n64) h.1 h.2 w
 exfalso
 omega
theorem typeMay_any (x:Int) (w:World):Calls Tryz.prog 44 #[.int .i64 x] w fun e w'=>e=.returned (.bool (decide (124≤x∧x≤127)))∧w'=w:=by
 by_cases h1:124≤x∧x≤127
 · rw [decide_eq_true h1]
   obtain rfl|rfl|rfl|rfl:x=124∨x=125∨x=126∨x=127:=by omega
   all_goals
    go_enter Tryz.func44,Tryz.ntmps44
    go_wp2
    go_ret
    exact⟨rfl,rfl⟩
 · rw [decide_eq_false h1]
   have a1:¬x=124:=by omega
   have a2:¬x=125:=by omega
   have a3:¬x=126:=by omega
   have a4:¬x=127:=by omega
   replace h1:¬124≤x∨(124≤x∧¬x≤127):=by omega
   rcases h1 with h1|⟨h1,h2⟩
   all_goals
    go_enter Tryz.func44,Tryz.ntmps44
    go_wp2
    go_ret
    exact⟨rfl,rfl⟩
end Go.Proofs.YtngciahmoenkiaaGreat
set_option maxHeartbeats 40000000
namespace Go.Proofs.YtngciahmoenkiaaGreat
open Go.RowKit
theorem tmay_yes (x:Int) (h:124≤x∧x≤127) (w:World):Calls Tryz.prog 44 #[.int .i64 x] w fun e w'=>e=.returned (.bool true)∧w'=w:=by
 have:=typeMay_any x w
 rwa [decide_eq_true h] at this
theorem tmay_no (x:Int) (h:¬(124≤x∧x≤127)) (w:World):Calls Tryz.prog 44 #[.int .i64 x] w fun e w'=>e=.returned (.bool false)∧w'=w:=by
 have:=typeMay_any x w
 rwa [decide_eq_false h] at this
