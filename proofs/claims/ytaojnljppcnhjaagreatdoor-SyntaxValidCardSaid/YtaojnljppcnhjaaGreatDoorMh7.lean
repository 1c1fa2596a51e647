/-
  TmAtom.
  PgMem.
  PrWant.
 PrName.
 PrValue.
 PaNames.
-/
import Derived.Test.YtaojnljppcnhjaaGreatDoorMh6
import Derived.Test.YtaojnljppcnhjaaGreatDoorMh2
import Derived.Test.YtaojnljppcnhjaaGreatDoorMh3
import Derived.Test.YtaojnljppcnhjaaGreatDoorMh5
namespace Go.Proofs.YtaojnljppcnhjaaGreatDoor
open Go.RowKit Go.Sort
structure Am where
 name:ByteArray
 at_:Option Addr
 cap:Nat
 args:List Tm
abbrev Am.val (a:Am):Value:=.agg #[.string a.name,.slice a.at_ a.args.length a.cap]
def Am.At (w:World) (a:Am):Prop:=a.name.size≤maxLen∧Lst w a.at_ a.args a.cap
structure Gl where
 op:Int
 name:ByteArray
 at_:Option Addr
 cap:Nat
 args:List Tm
abbrev Gl.val (g:Gl):Value:=.agg #[.int .i64 g.op,.string g.name,.slice g.at_ g.args.length g.cap]
def Gl.At (w:World) (g:Gl):Prop:=Fits g.op∧g.name.size≤maxLen∧Lst w g.at_ g.args g.cap
theorem Am.At.below {w w':World} {a:Am} (h:a.At w) (hb:Below w.heap.size w w'):a.At w':=⟨h.1,h.2.below hb⟩
theorem Gl.At.below {w w':World} {g:Gl} (h:g.At w) (hb:Below w.heap.size w w'):g.At w':=⟨h.1,h.2.1,h.2.2.below hb⟩
instance:Inhabited Am:=⟨⟨ByteArray.empty,none,0,[]⟩⟩
instance:Inhabited Gl:=⟨⟨0,ByteArray.empty,none,0,[]⟩⟩
def atomB (s:List UInt8) (l:List Tm):Bool:=rightB s&&(decide (l.length≤6)&&rightL l)
def arity (op:Int):Int:=if op=1∨op=2 then 0 else if op=11∨op=12 then 1 else if 2 < op∧op < 11 then 2 else -1
def builtinB (s:ByteArray) (l:List Tm) (n:Int):Bool:=decide (s.size=0)&&(decide ((l.length:Int)=n)&&rightL l)
def goalB (op:Int) (s:ByteArray) (l:List Tm):Bool:=if op=0 then atomB s.data.toList l else builtinB s l (arity op)
theorem Lst.len {w:World} {A:Option Addr} {l:List Tm} {c:Nat} (h:Lst w A l c):l.length≤9223372036854775807:=by have:=h.1;have:=h.2.1;unfold maxLen at *;omega
theorem right_atom_at (a:Am) (w:World) (ha:a.At w) {r:Bool} (hr:atomB a.name.data.toList a.args=r) :
  Calls Tryz.prog 105 #[a.val] w fun e w'=>e=.returned (.bool r)∧Below w.heap.size w w':=by
 obtain ⟨s,A,c,l⟩:=a
 have hl:Lst w A l c:=ha.2
 have hs:s.size≤9223372036854775807:=by have h:=ha.1;unfold maxLen at h;exact h
 have hlen:=hl.len
 show Calls Tryz.prog 105 #[.agg #[.string s,.slice A l.length c]] w _
 obtain ⟨b1,h1⟩:∃b,rightB s.data.toList=b:=⟨_,rfl⟩
 obtain ⟨b3,h3⟩:∃b,rightL l=b:=⟨_,rfl⟩
 have q1:=Lib.hid (fun W=>right_at s W hs h1)
 have q3:=Lib.hid (fun W (h:Below w.heap.size w W)=>together_at l A c W (hl.below h) h3)
 have HV:=Lib.hid (show (b1&&(decide (l.length≤6)&&b3))=r by rw [←hr,← h1,← h3];rfl)
 clear h1 h3 hr ha hl
 cases b1
 ·go_enter Tryz.func105,Tryz.ntmps105
  go_wp2_with fail
  refine (q1.out _).mono ?_
  rintro e w' ⟨rfl,rfl⟩
  go_wp2_with fail
  go_ret
  exact ⟨by rw [←HV.out];rfl,below1 _ _⟩
 ·by_cases h6:l.length≤6
  ·have h6':(l.length:Int)≤6:=by omega
   have HV':=Lib.hid (show b3=r by rw [←HV.out];simp [h6])
   clear HV h6
   go_enter Tryz.func105,Tryz.ntmps105
   go_wp2_with fail
   refine (q1.out _).mono ?_
   rintro e w' ⟨rfl,rfl⟩
   go_wp2_with fail
   refine (q3.out _ (below1 _ _)).mono ?_
   rintro e w' ⟨rfl,hb⟩
   go_wp2_with fail
   go_ret
   exact ⟨by rw [←HV'.out];rfl,(below1 _ _).trans (hb.mono (by simp))⟩
  ·have h6':decide ((l.length:Int)≤6)=false:=by simp;omega
   have HV':=Lib.hid (show false=r by rw [←HV.out];simp [h6])
   clear HV h6
   go_enter Tryz.func105,Tryz.ntmps105
   go_wp2_with fail
   refine (q1.out _).mono ?_
   rintro e w' ⟨rfl,rfl⟩
   go_wp2_with fail
   go_ret
   exact ⟨by rw [←HV'.out];rfl,below1 _ _⟩
theorem ref_right_atom_at (a:Am) (w:World) (ha:a.At w) (hz:sizeL a.args≤1000000) {r:Bool} (hr:atomB a.name.data.toList a.args=r) :
  Calls Tryz.prog 39 #[a.val] w fun e w'=>e=.returned (.bool r)∧Below w.heap.size w w':=by
 obtain ⟨s,A,c,l⟩:=a
 simp only at hz
 have hl:Lst w A l c:=ha.2
 have hs:s.size≤9223372036854775807:=by have h:=ha.1;unfold maxLen at h;exact h
 have hlen:=hl.len
 show Calls Tryz.prog 39 #[.agg #[.string s,.slice A l.length c]] w _
 obtain ⟨b1,h1⟩:∃b,rightB s.data.toList=b:=⟨_,rfl⟩
 obtain ⟨b3,h3⟩:∃b,rightL l=b:=⟨_,rfl⟩
 have q1:=Lib.hid (fun W=>ref_right_at s W hs h1)
 have q3:=Lib.hid (fun W (h:Below w.heap.size w W)=>right_args_at l A c W (hl.below h) hz h3)
 have HV:=Lib.hid (show (b1&&(decide (l.length≤6)&&b3))=r by rw [←hr,← h1,← h3];rfl)
 clear h1 h3 hr ha hl hz
 cases b1
 ·go_enter Tryz.func39,Tryz.ntmps39
  go_wp2_with fail
  refine (q1.out _).mono ?_
  rintro e w' ⟨rfl,rfl⟩
  go_wp2_with fail
  go_ret
  exact ⟨by rw [←HV.out];rfl,below1 _ _⟩
 ·by_cases h6:l.length≤6
  ·have h6':(l.length:Int)≤6:=by omega
   have HV':=Lib.hid (show b3=r by rw [←HV.out];simp [h6])
   clear HV h6
   go_enter Tryz.func39,Tryz.ntmps39
   go_wp2_with fail
   refine (q1.out _).mono ?_
   rintro e w' ⟨rfl,rfl⟩
   go_wp2_with fail
   refine (q3.out _ (below1 _ _)).mono ?_
   rintro e w' ⟨rfl,hb⟩
   go_wp2_with fail
   go_ret
   exact ⟨by rw [←HV'.out];rfl,(below1 _ _).trans (hb.mono (by simp))⟩
  ·have h6':decide ((l.length:Int)≤6)=false:=by simp;omega
   have HV':=Lib.hid (show false=r by rw [←HV.out];simp [h6])
   clear HV h6
   go_enter Tryz.func39,Tryz.ntmps39
   go_wp2_with fail
   refine (q1.out _).mono ?_
   rintro e w' ⟨rfl,rfl⟩
   go_wp2_with fail
   go_ret
   exact ⟨by rw [←HV'.out];rfl,below1 _ _⟩
theorem builtin_at (g:Gl) (n:Int) (w:World) (ha:g.At w) {r:Bool} (hr:builtinB g.name g.args n=r) :
  Calls Tryz.prog 109 #[g.val,.int .i64 n] w fun e w'=>e=.returned (.bool r)∧Below w.heap.size w w':=by
 obtain ⟨op,s,A,c,l⟩:=g
 have hl:Lst w A l c:=ha.2.2
 have hlen:=hl.len
 show Calls Tryz.prog 109 #[.agg #[.int .i64 op,.string s,.slice A l.length c],.int .i64 n] w _
 obtain ⟨b1,h1⟩:∃b,decide (s.size=0)=b:=⟨_,rfl⟩
 obtain ⟨b2,h2⟩:∃b,decide ((l.length:Int)=n)=b:=⟨_,rfl⟩
 obtain ⟨b3,h3⟩:∃b,rightL l=b:=⟨_,rfl⟩
 have q3:=Lib.hid (fun W (h:Below w.heap.size w W)=>together_at l A c W (hl.below h) h3)
 have HV:=Lib.hid (show (b1&&(b2&&b3))=r by rw [←hr,← h1,← h2,← h3];rfl)
 have e1:s.toList.isEmpty=b1:=by rw [empty_iff,h1]
 have e2:((l.length:Int)==n)=b2:=by rw [←h2,Bool.eq_iff_iff];simp
 clear h1 h2 h3 hr ha hl
 cases b1
 ·clear e2
  go_enter Tryz.func109,Tryz.ntmps109
  go_wp2_with fail
  go_ret
  exact ⟨by rw [←HV.out];rfl,below1 _ _⟩
 ·cases b2
  ·go_enter Tryz.func109,Tryz.ntmps109
   go_wp2_with fail
   go_ret
   exact ⟨by rw [←HV.out];rfl,below1 _ _⟩
  ·go_enter Tryz.func109,Tryz.ntmps109
   go_wp2_with fail
   refine (q3.out _ (below1 _ _)).mono ?_
   rintro e w' ⟨rfl,hb⟩
   go_wp2_with fail
   go_ret
   exact ⟨by rw [←HV.out];rfl,(below1 _ _).trans (hb.mono (by simp))⟩
set_option maxHeartbeats 1000000 in
theorem right_goal_at (g:Gl) (w:World) (ha:g.At w) {r:Bool} (hr:goalB g.op g.name g.args=r) :
  Calls Tryz.prog 87 #[g.val] w fun e w'=>e=.returned (.bool r)∧Below w.heap.size w w':=by
 obtain ⟨op,s,A,c,l⟩:=g
 have hlen:=Lst.len ha.2.2
 simp only at hr
 have q1:=Lib.hid (fun W (h:Below w.heap.size w W) {r:Bool}=>right_atom_at ⟨s,A,c,l⟩ W ⟨ha.2.1,ha.2.2.below h⟩ (r:=r))
 have q2:=Lib.hid (fun n W (h:Below w.heap.size w W) {r:Bool}=>builtin_at ⟨op,s,A,c,l⟩ n W (ha.below h) (r:=r))
 have HR:=Lib.hid hr
 clear ha hr
 show Calls Tryz.prog 87 #[.agg #[.int .i64 op,.string s,.slice A l.length c]] w _
 by_cases h0:op=0
 ·subst h0
  have HV:=Lib.hid (show atomB s.data.toList l=r by rw [←HR.out];rfl)
  go_enter Tryz.func87,Tryz.ntmps87
  go_wp2_with fail
  refine (q1.out _ (below1 _ _) HV.out).mono ?_
  rintro e w' ⟨rfl,hb⟩
  go_wp2_with fail
  go_ret
  exact ⟨rfl,(below1 _ _).trans (hb.mono (by simp))⟩
 have e0:(op==0)=false:=by simp [h0]
 by_cases h1:op=1
 ·subst h1
  have HV:=Lib.hid (show builtinB s l 0=r by rw [←HR.out];simp [goalB,arity])
  go_enter Tryz.func87,Tryz.ntmps87
  go_wp2_with fail
  refine (q2.out _ _ (below1 _ _) HV.out).mono ?_
  rintro e w' ⟨rfl,hb⟩
  go_wp2_with fail
  go_ret
  exact ⟨rfl,(below1 _ _).trans (hb.mono (by simp))⟩
 have e1:(op==1)=false:=by simp [h1]
 by_cases h2:op=2
 ·subst h2
  have HV:=Lib.hid (show builtinB s l 0=r by rw [←HR.out];simp [goalB,arity])
  go_enter Tryz.func87,Tryz.ntmps87
  go_wp2_with fail
  refine (q2.out _ _ (below1 _ _) HV.out).mono ?_
  rintro e w' ⟨rfl,hb⟩
  go_wp2_with fail
  go_ret
  exact ⟨rfl,(below1 _ _).trans (hb.mono (by simp))⟩
 have e2:(op==2)=false:=by simp [h2]
 by_cases h11:op=11
 ·subst h11
  have HV:=Lib.hid (show builtinB s l 1=r by rw [←HR.out];simp [goalB,arity])
  go_enter Tryz.func87,Tryz.ntmps87
  go_wp2_with fail
  refine (q2.out _ _ (below1 _ _) HV.out).mono ?_
  rintro e w' ⟨rfl,hb⟩
  go_wp2_with fail
  go_ret
  exact ⟨rfl,(below1 _ _).trans (hb.mono (by simp))⟩
 have e11:(op==11)=false:=by simp [h11]
 by_cases h12:op=12
 ·subst h12
  have HV:=Lib.hid (show builtinB s l 1=r by rw [←HR.out];simp [goalB,arity])
  go_enter Tryz.func87,Tryz.ntmps87
  go_wp2_with fail
  refine (q2.out _ _ (below1 _ _) HV.out).mono ?_
  rintro e w' ⟨rfl,hb⟩
  go_wp2_with fail
  go_ret
  exact ⟨rfl,(below1 _ _).trans (hb.mono (by simp))⟩
 have e12:(op==12)=false:=by simp [h12]
 by_cases h3:op=3
 ·subst h3
  have HV:=Lib.hid (show builtinB s l 2=r by rw [←HR.out];simp [goalB,arity])
  go_enter Tryz.func87,Tryz.ntmps87
  go_wp2_with fail
  refine (q2.out _ _ (below1 _ _) HV.out).mono ?_
  rintro e w' ⟨rfl,hb⟩
  go_wp2_with fail
  go_ret
  exact ⟨rfl,(below1 _ _).trans (hb.mono (by simp))⟩
 have e3:(op==3)=false:=by simp [h3]
 by_cases h4:op=4
 ·subst h4
  have HV:=Lib.hid (show builtinB s l 2=r by rw [←HR.out];simp [goalB,arity])
  go_enter Tryz.func87,Tryz.ntmps87
  go_wp2_with fail
  refine (q2.out _ _ (below1 _ _) HV.out).mono ?_
  rintro e w' ⟨rfl,hb⟩
  go_wp2_with fail
  go_ret
  exact ⟨rfl,(below1 _ _).trans (hb.mono (by simp))⟩
 have e4:(op==4)=false:=by simp [h4]
 by_cases h5:op=5
 ·subst h5
  have HV:=Lib.hid (show builtinB s l 2=r by rw [←HR.out];simp [goalB,arity])
  go_enter Tryz.func87,Tryz.ntmps87
  go_wp2_with fail
  refine (q2.out _ _ (below1 _ _) HV.out).mono ?_
  rintro e w' ⟨rfl,hb⟩
  go_wp2_with fail
  go_ret
  exact ⟨rfl,(below1 _ _).trans (hb.mono (by simp))⟩
 have e5:(op==5)=false:=by simp [h5]
 by_cases h6:op=6
 ·subst h6
  have HV:=Lib.hid (show builtinB s l 2=r by rw [←HR.out];simp [goalB,arity])
  go_enter Tryz.func87,Tryz.ntmps87
  go_wp2_with fail
  refine (q2.out _ _ (below1 _ _) HV.out).mono ?_
  rintro e w' ⟨rfl,hb⟩
  go_wp2_with fail
  go_ret
  exact ⟨rfl,(below1 _ _).trans (hb.mono (by simp))⟩
 have e6:(op==6)=false:=by simp [h6]
 by_cases h7:op=7
 ·subst h7
  have HV:=Lib.hid (show builtinB s l 2=r by rw [←HR.out];simp [goalB,arity])
  go_enter Tryz.func87,Tryz.ntmps87
  go_wp2_with fail
  refine (q2.out _ _ (below1 _ _) HV.out).mono ?_
  rintro e w' ⟨rfl,hb⟩
  go_wp2_with fail
  go_ret
  exact ⟨rfl,(below1 _ _).trans (hb.mono (by simp))⟩
 have e7:(op==7)=false:=by simp [h7]
 by_cases h8:op=8
 ·subst h8
  have HV:=Lib.hid (show builtinB s l 2=r by rw [←HR.out];simp [goalB,arity])
  go_enter Tryz.func87,Tryz.ntmps87
  go_wp2_with fail
  refine (q2.out _ _ (below1 _ _) HV.out).mono ?_
  rintro e w' ⟨rfl,hb⟩
  go_wp2_with fail
  go_ret
  exact ⟨rfl,(below1 _ _).trans (hb.mono (by simp))⟩
 have e8:(op==8)=false:=by simp [h8]
 by_cases h9:op=9
 ·subst h9
  have HV:=Lib.hid (show builtinB s l 2=r by rw [←HR.out];simp [goalB,arity])
  go_enter Tryz.func87,Tryz.ntmps87
  go_wp2_with fail
  refine (q2.out _ _ (below1 _ _) HV.out).mono ?_
  rintro e w' ⟨rfl,hb⟩
  go_wp2_with fail
  go_ret
  exact ⟨rfl,(below1 _ _).trans (hb.mono (by simp))⟩
 have e9:(op==9)=false:=by simp [h9]
 by_cases h10:op=10
 ·subst h10
  have HV:=Lib.hid (show builtinB s l 2=r by rw [←HR.out];simp [goalB,arity])
  go_enter Tryz.func87,Tryz.ntmps87
  go_wp2_with fail
  refine (q2.out _ _ (below1 _ _) HV.out).mono ?_
  rintro e w' ⟨rfl,hb⟩
  go_wp2_with fail
  go_ret
  exact ⟨rfl,(below1 _ _).trans (hb.mono (by simp))⟩
 have e10:(op==10)=false:=by simp [h10]
 have HV:=Lib.hid (show false=r by
  have:arity op = -1:=by unfold arity;rw [if_neg (by omega),if_neg (by omega),if_neg (by omega)]
  rw [←HR.out]
  simp only [goalB,h0,if_false,this,builtinB]
  have:decide ((l.length:Int) = -1)=false:=by simp
  rw [this]
  simp)
 clear h0 h1 h2 h3 h4 h5 h6 h7 h8 h9 h10 h11 h12 q1 q2
 go_enter Tryz.func87,Tryz.ntmps87
 go_wp2_with fail
 go_ret
 exact ⟨by rw [←HV.out];rfl,below1 _ _⟩
theorem arity_at (op:Int) (w:World):Calls Tryz.prog 67 #[.int .i64 op] w fun e w'=>e=.returned (.int .i64 (arity op))∧w=w':=by
 by_cases h1:op=1
 ·subst h1
  have HV:=Lib.hid (show arity 1=0 by simp [arity])
  go_enter Tryz.func67,Tryz.ntmps67
  go_wp2_with fail
  go_ret
  exact ⟨by rw [HV.out];rfl,rfl⟩
 have e1:(op==1)=false:=by simp [h1]
 by_cases h2:op=2
 ·subst h2
  have HV:=Lib.hid (show arity 2=0 by simp [arity])
  go_enter Tryz.func67,Tryz.ntmps67
  go_wp2_with fail
  go_ret
  exact ⟨by rw [HV.out];rfl,rfl⟩
 have e2:(op==2)=false:=by simp [h2]
 by_cases h3:op=11
 ·subst h3
  have HV:=Lib.hid (show arity 11=1 by simp [arity])
  go_enter Tryz.func67,Tryz.ntmps67
  go_wp2_with fail
  go_ret
  exact ⟨by rw [HV.out];rfl,rfl⟩
 have e3:(op==11)=false:=by simp [h3]
 by_cases h4:op=12
 ·subst h4
  have HV:=Lib.hid (show arity 12=1 by simp [arity])
  go_enter Tryz.func67,Tryz.ntmps67
  go_wp2_with fail
  go_ret
  exact ⟨by rw [HV.out];rfl,rfl⟩
 have e4:(op==12)=false:=by simp [h4]
 by_cases h5:2 < op
 ·by_cases h6:op < 11
  ·have HV:=Lib.hid (show arity op=2 by unfold arity;rw [if_neg (by omega),if_neg (by omega),if_pos ⟨h5,h6⟩])
   clear h1 h2 h3 h4
   go_enter Tryz.func67,Tryz.ntmps67
   go_wp2_with fail
   go_ret
   exact ⟨by rw [HV.out];rfl,rfl⟩
  ·have HV:=Lib.hid (show arity op = -1 by unfold arity;rw [if_neg (by omega),if_neg (by omega),if_neg (by omega)])
   have e6:decide (op < 11)=false:=by simpa using h6
   clear h1 h2 h3 h4 h6
   go_enter Tryz.func67,Tryz.ntmps67
   go_wp2_with fail
   go_ret
   exact ⟨by rw [HV.out];rfl,rfl⟩
 ·have HV:=Lib.hid (show arity op = -1 by unfold arity;rw [if_neg (by omega),if_neg (by omega),if_neg (by omega)])
  have e5:decide (2 < op)=false:=by simpa using h5
  clear h1 h2 h3 h4 h5
  go_enter Tryz.func67,Tryz.ntmps67
  go_wp2_with fail
  go_ret
  exact ⟨by rw [HV.out];rfl,rfl⟩
set_option maxHeartbeats 1000000 in
theorem ref_right_goal_at (g:Gl) (w:World) (ha:g.At w) (hz:sizeL g.args≤1000000) {r:Bool} (hr:goalB g.op g.name g.args=r) :
  Calls Tryz.prog 41 #[g.val] w fun e w'=>e=.returned (.bool r)∧Below w.heap.size w w':=by
 obtain ⟨op,s,A,c,l⟩:=g
 have hl:Lst w A l c:=ha.2.2
 have hlen:=hl.len
 simp only at hr hz
 show Calls Tryz.prog 41 #[.agg #[.int .i64 op,.string s,.slice A l.length c]] w _
 by_cases h0:op=0
 ·subst h0
  have q1:=Lib.hid (fun W (h:Below w.heap.size w W)=>ref_right_atom_at ⟨s,A,c,l⟩ W ⟨ha.2.1,hl.below h⟩ hz (r:=r) hr)
  clear ha hl hr
  go_enter Tryz.func41,Tryz.ntmps41
  go_wp2_with fail
  refine (q1.out _ (below1 _ _)).mono ?_
  rintro e w' ⟨rfl,hb⟩
  go_wp2_with fail
  go_ret
  exact ⟨rfl,(below1 _ _).trans (hb.mono (by simp))⟩
 have e0:(op==0)=false:=by simp [h0]
 obtain ⟨b1,h1⟩:∃b,decide (s.size=0)=b:=⟨_,rfl⟩
 obtain ⟨n,hn⟩:∃n,arity op=n:=⟨_,rfl⟩
 obtain ⟨b2,h2⟩:∃b,decide ((l.length:Int)=n)=b:=⟨_,rfl⟩
 obtain ⟨b3,h3⟩:∃b,rightL l=b:=⟨_,rfl⟩
 have q3:=Lib.hid (fun W (h:Below w.heap.size w W)=>right_args_at l A c W (hl.below h) hz h3)
 have q4:=Lib.hid (fun W=>arity_at op W)
 rw [hn] at q4
 have HV:=Lib.hid (show (b1&&(b2&&b3))=r by rw [←hr,← h1,← h2,← h3,← hn];simp only [goalB,h0,if_false];rfl)
 have e1:s.toList.isEmpty=b1:=by rw [empty_iff,h1]
 have e2:(n==(l.length:Int))=b2:=by rw [←h2,Bool.eq_iff_iff];simp;omega
 have kb0:=boxedN w #[.int .i64 op,.string s,.slice A l.length c] 54 0 _ rfl
 have kb1:=boxedN w #[.int .i64 op,.string s,.slice A l.length c] 54 1 _ rfl
 have kb2:=boxedN w #[.int .i64 op,.string s,.slice A l.length c] 54 2 _ rfl
 clear h1 h2 h3 hr ha hl hn h0
 cases b1
 ·clear e2
  go_enter Tryz.func41,Tryz.ntmps41
  go_wp2_with fail
  refine wp_region_quiet_below (by kernel_rfl) (by kernel_rfl) ?_
  repeat (go_big_quiet_step (first|(go_at_call 67;exact Calls.regrown_of (withBelow (q4.out _)))|(go_at_call 66;exact Calls.regrown_of (q3.out _ ((below1 _ _).trans ((below_regrown _ _ _).mono (by simp)))))))
  refine wpQuiet_nil ?_
  intro w1 hw'
  have hb1:=(below1 _ _).trans ((regrown_below hw').mono (by simp))
  go_wp2_with fail
  go_ret
  exact ⟨by rw [←HV.out];rfl,hb1⟩
 ·cases b2
  ·go_enter Tryz.func41,Tryz.ntmps41
   go_wp2_with fail
   refine wp_region_quiet_below (by kernel_rfl) (by kernel_rfl) ?_
   repeat (go_big_quiet_step (first|(go_at_call 67;exact Calls.regrown_of (withBelow (q4.out _)))|(go_at_call 66;exact Calls.regrown_of (q3.out _ ((below1 _ _).trans ((below_regrown _ _ _).mono (by simp)))))))
   refine wpQuiet_nil ?_
   intro w1 hw'
   have hb1:=(below1 _ _).trans ((regrown_below hw').mono (by simp))
   go_wp2_with fail
   go_ret
   exact ⟨by rw [←HV.out];rfl,hb1⟩
  ·go_enter Tryz.func41,Tryz.ntmps41
   go_wp2_with fail
   refine wp_region_quiet_below (by kernel_rfl) (by kernel_rfl) ?_
   repeat (go_big_quiet_step (first|(go_at_call 67;exact Calls.regrown_of (withBelow (q4.out _)))|(go_at_call 66;exact Calls.regrown_of (q3.out _ ((below1 _ _).trans ((below_regrown _ _ _).mono (by simp)))))))
   refine wpQuiet_nil ?_
   intro w1 hw'
   have hb1:=(below1 _ _).trans ((regrown_below hw').mono (by simp))
   go_wp2_with fail
   go_ret
   exact ⟨by rw [←HV.out];rfl,hb1⟩
end Go.Proofs.YtaojnljppcnhjaaGreatDoor
namespace Go.Proofs.YtaojnljppcnhjaaGreatDoor
open Go.RowKit
def blkO:Option Addr→List Nat
 | some p=>[p.block]
 | none=>[]
def blkA (A:Option Addr) (n:Nat):List Nat:=if n=0 then [] else blkO A
mutual
def Tm.blk:Tm→List Nat
 | .mk _ _ _ A _ a=>blkA A a.length++blkL a
def blkL:List Tm→List Nat
 | []=>[]
 | t :: r=>t.blk++blkL r
end
theorem blkL_flat (l:List Tm):blkL l=l.flatMap Tm.blk:=by
 induction l with
 | nil=>rfl
 | cons t r ih=>rw [blkL,ih,List.flatMap_cons]
theorem blkL_append (l m:List Tm):blkL (l++m)=blkL l++blkL m:=by rw [blkL_flat,blkL_flat,blkL_flat,List.flatMap_append]
theorem at_blk {w w':World}:(∀t:Tm,t.At w→(∀b∈t.blk,w'.heap[b]?=w.heap[b]?)→t.At w')∧(∀(l:List Tm) b o,RowAt w l b o→(l≠[]→w'.heap[b]?=w.heap[b]?)→(∀k∈blkL l,w'.heap[k]?=w.heap[k]?)→RowAt w' l b o):=by
 refine Tm.induct2 (p:=fun t=>t.At w→(∀b∈t.blk,w'.heap[b]?=w.heap[b]?)→t.At w') (q:=fun l=>∀b o,RowAt w l b o→(l≠[]→w'.heap[b]?=w.heap[b]?)→(∀k∈blkL l,w'.heap[k]?=w.heap[k]?)→RowAt w' l b o) (fun k n s A c a ih=>?_) (fun _ _ _ _ _=>by simp [RowAt]) (fun t r h1 h2=>?_)
 ·intro h hb
  simp only [Tm.At] at h ⊢
  refine ⟨h.1,h.2.1,h.2.2.1,fun hn=>?_⟩
  obtain ⟨b,o,rfl,hr⟩:=h.2.2.2 hn
  refine ⟨b,o,rfl,ih b o hr (fun _=>hb b ?_) fun j hj=>hb j ?_⟩
  ·simp only [Tm.blk,blkA,if_neg (show ¬a.length=0 by omega),blkO,List.mem_append,List.mem_singleton,true_or]
  ·simp only [Tm.blk,List.mem_append];exact .inr hj
 ·intro b o h hb hk
  simp only [RowAt] at h ⊢
  have e:∀j,w'.cell? ⟨b,j,none⟩=w.cell? ⟨b,j,none⟩:=fun j=>World.cell?_of_block (hb (by simp))
  refine ⟨by rw [e,e,e,e];exact h.1,h1 h.2.1 fun j hj=>hk j (by simp [blkL,hj]),h2 b (o+4) h.2.2 (fun _=>hb (by simp)) fun j hj=>hk j (by simp [blkL,hj])⟩
theorem lst_blk {w w':World} {A:Option Addr} {l:List Tm} {c:Nat} (h:Lst w A l c) (hb:∀b∈blkA A l.length++blkL l,w'.heap[b]?=w.heap[b]?):Lst w' A l c:=by
 refine ⟨h.1,h.2.1,fun hn=>?_⟩
 obtain ⟨b,o,rfl,hr⟩:=h.2.2 hn
 refine ⟨b,o,rfl,at_blk.2 l b o hr (fun _=>hb b ?_) fun j hj=>hb j (List.mem_append.2 (.inr hj))⟩
 simp [blkA,blkO,show ¬l.length=0 by omega]
structure Elt (α:Type) where
 k:Nat
 cells:α→List Value
 len:∀x,(cells x).length=k
 one:∀x,∀v∈cells x,v.oneCell'=true
 blk:α→List Nat
 At:World→α→Prop
 frame:∀{x w w'},At w x→(∀b∈blk x,w'.heap[b]?=w.heap[b]?)→At w' x
def elTm:Elt Tm:=⟨4,Tm.cells,fun _=>rfl,fun x v hv=>by
 simp only [Tm.cells,List.mem_cons,List.not_mem_nil,or_false] at hv
 rcases hv with rfl|rfl|rfl|rfl<;>rfl,Tm.blk,fun w t=>t.At w,fun h hb=>at_blk.1 _ h hb⟩
def elAm:Elt Am:=⟨2,fun x=>[.string x.name,.slice x.at_ x.args.length x.cap],fun _=>rfl,fun x v hv=>by
 simp only [List.mem_cons,List.not_mem_nil,or_false] at hv
 rcases hv with rfl|rfl<;>rfl,fun x=>blkA x.at_ x.args.length++blkL x.args,fun w x=>x.At w∧(x.args=[]→x.at_=none∧x.cap=0)∧x.args.length≤16385,fun h hb=>⟨⟨h.1.1,lst_blk h.1.2 hb⟩,h.2⟩⟩
def elGl:Elt Gl:=⟨3,fun x=>[.int .i64 x.op,.string x.name,.slice x.at_ x.args.length x.cap],fun _=>rfl,fun x v hv=>by
 simp only [List.mem_cons,List.not_mem_nil,or_false] at hv
 rcases hv with rfl|rfl|rfl<;>rfl,fun x=>blkA x.at_ x.args.length++blkL x.args,fun w x=>x.At w,fun h hb=>⟨h.1,h.2.1,lst_blk h.2.2 hb⟩⟩
abbrev Dl:=List UInt8×Int
def elDl:Elt Dl:=⟨2,fun x=>[.string (S x.1),.int .i64 x.2],fun _=>rfl,fun x v hv=>by
 simp only [List.mem_cons,List.not_mem_nil,or_false] at hv
 rcases hv with rfl|rfl<;>rfl,fun _=>[],fun _ _=>True,fun h _=>h⟩
section
variable {α:Type} (E:Elt α)
def Elt.cellsL (l:List α):List Value:=l.flatMap E.cells
def Elt.blkL (l:List α):List Nat:=l.flatMap E.blk
theorem Elt.cellsL_len (l:List α):(E.cellsL l).length=l.length*E.k:=by
 induction l with
 | nil=>simp [Elt.cellsL]
 | cons t r ih=>simp only [Elt.cellsL,List.flatMap_cons,List.length_append,E.len,List.length_cons,Nat.add_mul] at *;omega
theorem Elt.cellsL_append (l m:List α):E.cellsL (l++m)=E.cellsL l++E.cellsL m:=by simp [Elt.cellsL]
theorem Elt.blkL_append (l m:List α):E.blkL (l++m)=E.blkL l++E.blkL m:=by simp [Elt.blkL]
theorem Elt.blkL_one (x:α):E.blkL [x]=E.blk x:=by simp [Elt.blkL]
theorem Elt.cellsL_get [Inhabited α] (l:List α) {i j:Nat} (hi:i < l.length) (hj:j < E.k):(E.cellsL l)[i*E.k+j]?=(E.cells (l.getD i default))[j]?:=by
 induction l generalizing i with
 | nil=>simp at hi
 | cons t r ih =>
  simp only [Elt.cellsL,List.flatMap_cons]
  cases i with
  | zero =>
   rw [List.getElem?_append_left (by rw [E.len];omega)]
   simp
  | succ i =>
   rw [List.getElem?_append_right (by rw [E.len,Nat.add_mul];omega),E.len,show (i+1)*E.k+j - E.k=i*E.k+j by rw [Nat.add_mul];omega]
   simpa [Elt.cellsL] using ih (by simpa using hi)
structure SitG (lo:Nat) (w:World) (l:List α):Prop where
 at_:∀x∈l,E.At w x
 nd:(E.blkL l).Nodup
 bd:∀b∈E.blkL l,lo≤b∧b < w.heap.size
 fz:∀b∈E.blkL l,∀j,w.frozen? ⟨b,j,none⟩=false
variable {E}
theorem SitG.frame {lo:Nat} {w w':World} {l:List α} (h:SitG E lo w l) (hs:w.heap.size≤w'.heap.size) (hb:∀b∈E.blkL l,w'.heap[b]?=w.heap[b]?):SitG E lo w' l :=
 ⟨fun x hx=>E.frame (h.at_ x hx) fun b hbx=>hb b (List.mem_flatMap.2 ⟨x,hx,hbx⟩),h.nd,fun b hx=>⟨(h.bd b hx).1,Nat.lt_of_lt_of_le (h.bd b hx).2 hs⟩,fun b hx j=>by rw [World.frozen?_of_block (a:=⟨b,j,none⟩) (hb b hx)];exact h.fz b hx j⟩
theorem SitG.below {lo:Nat} {w w':World} {l:List α} (h:SitG E lo w l) (hb:Below w.heap.size w w'):SitG E lo w' l:=h.frame hb.size fun b hx=>hb.block b (h.bd b hx).2
theorem SitG.low {lo lo':Nat} {w:World} {l:List α} (h:SitG E lo w l) (hl:lo'≤lo):SitG E lo' w l:=⟨h.at_,h.nd,fun b hb=>⟨Nat.le_trans hl (h.bd b hb).1,(h.bd b hb).2⟩,h.fz⟩
theorem SitG.nil (lo:Nat) (w:World):SitG E lo w []:=⟨fun _ h=>(by cases h),by simp [Elt.blkL],fun _ h=>(by simp [Elt.blkL] at h),fun _ h=>(by simp [Elt.blkL] at h)⟩
theorem SitG.append {lo m:Nat} {w:World} {l k:List α} (h:SitG E lo w l) (h2:SitG E m w k) (hm:lo≤m) (hlt:∀b∈E.blkL l,b < m):SitG E lo w (l++k):=by
 refine ⟨fun x hx=>(List.mem_append.1 hx).elim (h.at_ x) (h2.at_ x),?_,fun b hb=>?_,fun b hb=>?_⟩
 ·rw [Elt.blkL_append,List.nodup_append]
  refine ⟨h.nd,h2.nd,fun a ha b hb e=>?_⟩
  have:=hlt a ha
  have:=(h2.bd b hb).1
  omega
 ·rw [Elt.blkL_append] at hb
  rcases List.mem_append.1 hb with hb|hb
  ·exact h.bd b hb
  ·exact ⟨Nat.le_trans hm (h2.bd b hb).1,(h2.bd b hb).2⟩
 ·rw [Elt.blkL_append] at hb
  exact (List.mem_append.1 hb).elim (h.fz b) (h2.fz b)
structure RowG (E:Elt α) (T:TypeId) (lo:Nat) (w:World) (r:Value) (l:List α):Prop where
 row:w.ownsRow lo T E.k r l.length (E.cellsL l)
 sit:SitG E lo w l
 apart:∀k,r.ownBlock=some k→k∉E.blkL l
variable {T:TypeId} {lo:Nat} {w w':World} {r:Value} {l:List α}
theorem RowG.frame (h:RowG E T lo w r l) (hs:w.heap.size≤w'.heap.size) (hb:∀b,lo≤b→b < w.heap.size→w'.heap[b]?=w.heap[b]?):RowG E T lo w' r l :=
 ⟨own_of h.row fun k hk=>hb k (own_lt h.row k hk).1 (own_lt h.row k hk).2,h.sit.frame hs fun b hx=>hb b (h.sit.bd b hx).1 (h.sit.bd b hx).2,h.apart⟩
theorem RowG.below (h:RowG E T lo w r l) (hb:Below w.heap.size w w'):RowG E T lo w' r l:=h.frame hb.size fun b _ h2=>hb.block b h2
theorem RowG.nil (E:Elt α) (T:TypeId) (lo:Nat) (w:World):RowG E T lo w (.slice none 0 0) []:=⟨⟨by simp [Elt.cellsL],.inl ⟨rfl,rfl⟩⟩,SitG.nil _ _,fun k hk=>(by cases hk)⟩
theorem RowG.next {m g cap:Nat} {w2 w3 w4:World} {u:α} (h:RowG E T lo w2 r l) (hm:lo≤m) (hrm:∀k,r.ownBlock=some k→k < m) (hlm:∀b∈E.blkL l,b < m) (hu:SitG E m w2 [u]) (hb:Below w2.heap.size w2 w3)
  (hown:w4.ownsRow lo T E.k (.slice (some ⟨g,0,none⟩) (l.length+1) cap) (l.length+1) (E.cellsL l++E.cells u)) (hg:w3.grownBy w4 r.ownBlock) (hat:r.ownBlock=some g∨g=w3.heap.size) :
  RowG E T lo w4 (.slice (some ⟨g,0,none⟩) (l.length+1) cap) (l++[u]):=by
 have hall:=h.sit.append hu hm hlm
 have h3:=hall.below hb
 refine ⟨by rw [List.length_append,Elt.cellsL_append];simpa [Elt.cellsL] using hown,h3.frame hg.size fun b hx=>hg.block b (h3.bd b hx).2 fun e=>?_,fun k hk hx=>?_⟩
 ·rw [Elt.blkL_append] at hx
  rcases List.mem_append.1 hx with hx|hx
  ·exact h.apart b e.symm hx
  ·have h1:=hrm b e.symm
   have h2:=(hu.bd b hx).1
   omega
 ·have e':g=k:=by simpa [Value.ownBlock] using hk
  subst e'
  rcases hat with h1|h1
  ·rw [Elt.blkL_append] at hx
   rcases List.mem_append.1 hx with hx|hx
   ·exact h.apart g h1 hx
   ·have h2:=hrm g h1
    have h4:=(hu.bd g hx).1
    omega
  ·have h2:=(hall.bd g hx).2
   have:=hb.size
   omega
theorem RowG.form (h:RowG E T lo w r l) (h0:0 < l.length):∃g c,r=.slice (some ⟨g,0,none⟩) l.length c∧l.length≤c∧c≤maxLen∧lo≤g∧g < w.heap.size∧g∉E.blkL l∧(∀j,w.frozen? ⟨g,j,none⟩=false)∧∀j u,(E.cellsL l)[j]?=some u→w.cell? ⟨g,j,none⟩=some u:=by
 rcases h.row.2 with ⟨_,h1⟩|⟨g,cap,cur,rfl,hb,hg,hle,hcap,hcs,hcur⟩
 ·omega
 ·have hlt:=own_lt h.row g rfl
  refine ⟨g,cap,rfl,hle,hcap,hlt.1,hlt.2,h.apart g rfl,fun j=>?_,fun j u hu=>?_⟩
  ·simp [World.frozen?,hg]
  ·have hj:j < (E.cellsL l).length:=(List.getElem?_eq_some_iff.1 hu).1
   rw [Elt.cellsL_len] at hj
   rw [World.ownsRow.cellAt h.row j hj];exact hu
end
abbrev Z0:Value:=.slice none 0 0
theorem Z0_own (k:Nat):Z0.ownBlock≠some k:=fun e=>by cases e
structure Pq (w:World) (R:Nat) (A:Option Addr) (c:Nat) (l:List Tk) (i:Nat):Prop where
 lt:R < w.heap.size
 l0:w.cell? ⟨R,0,none⟩=some (.slice A l.length c)
 l1:w.cell? ⟨R,1,none⟩=some (.int .i64 (i:Int))
 fr:∀j,w.frozen? ⟨R,j,none⟩=false
 toks:TLst w A l c
 low:∀g,A=some ⟨g,0,none⟩→g < R
 ilt:i < l.length
section
variable {w w':World} {R:Nat} {A:Option Addr} {c:Nat} {l:List Tk} {i:Nat}
theorem Pq.of (h:Pq w R A c l i) (hs:w.heap.size≤w'.heap.size) (hb:∀k,k≤R→w'.heap[k]?=w.heap[k]?):Pq w' R A c l i:=by
 have hR:=hb R (Nat.le_refl _)
 have hc:∀j,w'.cell? ⟨R,j,none⟩=w.cell? ⟨R,j,none⟩:=fun j=>World.cell?_of_block hR
 refine ⟨Nat.lt_of_lt_of_le h.lt hs,by rw [hc,h.l0],by rw [hc,h.l1],fun j=>by rw [World.frozen?_of_block (a:=⟨R,j,none⟩) hR];exact h.fr j,?_,h.low,h.ilt⟩
 refine ⟨h.toks.1,h.toks.2.1,fun hn=>?_⟩
 obtain ⟨g,e,hr⟩:=h.toks.2.2 hn
 have hg:=h.low g e
 exact ⟨g,e,fun i hi j u hu=>by rw [World.cell?_of_block (a:=⟨g,i*3+j,none⟩) (hb g (by omega))];exact hr i hi j u hu⟩
theorem Pq.below (h:Pq w R A c l i) (hb:Below w.heap.size w w'):Pq w' R A c l i:=h.of hb.size fun k hk=>hb.block k (by have:=h.lt;omega)
theorem Pq.drewN (h:Pq w R A c l i) (n:Nat):Pq (w.drewN n) R A c l i:=h.of (Nat.le_refl _) fun _ _=>rfl
theorem Pq.alloc (h:Pq w R A c l i) (o:Obj):Pq (w.alloc o) R A c l i:=h.below ((Below.refl _ _).alloc (Nat.le_refl _) o)
theorem Pq.put (h:Pq w R A c l i) {p:Addr} (hp:R < p.block) (v:Value):Pq (w.setCell p v) R A c l i :=
 h.of (by simp [World.setCell]) fun k hk=>Below.heap_setCell _ _ _ _ (by omega)
theorem Pq.grown {row:Option Nat} (h:Pq w R A c l i) (hg:w.grownBy w' row) (hr:∀k,row=some k→R < k):Pq w' R A c l i :=
 h.of hg.size fun k hk=>hg.block k (by have:=h.lt;omega) fun e=>by have:=hr k e.symm;omega
theorem Pq.set (h:Pq w R A c l i) {q:Nat} (hq:q < l.length):Pq (w.setCell ⟨R,1,none⟩ (.int .i64 (q:Int))) R A c l q:=by
 refine ⟨by simpa [World.setCell] using h.lt,?_,World.cell?_setCell_same _ _ _ (by rw [h.l1]),fun j=>by rw [World.frozen?_setCell];exact h.fr j,?_,h.low,hq⟩
 ·rw [World.cell?_setCell_other _ _ _ _ (by simp)];exact h.l0
 ·refine ⟨h.toks.1,h.toks.2.1,fun hn=>?_⟩
  obtain ⟨g,e,hr⟩:=h.toks.2.2 hn
  have hg:=h.low g e
  exact ⟨g,e,fun i hi j u hu=>by rw [World.cell?_setCell_other _ _ _ _ (by simp only [ne_eq,Addr.mk.injEq];omega)];exact hr i hi j u hu⟩
theorem Pq.tok (h:Pq w R A c l i):∃g,A=some ⟨g,0,none⟩∧w.cell? ⟨g,i*3,none⟩=some (.int .i64 (l.getD i default).1)∧w.cell? ⟨g,i*3+1,none⟩=some (.int .i64 ((l.getD i default).2.1:Int))∧w.cell? ⟨g,i*3+2,none⟩=some (.string (S (l.getD i default).2.2)):=h.toks.get h.ilt
abbrev Kq (R:Nat) (w w':World):Prop:=Kp R Z0 Z0 w w'
theorem SitG.kq {α:Type} {E:Elt α} {lo:Nat} {L:List α} (h:SitG E lo w L) (k:Kq R w w') (hR:R < lo):SitG E lo w' L:=h.frame k.size fun b hb=>k.block b (h.bd b hb).2 (by have:=(h.bd b hb).1;omega) (Z0_own b)
theorem RowG.kq {α:Type} {E:Elt α} {T:TypeId} {lo:Nat} {r:Value} {L:List α} (h:RowG E T lo w r L) (k:Kq R w w') (hR:R < lo):RowG E T lo w' r L:=h.frame k.size fun b h1 h2=>k.block b h2 (by omega) (Z0_own b)
end
structure BoxL (w:World) (T:Nat) (vs:List Value):Prop where
 lt:T < w.heap.size
 cells:∀j v,vs[j]?=some v→w.cell? ⟨T,j,none⟩=some v
 free:∀j,w.frozen? ⟨T,j,none⟩=false
section
variable {w w':World} {T:Nat} {vs:List Value}
theorem BoxL.of (h:BoxL w T vs) (hs:w.heap.size≤w'.heap.size) (hb:w'.heap[T]?=w.heap[T]?):BoxL w' T vs :=
 ⟨Nat.lt_of_lt_of_le h.lt hs,fun j v hv=>by rw [World.cell?_of_block (a:=⟨T,j,none⟩) hb];exact h.cells j v hv,fun j=>by rw [World.frozen?_of_block (a:=⟨T,j,none⟩) hb];exact h.free j⟩
theorem BoxL.below (h:BoxL w T vs) (hb:Below w.heap.size w w'):BoxL w' T vs:=h.of hb.size (hb.block T h.lt)
theorem BoxL.alloc (h:BoxL w T vs) (o:Obj):BoxL (w.alloc o) T vs:=h.below ((Below.refl _ _).alloc (Nat.le_refl _) o)
theorem BoxL.kq {R:Nat} (h:BoxL w T vs) (k:Kp R Z0 Z0 w w') (hT:T≠R):BoxL w' T vs:=h.of k.size (k.block T h.lt hT (Z0_own T))
theorem BoxL.put (h:BoxL w T vs) {p:Addr} (hp:p.block≠T) (v:Value):BoxL (w.setCell p v) T vs:=h.of (by simp [World.setCell]) (Below.heap_setCell _ _ _ _ hp.symm)
theorem BoxL.grown {row:Option Nat} (h:BoxL w T vs) (hg:w.grownBy w' row) (hr:row≠some T):BoxL w' T vs:=h.of hg.size (hg.block T h.lt (fun e=>hr e.symm))
theorem BoxL.new (w:World) (vs:List Value) (t:TypeId):BoxL (w.alloc (.cells vs.toArray t)) w.heap.size vs :=
 ⟨by simp,fun j v hv=>by rw [World.cell?_alloc_at _ _ _ _ rfl,List.getElem?_toArray];exact hv,fun j=>World.frozen?_alloc_at _ _ _ _ rfl⟩
theorem BoxL.set (h:BoxL w T vs) {j:Nat} (hj:j < vs.length) (v:Value):BoxL (w.setCell ⟨T,j,none⟩ v) T (vs.set j v):=by
 refine ⟨by simpa [World.setCell] using h.lt,fun i u hu=>?_,fun i=>by rw [World.frozen?_setCell];exact h.free i⟩
 by_cases e:i=j
 ·subst e
  rw [List.getElem?_set_self hj] at hu
  injection hu with hu
  subst hu
  exact World.cell?_setCell_same _ _ _ (by rw [h.cells i _ (List.getElem?_eq_getElem hj)])
 ·rw [List.getElem?_set_ne (fun h=>e h.symm)] at hu
  rw [World.cell?_setCell_other _ _ _ _ (by simp only [ne_eq,Addr.mk.injEq,true_and,and_true];omega)]
  exact h.cells i u hu
theorem BoxL.set4 {a b c d:Value} (h:BoxL w T [a,b,c,d]) (a' b' c' d':Value):BoxL ((((w.setCell ⟨T,0,none⟩ a').setCell ⟨T,1,none⟩ b').setCell ⟨T,2,none⟩ c').setCell ⟨T,3,none⟩ d') T [a',b',c',d'] :=
 (((h.set (j:=0) (by simp) a').set (j:=1) (by simp) b').set (j:=2) (by simp) c').set (j:=3) (by simp) d'
theorem SitG.put {α:Type} {E:Elt α} {lo:Nat} {L:List α} (h:SitG E lo w L) {p:Addr} (hp:p.block∉E.blkL L) (v:Value):SitG E lo (w.setCell p v) L :=
 h.frame (by simp [World.setCell]) fun b hb=>Below.heap_setCell _ _ _ _ (fun e=>hp (e ▸ hb))
end
def kindO:List UInt8→Int
 | []=>0
 | c :: _=>if lowB c then 1 else if wordyB c then 2 else if digB c then 3 else 4
structure GoodT (l:List Tk):Prop where
 ended:Ended l
 kinds:∀i,i < l.length→(l.getD i default).1=kindO (l.getD i default).2.2
 nums:∀i,i < l.length→(l.getD i default).1=3→(∀c∈(l.getD i default).2.2,digB c=true)∧valD (l.getD i default).2.2≤2147483648
 offs:∀i,i < l.length→(l.getD i default).2.1≤16384
 small:l.length≤16385
 texts:∀i,i < l.length→(l.getD i default).2.2.length≤16384
theorem GoodT.acc {l:List Tk} (h:GoodT l) {i:Nat} (hi:i < l.length) {s:List UInt8} {k:Int} (hs:kindO s=k):((l.getD i default).2.2==s)=isT k s (l.getD i default):=by
 unfold isT
 by_cases e:(l.getD i default).2.2=s
 ·rw [h.kinds i hi,e,hs];simp
 ·rw [beq_eq_false_iff_ne.2 e,Bool.and_false]
end Go.Proofs.YtaojnljppcnhjaaGreatDoor
namespace Go.Proofs.YtaojnljppcnhjaaGreatDoor
open Go.RowKit
section
variable {w:World} {R:Nat} {A:Option Addr} {c:Nat} {l:List Tk} {i:Nat} {z:Value} {ns:List (List UInt8)} {at_:Nat} {er:Int}
def WantR (R:Nat) (A:Option Addr) (c:Nat) (l:List Tk) (i:Nat) (z:Value) (ns:List (List UInt8)) (s:List UInt8) (w:World) (en:Ending) (w':World):Prop :=
 (isT 4 s (l.getD i default)=true∧en=.returned (.bool true)∧Kp R z z w w'∧∃a,Pr w' R A c l (stepI l i) z ns a 0) ∨
 (isT 4 s (l.getD i default)=false∧en=.returned (.bool false)∧FailedAt R A c l i z ns w (l.getD i default).2.1 16 w')
set_option maxHeartbeats 1000000 in
set_option maxRecDepth 10000 in
theorem r_want_at (h:Pr w R A c l i z ns at_ 0) (s:List UInt8) :
  Calls Tryz.prog 50 #[.pointer (some ⟨R,0,none⟩),.string (S s)] w (WantR R A c l i z ns s w):=by
 have Q:=Lib.hid (r_is_at h s)
 have H:=Lib.hid h
 generalize ht:l.getD i default=t at Q
 obtain ⟨k,p,x⟩:=t
 have QT:=Lib.hid (fun W (hb:Below w.heap.size w W)=>r_tok_of (h.below hb) ht)
 have QF:=Lib.hid (fun W (hb:Below w.heap.size w W)=>r_fail_at (h.below hb) p 16)
 have QN:=Lib.hid (fun W (hb:Below w.heap.size w W)=>r_next_at (h.below hb))
 have fa:=tok_at k p (S x)
 obtain ⟨b,hb⟩:∃b,isT 4 s (k,p,x)=b:=⟨_,rfl⟩
 rw [hb] at Q
 have HE:=Lib.hid (show isT 4 s (l.getD i default)=b by rw [ht];exact hb)
 have HP:=Lib.hid (show (l.getD i default).2.1=p by rw [ht])
 clear h ht hb
 cases b
 ·go_enter Tryz.func50,Tryz.ntmps50
  go_wp2_with (first
   | (go_at_call 47;refine Q.out.mono ?_;rintro en w1 ⟨rfl,hb1⟩;have H1:=Lib.hid hb1;clear hb1)
   | (go_at_call 27;refine (QT.out _ H1.out).mono ?_;rintro en w2 ⟨rfl,hb2⟩;have H2:=Lib.hid (H1.out.trans (hb2.mono H1.out.size));clear hb2)
   | (go_at_call 31;refine (QF.out _ H2.out).mono ?_;rintro en w3 ⟨rfl,hk3,hp3⟩;have H3:=Lib.hid (And.intro ((Below.kp H2.out R z).trans hk3) hp3);clear hk3 hp3))
  go_ret
  exact .inr ⟨HE.out,rfl,by rw [HP.out];exact H3.out⟩
 ·go_enter Tryz.func50,Tryz.ntmps50
  go_wp2_with (first
   | (go_at_call 47;refine Q.out.mono ?_;rintro en w1 ⟨rfl,hb1⟩;have H1:=Lib.hid hb1;clear hb1)
   | (go_at_call 48;refine (QN.out _ H1.out).mono ?_;rintro en w3 ⟨rfl,hk3,hp3⟩;have H3:=Lib.hid (And.intro ((Below.kp H1.out R z).trans hk3) hp3);clear hk3 hp3))
  go_ret
  exact .inl ⟨HE.out,rfl,H3.out.1,_,H3.out.2⟩
end
end Go.Proofs.YtaojnljppcnhjaaGreatDoor
namespace Go.Proofs.YtaojnljppcnhjaaGreatDoor
open Go.RowKit
section
variable {w:World} {R:Nat} {A:Option Addr} {c:Nat} {l:List Tk} {i:Nat} {z:Value} {ns:List (List UInt8)} {at_:Nat} {er:Int}
def NameR (R:Nat) (A:Option Addr) (c:Nat) (l:List Tk) (i:Nat) (z:Value) (ns:List (List UInt8)) (w:World) (en:Ending) (w':World):Prop :=
 ((l.getD i default).1=1∧resB (l.getD i default).2.2=false∧en=.returned (.tuple #[.string (S (l.getD i default).2.2),.bool true])∧Kp R z z w w'∧∃a,Pr w' R A c l (stepI l i) z ns a 0) ∨
 (∃e,((l.getD i default).1≠1∧e=16∨(l.getD i default).1=1∧resB (l.getD i default).2.2=true∧e=7)∧en=.returned (.tuple #[.string ⟨#[]⟩,.bool false])∧FailedAt R A c l i z ns w (l.getD i default).2.1 e w')
theorem box_kp {w2 w':World} {z':Value} {k p:Int} {x:ByteArray} {T:TypeId} (hR:R < w2.heap.size) (hz:∀j,z.ownBlock=some j→j < w2.heap.size) (hk:Kp R z z' (w2.alloc (.cells #[.int .i64 k,.int .i64 p,.string x] T)) w') :
  w'.cell? ⟨w2.heap.size,0,none⟩=some (.int .i64 k)∧w'.cell? ⟨w2.heap.size,1,none⟩=some (.int .i64 p)∧w'.cell? ⟨w2.heap.size,2,none⟩=some (.string x):=by
 have h:∀j,w'.cell? ⟨w2.heap.size,j,none⟩=(#[.int .i64 k,.int .i64 p,.string x]:Array Value)[j]?:=fun j=>by
  rw [hk.cell (p:=⟨w2.heap.size,j,none⟩) (by simp) (by simp only;omega) (fun e=>by have:=hz _ e;simp only at this;omega),World.cell?_alloc_at _ _ _ _ rfl]
 exact ⟨h 0,h 1,h 2⟩
set_option maxHeartbeats 1000000 in
set_option maxRecDepth 10000 in
theorem r_name_at (h:Pr w R A c l i z ns at_ 0) :
  Calls Tryz.prog 49 #[.pointer (some ⟨R,0,none⟩)] w (NameR R A c l i z ns w):=by
 generalize ht:l.getD i default=t
 obtain ⟨k,p,x⟩:=t
 have QT:=Lib.hid (r_tok_of h ht)
 have QF:=Lib.hid (fun W (hb:Below w.heap.size w W) (e:Int)=>r_fail_at (h.below hb) p e)
 have QN:=Lib.hid (fun W (hb:Below w.heap.size w W)=>r_next_at (h.below hb))
 have HZ:=Lib.hid (And.intro h.lt h.apart)
 obtain ⟨b,hk⟩:∃b,(k==1)=b:=⟨_,rfl⟩
 obtain ⟨r,hr⟩:∃r,resB x=r:=⟨_,rfl⟩
 have QR:=Lib.hid (fun W=>ref_res_at (S x) W (r:=r) hr)
 have HT:=Lib.hid ht
 have HR:=Lib.hid hr
 have HK:=Lib.hid hk
 clear h ht hr
 cases b
 ·go_enter Tryz.func49,Tryz.ntmps49
  go_wp2_with (first
   | (go_at_call 27;refine QT.out.mono ?_;rintro en w2 ⟨rfl,hb2⟩;have H2:=Lib.hid hb2;clear hb2)
   | (go_at_call 31;refine (QF.out _ (H2.out.alloc H2.out.size _) _).mono ?_;rintro en w3 ⟨rfl,hk3,hp3⟩;have H3:=Lib.hid (And.intro ((Below.kp (H2.out.alloc H2.out.size _) R z).trans hk3) hp3);clear hk3 hp3))
  refine bodyPost_ret (v:=.tuple #[.string ⟨#[]⟩,.bool false]) (by simp [results,Tryz.results49,go_sem]) rfl ?_
  exact .inr ⟨16,.inl ⟨by rw [HT.out];simpa using HK.out,rfl⟩,rfl,by rw [HT.out];exact H3.out⟩
 ·cases r
  ·go_enter Tryz.func49,Tryz.ntmps49
   go_wp2_with (first
    | (go_at_call 27;refine QT.out.mono ?_;rintro en w2 ⟨rfl,hb2⟩;have H2:=Lib.hid hb2;clear hb2)
    | (go_at_call 77;refine (QR.out _).mono ?_;rintro en w3 ⟨rfl,rfl⟩)
    | (go_at_call 48;refine (QN.out _ (H2.out.alloc H2.out.size _)).mono ?_;rintro en w4 ⟨rfl,hk3,hp3⟩;have hbx:=(box_kp (by have:=HZ.out.1;have:=H2.out.size;omega) (fun j hj=>by have:=(HZ.out.2 j hj).2;have:=H2.out.size;omega) hk3).2.2;have H3:=Lib.hid (And.intro ((Below.kp (H2.out.alloc H2.out.size _) R z).trans hk3) hp3);clear hk3 hp3))
   refine bodyPost_ret (v:=.tuple #[.string (S x),.bool true]) (by simp [results,Tryz.results49,go_sem]) rfl ?_
   exact .inl ⟨by rw [HT.out];simpa using HK.out,by rw [HT.out];exact HR.out,by rw [HT.out],H3.out.1,_,H3.out.2⟩
  ·go_enter Tryz.func49,Tryz.ntmps49
   go_wp2_with (first
    | (go_at_call 27;refine QT.out.mono ?_;rintro en w2 ⟨rfl,hb2⟩;have H2:=Lib.hid hb2;clear hb2)
    | (go_at_call 77;refine (QR.out _).mono ?_;rintro en w3 ⟨rfl,rfl⟩)
    | (go_at_call 31;refine (QF.out _ (H2.out.alloc H2.out.size _) _).mono ?_;rintro en w3 ⟨rfl,hk3,hp3⟩;have H3:=Lib.hid (And.intro ((Below.kp (H2.out.alloc H2.out.size _) R z).trans hk3) hp3);clear hk3 hp3))
   refine bodyPost_ret (v:=.tuple #[.string ⟨#[]⟩,.bool false]) (by simp [results,Tryz.results49,go_sem]) rfl ?_
   exact .inr ⟨7,.inr ⟨by rw [HT.out];simpa using HK.out,by rw [HT.out];exact HR.out,rfl⟩,rfl,by rw [HT.out];exact H3.out⟩
end
end Go.Proofs.YtaojnljppcnhjaaGreatDoor
namespace Go.Proofs.YtaojnljppcnhjaaGreatDoor
open Go.RowKit
theorem pvalD_top:∀(l:List UInt8),l.foldl (fun (n:Int) c=>min (n*10+(c.toNat - 48:Int)) 2147483649) 2147483649=2147483649
 | []=>rfl
 | c :: l=>by
  rw [List.foldl_cons,Int.min_eq_right (by omega)]
  exact pvalD_top l
theorem pvalD_snoc (l:List UInt8) (c:UInt8):valD (l++[c])=min (valD l*10+(c.toNat - 48:Int)) 2147483649:=by simp [valD]
theorem pvalD_past {l m:List UInt8} (h:2147483648 < valD l):2147483648 < valD (l++m):=by
 have h1:valD l≤2147483649:=by
  rcases List.eq_nil_or_concat l with rfl|⟨k,c,rfl⟩
  ·decide
  ·rw [List.concat_eq_append,pvalD_snoc];exact Int.min_le_right _ _
 have h2:valD l=2147483649:=by omega
 unfold valD at h2 ⊢
 rw [List.foldl_append,h2,pvalD_top]
 omega
theorem pvalD_step {s:ByteArray} {k:Nat} {v:Int} (h:k < s.size) (hv:valD (s.data.toList.take k)=v):valD (s.data.toList.take (k+1))=min (v*10+(s[k].toNat - 48:Int)) 2147483649:=by
 rw [take_next h,pvalD_snoc,hv]
theorem ptake_all (s:ByteArray):s.data.toList.take s.size=s.data.toList:=List.take_of_length_le (by rw [len_str];exact Nat.le_refl _)
theorem pvalD_over {s:ByteArray} {k:Nat} (h:2147483648 < valD (s.data.toList.take k)):2147483648 < valD s.data.toList:=by
 rw [←List.take_append_drop k s.data.toList]
 exact pvalD_past h
theorem pdig_range {c:UInt8} (h:digB c=true):48≤c.toNat∧c.toNat≤57:=by simpa [digB] using h
set_option maxHeartbeats 1000000 in
theorem r_value_at (s:ByteArray) (w:World) (hs:s.size≤100000) (hd:∀k (h:k < s.size),digB s[k]=true) {r:Int} (hr:valD s.data.toList=r) (hr2:r≤2147483648) :
  Calls Tryz.prog 51 #[.string s] w fun e w'=>e=.returned (.int .i64 r)∧w=w':=by
 have HD:=Lib.hid hd
 have HR:=Lib.hid hr
 have HO:Hid (∀k,¬2147483648 < valD (s.data.toList.take k)):=Lib.hid (fun k h=>absurd (pvalD_over (s:=s) (k:=k) h) (by rw [hr];omega))
 clear hd hr
 go_enter Tryz.func51,Tryz.ntmps51
 go_wp2
 go_loop [3,4] (fun v i=>∃(k:Nat) (x:Int),k≤s.size∧i=.int .i64 (k:Int)∧v=.int .i64 x∧0≤x∧x≤2147483648∧Hid (valD (s.data.toList.take k)=x)) (fun _ i=>s.size - (intOf i).toNat)
 case atStart=>exact ⟨0,0,Nat.zero_le _,rfl,rfl,by decide,by decide,Lib.hid rfl⟩
 case round =>
  obtain ⟨k,x,hk,rfl,rfl,hx0,hx1,hv⟩:=hrel
  by_cases hlt:k < s.size
  ·have hlt':(k:Int) < (s.size:Int):=by omega
   obtain ⟨d1,d2⟩:=pdig_range (HD.out k hlt)
   have hm:valD (s.data.toList.take (k+1))=min (x*10+(s[k].toNat - 48:Int)) 2147483649:=pvalD_step hlt hv.out
   have hno:=HO.out (k+1)
   have hbig:10*x+((s[k].toNat:Int) - 48)≤2147483648:=by
    rw [hm] at hno;omega
   have HV:=Lib.hid (show valD (s.data.toList.take (k+1))=10*x+((s[k].toNat:Int) - 48) by rw [hm];omega)
   clear hm hno
   go_wp2
   go_round
   case rel=>exact ⟨k+1,_,by omega,by go_num,rfl,by omega,by omega,HV⟩
   case measure=>simp [intOf];omega
  ·obtain rfl:k=s.size:=by omega
   have HV:=Lib.hid (show x=r by rw [←HR.out,← ptake_all s,hv.out])
   go_wp2
   go_ret
   exact ⟨by rw [HV.out];rfl,rfl⟩
end Go.Proofs.YtaojnljppcnhjaaGreatDoor
namespace Go.Proofs.YtaojnljppcnhjaaGreatDoor
open Go.RowKit
theorem string_info:(Tryz.prog.info? 9).map (fun i=>(i.zero,i.size,i.bytes))=some (some (.string ⟨#[]⟩),1,16):=by kernel_rfl
section
variable {w w4:World} {R:Nat} {A:Option Addr} {c:Nat} {l:List Tk} {i:Nat} {z:Value} {ns:List (List UInt8)} {at_:Nat} {er:Int}
theorem nmC_append (ns:List (List UInt8)) (s:List UInt8):nmC (ns++[s])=nmC ns++[.string (S s)]:=by simp [nmC]
theorem Pr.names (h:Pr w R A c l i z ns at_ er) {g cap:Nat} {s:List UInt8} (hg:w.grownBy w4 z.ownBlock)
  (hown:w4.ownsRow (R+1) 9 1 (.slice (some ⟨g,0,none⟩) (ns.length+1) cap) (ns.length+1) (nmC ns++[.string (S s)])) :
  Pr (w4.setCell ⟨R,2,none⟩ (.slice (some ⟨g,0,none⟩) (ns.length+1) cap)) R A c l i (.slice (some ⟨g,0,none⟩) (ns.length+1) cap) (ns++[s]) at_ er:=by
 have hap:=h.apart
 have hb:∀k,k≤R→w4.heap[k]?=w.heap[k]?:=fun k hk=>hg.block k (by have:=h.lt;omega) fun e=>by have:=(hap k e.symm).1;omega
 have hc:∀j,w4.cell? ⟨R,j,none⟩=w.cell? ⟨R,j,none⟩:=fun j=>World.cell?_of_block (hb R (Nat.le_refl _))
 have ho:∀j,j≠2→∀v,w.cell? ⟨R,j,none⟩=some v→(w4.setCell ⟨R,2,none⟩ (.slice (some ⟨g,0,none⟩) (ns.length+1) cap)).cell? ⟨R,j,none⟩=some v:=fun j hj v hv=>by
  rw [World.cell?_setCell_other _ _ _ _ (by simp only [ne_eq,Addr.mk.injEq,true_and,and_true];omega),hc,hv]
 have hgR:R+1≤g:=(own_lt hown g rfl).1
 refine ⟨by simpa [World.setCell] using Nat.lt_of_lt_of_le h.lt hg.size,ho 0 (by omega) _ h.l0,ho 1 (by omega) _ h.l1,World.cell?_setCell_same _ _ _ (by rw [hc,h.l2]),ho 3 (by omega) _ h.l3,ho 4 (by omega) _ h.l4,fun j=>by
  rw [World.frozen?_setCell,World.frozen?_of_block (a:=⟨R,j,none⟩) (hb R (Nat.le_refl _))];exact h.fr j,?_,h.low,h.ilt,?_⟩
 ·refine ⟨h.toks.1,h.toks.2.1,fun hn=>?_⟩
  obtain ⟨q,e,hr⟩:=h.toks.2.2 hn
  have hq:=h.low q e
  exact ⟨q,e,fun i hi j u hu=>by
   rw [World.cell?_setCell_other _ _ _ _ (by simp only [ne_eq,Addr.mk.injEq];omega),World.cell?_of_block (a:=⟨q,i*3+j,none⟩) (hb q (by omega))]
   exact hr i hi j u hu⟩
 ·rw [List.length_append,nmC_append]
  exact own_of hown fun k hk => Below.heap_setCell _ _ _ _ (by have e : g = k := by simpa [Value.ownBlock] using hk
                                                               simp only; omega)
theorem Pr.nameAt (h:Pr w R A c l i z ns at_ er) {k:Nat} (hk:k < ns.length):∃g cap,z=.slice (some ⟨g,0,none⟩) ns.length cap∧ns.length≤cap∧cap≤maxLen∧w.cell? ⟨g,k,none⟩=some (.string (S (ns.getD k []))):=by
 rcases h.own.2 with ⟨_,h1⟩|⟨g,cap,cur,e,hb,hg,hle,hcap,hcs,hcur⟩
 ·omega
 ·refine ⟨g,cap,e,hle,hcap,?_⟩
  subst e
  have hc:=World.ownsRow.cellAt h.own k (by omega)
  rw [hc]
  simp [nmC,List.getD_eq_getElem?_getD,List.getElem?_eq_getElem hk]
theorem Pr.zform (h:Pr w R A c l i z ns at_ er):∃B cap,z=.slice B ns.length cap:=by
 rcases h.own.2 with ⟨e,h1⟩|⟨g,cap,cur,e,_⟩
 ·exact ⟨none,0,by rw [e,h1]⟩
 ·exact ⟨_,cap,e⟩
end
end Go.Proofs.YtaojnljppcnhjaaGreatDoor
