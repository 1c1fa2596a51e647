/-
  NmKinds.
  TmRight.
  TmFit.
 TmSize.
 TmForm.
 TmRef.
 TmAtom.
-/
import Derived.Test.YtnghanpmmbcbbaaGreatDoorMq3
import Derived.Test.YtnghanpmmbcbbaaGreatDoorMq2
import Derived.Outline
import Derived.WalkLawsBesides
import Derived.Deep.RegionHeld3
import Derived.BigQuiet
import Derived.Lib.QuietBelow
import Derived.Test.YtnghanpmmbcbbaaGreatDoorProg
namespace Go.Proofs.YtnghanpmmbcbbaaGreatDoor
open Go.RowKit
theorem head_at {s:ByteArray} (h:0 < s.size):s.data.toList.getD 0 0=s[0]:=by
 rw [List.getD_eq_getElem?_getD,List.getElem?_eq_getElem (by rw [len_str];exact h)]
 rfl
theorem word_size {s:ByteArray} (h:wordB s.data.toList=true):0 < s.size:=by
 have:=((wordB_iff _).1 h).1
 rw [len_str] at this
 omega
set_option maxHeartbeats 1000000 in
theorem right_at (s:ByteArray) (w:World) (hs:s.size≤9223372036854775807) {r:Bool} (hr:rightB s.data.toList=r) :
  Calls Tryz.prog 69 #[.string s] w fun e w'=>e=.returned (.bool r)∧w=w':=by
 subst hr
 obtain ⟨b1,hb1⟩:∃b,wordB s.data.toList=b:=⟨_,rfl⟩
 have qw:=Lib.hid hb1
 cases b1
 ·have HV:=Lib.hid (show rightB s.data.toList=false by unfold rightB;rw [hb1];rfl)
  clear hb1
  go_enter Tryz.func69,Tryz.ntmps69
  go_wp2_with (go_at_call 110;refine (word_at _ _ hs qw.out).mono ?_;rintro e w' ⟨rfl,rfl⟩)
  go_ret
  exact ⟨ret_bool (by rw [HV.out]),rfl⟩
 ·have h0:=word_size hb1
  obtain ⟨b2,hb2⟩:∃b,lowB s[0]=b:=⟨_,rfl⟩
  obtain ⟨b3,hb3⟩:∃b,resB s.data.toList=b:=⟨_,rfl⟩
  have HV:=Lib.hid (show rightB s.data.toList=(b2 && !b3) by unfold rightB;rw [hb1,head_at h0,hb2,hb3];rfl)
  have ql:=Lib.hid hb2
  have qr:=Lib.hid hb3
  clear hb1 hb2 hb3
  cases b2
  ·go_enter Tryz.func69,Tryz.ntmps69
   go_wp2_with (first|(go_at_call 110;refine (word_at _ _ hs qw.out).mono ?_;rintro e w' ⟨rfl,rfl⟩)|(go_at_call 111;refine (low_at _ _ ql.out).mono ?_;rintro e w' ⟨rfl,rfl⟩)|(go_at_call 112;refine (res_at _ _ qr.out).mono ?_;rintro e w' ⟨rfl,rfl⟩))
   go_ret
   exact ⟨ret_bool (by rw [HV.out];rfl),rfl⟩
  ·cases b3
   ·go_enter Tryz.func69,Tryz.ntmps69
    go_wp2_with (first|(go_at_call 110;refine (word_at _ _ hs qw.out).mono ?_;rintro e w' ⟨rfl,rfl⟩)|(go_at_call 111;refine (low_at _ _ ql.out).mono ?_;rintro e w' ⟨rfl,rfl⟩)|(go_at_call 112;refine (res_at _ _ qr.out).mono ?_;rintro e w' ⟨rfl,rfl⟩))
    go_ret
    exact ⟨ret_bool (by rw [HV.out];rfl),rfl⟩
   ·go_enter Tryz.func69,Tryz.ntmps69
    go_wp2_with (first|(go_at_call 110;refine (word_at _ _ hs qw.out).mono ?_;rintro e w' ⟨rfl,rfl⟩)|(go_at_call 111;refine (low_at _ _ ql.out).mono ?_;rintro e w' ⟨rfl,rfl⟩)|(go_at_call 112;refine (res_at _ _ qr.out).mono ?_;rintro e w' ⟨rfl,rfl⟩))
    go_ret
    exact ⟨ret_bool (by rw [HV.out];rfl),rfl⟩
set_option maxHeartbeats 1000000 in
theorem var_at (s:ByteArray) (w:World) (hs:s.size≤9223372036854775807) {r:Bool} (hr:varB s.data.toList=r) :
  Calls Tryz.prog 200 #[.string s] w fun e w'=>e=.returned (.bool r)∧w=w':=by
 subst hr
 obtain ⟨b1,hb1⟩:∃b,wordB s.data.toList=b:=⟨_,rfl⟩
 have qw:=Lib.hid hb1
 cases b1
 ·have HV:=Lib.hid (show varB s.data.toList=false by unfold varB;rw [hb1];rfl)
  clear hb1
  go_enter Tryz.func200,Tryz.ntmps200
  go_wp2_with (go_at_call 110;refine (word_at _ _ hs qw.out).mono ?_;rintro e w' ⟨rfl,rfl⟩)
  go_ret
  exact ⟨ret_bool (by rw [HV.out]),rfl⟩
 ·have h0:=word_size hb1
  obtain ⟨b2,hb2⟩:∃b,uppB s[0]=b:=⟨_,rfl⟩
  have HV:=Lib.hid (show varB s.data.toList=(b2||undB s[0]) by unfold varB;rw [hb1,head_at h0,hb2];rfl)
  have qu:=Lib.hid hb2
  clear hb1 hb2
  cases b2
  ·by_cases h4:s[0].toNat=95
   ·have h4':((s[0].toNat:Int)==95)=true:=by simp;omega
    have HU:=Lib.hid (show undB s[0]=true by simp only [undB,h4,decide_true])
    clear h4
    go_enter Tryz.func200,Tryz.ntmps200
    go_wp2_with (first|(go_at_call 110;refine (word_at _ _ hs qw.out).mono ?_;rintro e w' ⟨rfl,rfl⟩)|(go_at_call 149;refine (upp_at _ _ qu.out).mono ?_;rintro e w' ⟨rfl,rfl⟩))
    go_ret
    exact ⟨ret_bool (by rw [HV.out,HU.out];rfl),rfl⟩
   ·have h4':((s[0].toNat:Int)==95)=false:=by simp;omega
    have HU:=Lib.hid (show undB s[0]=false by simp only [undB,h4,decide_false])
    clear h4
    go_enter Tryz.func200,Tryz.ntmps200
    go_wp2_with (first|(go_at_call 110;refine (word_at _ _ hs qw.out).mono ?_;rintro e w' ⟨rfl,rfl⟩)|(go_at_call 149;refine (upp_at _ _ qu.out).mono ?_;rintro e w' ⟨rfl,rfl⟩))
    go_ret
    exact ⟨ret_bool (by rw [HV.out,HU.out];rfl),rfl⟩
  ·go_enter Tryz.func200,Tryz.ntmps200
   go_wp2_with (first|(go_at_call 110;refine (word_at _ _ hs qw.out).mono ?_;rintro e w' ⟨rfl,rfl⟩)|(go_at_call 149;refine (upp_at _ _ qu.out).mono ?_;rintro e w' ⟨rfl,rfl⟩))
   go_ret
   exact ⟨ret_bool (by rw [HV.out];rfl),rfl⟩
end Go.Proofs.YtnghanpmmbcbbaaGreatDoor
namespace Go.Proofs.YtnghanpmmbcbbaaGreatDoor
open Go.RowKit
theorem empty_iff (s:ByteArray):s.toList.isEmpty=decide (s.size=0):=by
 rw [raw_list,Bool.eq_iff_iff,List.isEmpty_iff,decide_eq_true_eq,← List.length_eq_zero_iff,len_str]
theorem plain_at (t:Tm) (w:World) (ht:t.args.length≤9223372036854775807) {r:Bool} (hr:plainB t=r) :
  Calls Tryz.prog 222 #[t.val] w fun e w'=>e=.returned (.bool r)∧Below w.heap.size w w':=by
 obtain ⟨k,n,s,A,c,a⟩:=t
 show Calls Tryz.prog 222 #[.agg #[.int .i64 k,.int .i64 n,.string s,.slice A a.length c]] w _
 have HR:=Lib.hid hr
 clear hr
 simp only [Tm.args] at ht
 obtain ⟨b1,hb1⟩:∃b,decide (s.size=0)=b:=⟨_,rfl⟩
 obtain ⟨b2,hb2⟩:∃b,decide (a.length=0)=b:=⟨_,rfl⟩
 have HV:=Lib.hid (show (b1&&b2)=r by rw [←hb1,← hb2];exact HR.out)
 have e1:s.toList.isEmpty=b1:=by rw [empty_iff,hb1]
 have e2:((a.length:Int)==0)=b2:=by rw [←hb2,Bool.eq_iff_iff];simp
 clear HR hb1 hb2
 cases b1
 ·clear e2
  go_enter Tryz.func222,Tryz.ntmps222
  go_wp2_with fail
  go_ret
  exact ⟨by rw [←HV.out];rfl,(Below.refl _ _).alloc (Nat.le_refl _) _⟩
 ·cases b2
  ·go_enter Tryz.func222,Tryz.ntmps222
   go_wp2_with fail
   go_ret
   exact ⟨by rw [←HV.out];rfl,(Below.refl _ _).alloc (Nat.le_refl _) _⟩
  ·go_enter Tryz.func222,Tryz.ntmps222
   go_wp2_with fail
   go_ret
   exact ⟨by rw [←HV.out];rfl,(Below.refl _ _).alloc (Nat.le_refl _) _⟩
theorem func_at (s:ByteArray) (n:Nat) (w:World) (hs:s.size≤9223372036854775807) (hn:n≤9223372036854775807) {r:Bool} (hr:funcB s.data.toList n=r) :
  Calls Tryz.prog 223 #[.string s,.int .i64 (n:Int)] w fun e w'=>e=.returned (.bool r)∧w=w':=by
 have HR:=Lib.hid hr
 clear hr
 obtain ⟨b1,hb1⟩:∃b,opB s.data.toList=b:=⟨_,rfl⟩
 have q1:=Lib.hid (op_at s w hb1)
 cases b1
 ·obtain ⟨b2,hb2⟩:∃b,rightB s.data.toList=b:=⟨_,rfl⟩
  have q2:=Lib.hid (right_at s w hs hb2)
  by_cases h6:n≤6
  ·have h6':(n:Int)≤6:=by omega
   have HV:=Lib.hid (show b2=r by rw [←HR.out];simp [funcB,hb1,hb2,h6])
   clear hb1 hb2 HR h6
   go_enter Tryz.func223,Tryz.ntmps223
   go_wp2_with fail
   refine q1.out.mono ?_
   rintro e w' ⟨rfl,rfl⟩
   go_wp2_with fail
   refine q2.out.mono ?_
   rintro e w' ⟨rfl,rfl⟩
   go_wp2_with fail
   go_ret
   exact ⟨by rw [←HV.out];rfl,rfl⟩
  ·have h6':decide ((n:Int)≤6)=false:=by simp;omega
   have HV:=Lib.hid (show false=r by rw [←HR.out];simp [funcB,hb1,h6])
   clear hb1 hb2 HR h6
   go_enter Tryz.func223,Tryz.ntmps223
   go_wp2_with fail
   refine q1.out.mono ?_
   rintro e w' ⟨rfl,rfl⟩
   go_wp2_with fail
   go_ret
   exact ⟨by rw [←HV.out];rfl,rfl⟩
 ·obtain ⟨b2,hb2⟩:∃b,((n:Int)==2)=b:=⟨_,rfl⟩
  have HV:=Lib.hid (show b2=r by rw [←HR.out,← hb2,Bool.eq_iff_iff];simp [funcB,hb1];omega)
  clear hb1 HR
  cases b2
  all_goals
   go_enter Tryz.func223,Tryz.ntmps223
   go_wp2_with fail
   refine q1.out.mono ?_
   rintro e w' ⟨rfl,rfl⟩
   go_wp2_with fail
   go_ret
   exact ⟨by rw [←HV.out];rfl,rfl⟩
end Go.Proofs.YtnghanpmmbcbbaaGreatDoor
namespace Go.Proofs.YtnghanpmmbcbbaaGreatDoor
open Go.RowKit Go.Sort
theorem boxed4 (w:World) (v0 v1 v2 v3:Value) (T:TypeId) :
  (∀d os,(grow (redrawn (w.alloc (.cells #[v0,v1,v2,v3] T)) d) os).cell? ⟨w.heap.size,0,none⟩=some v0)∧(∀d os,(grow (redrawn (w.alloc (.cells #[v0,v1,v2,v3] T)) d) os).cell? ⟨w.heap.size,1,none⟩=some v1) ∧
  (∀d os,(grow (redrawn (w.alloc (.cells #[v0,v1,v2,v3] T)) d) os).cell? ⟨w.heap.size,2,none⟩=some v2)∧(∀d os,(grow (redrawn (w.alloc (.cells #[v0,v1,v2,v3] T)) d) os).cell? ⟨w.heap.size,3,none⟩=some v3):=by
 have h:∀j v,(#[v0,v1,v2,v3]:Array Value)[j]?=some v→(w.alloc (.cells #[v0,v1,v2,v3] T)).cell? ⟨w.heap.size,j,none⟩=some v:=fun j v hv=>by rw [World.cell?_alloc_at _ _ _ _ rfl,hv]
 exact ⟨cell_regrown (h 0 v0 rfl),cell_regrown (h 1 v1 rfl),cell_regrown (h 2 v2 rfl),cell_regrown (h 3 v3 rfl)⟩
def FitAt (x:Tm):Prop:=∀(nodes depth:Nat) (w:World),x.At w→nodes≤1000→depth≤1000 →
  Calls Tryz.prog 209 #[x.val,.int .i64 (nodes:Int),.int .i64 (depth:Int)] w fun e w'=>e=.returned (.tuple #[.int .i64 (x.fit nodes depth).1,.bool (x.fit nodes depth).2])∧Below w.heap.size w w'
set_option maxHeartbeats 1000000 in
theorem fitL_at (l:List Tm) (ih:∀x∈l,FitAt x) (A:Option Addr) (c nodes depth:Nat) (w:World) (hl:Lst w A l c) (hn:nodes≤1000) (hd:depth≤1000) :
  Calls Tryz.prog 183 #[.slice A l.length c,.int .i64 (nodes:Int),.int .i64 (depth:Int)] w fun e w' =>
   e=.returned (.tuple #[.int .i64 (fitL l nodes depth).1,.bool (fitL l nodes depth).2])∧Below w.heap.size w w':=by
 have hlen:l.length≤9223372036854775807:=by have:=hl.1;have:=hl.2.1;unfold maxLen at *;omega
 have QI:=Lib.hid ih
 clear ih
 go_enter Tryz.func183,Tryz.ntmps183
 go_wp2_with fail
 go_loopw [6,13] (fun z i wr=>∃j m:Nat,j≤l.length∧i=.int .i64 j∧z=.int .i64 (m:Int)∧m≤1000∧Hid (fitL (l.take j) nodes depth=((m:Int),true))∧Below w.heap.size w wr) (fun _ i _=>l.length - (intOf i).toNat)
 case atStart=>exact ⟨0,nodes,Nat.zero_le _,rfl,rfl,hn,Lib.hid rfl,Below.refl _ _⟩
 case round =>
  obtain ⟨j,m,hj,rfl,rfl,hm,HF,hb⟩:=hrel
  by_cases hlt:j < l.length
  ·obtain ⟨b,o,rfl,⟨c0,c1,c2,c3⟩,hx⟩:=(hl.below hb).get hlt
   have hmem:=getD_mem hlt
   have HN:=Lib.hid (fitL_next hlt (nodes:Int) (depth:Int) (by rw [HF.out]))
   have HS:=Lib.hid (fun h=>fitL_stop hlt (nodes:Int) (depth:Int) (by rw [HF.out]) h)
   rw [HF.out] at HN HS
   generalize l.getD j default=x at *
   have Q1:=Lib.hid (QI.out x hmem m depth)
   have HX:=Lib.hid hx
   clear hx QI hmem
   obtain ⟨p,hp⟩:∃p,x.fit m depth=p:=⟨_,rfl⟩
   have HT:=Lib.hid (fun h=>fit_nat (t:=x) (nodes:=m) (depth:=depth) h)
   rw [hp] at HN HS Q1 HT
   clear hp
   obtain ⟨z,b2⟩:=p
   obtain ⟨k',n',s',A',c',a'⟩:=x
   simp only [Tm.kind,Tm.num,Tm.name,Tm.at_,Tm.args,Tm.cap] at c0 c1 c2 c3
   cases b2
   ·go_wp2_with fail
    refine (Q1.out _ (HX.out.alloc _) hm hd).mono ?_
    rintro e w2 ⟨rfl,hb3⟩
    go_wp2_with fail
    go_ret2
    refine ⟨?_,(hb.alloc hb.size _).trans (hb3.mono (by have:=hb.size;simp;omega))⟩
    rw [HS.out True.intro]
    rfl
   ·obtain ⟨m',hm',hle⟩:=HT.out rfl
    obtain rfl:z=(m':Int):=hm'
    clear HT HS
    go_wp2_with fail
    refine (Q1.out _ (HX.out.alloc _) hm hd).mono ?_
    rintro e w2 ⟨rfl,hb3⟩
    go_wp2_with fail
    go_roundw
    case rel=>exact ⟨j+1,m',by omega,by go_num,rfl,by omega,Lib.hid (by rw [HN.out];rfl),(hb.alloc hb.size _).trans (hb3.mono (by have:=hb.size;simp;omega))⟩
    case measure=>simp [intOf];omega
  ·obtain rfl:j=l.length:=by omega
   have HE:=Lib.hid (show fitL l nodes depth=((m:Int),true) by rw [←HF.out,List.take_length])
   clear HF
   go_wp2_with fail
   go_ret2
   refine ⟨?_,hb⟩
   rw [HE.out]
   rfl
theorem tuple_fit (z:Int) (b:Bool) (p:Int×Bool) (h:p=(z,b)):Ending.returned (.tuple #[.int .i64 z,.bool b])=.returned (.tuple #[.int .i64 p.1,.bool p.2]):=by rw [h]
set_option maxHeartbeats 1000000 in
theorem fit_at (t:Tm):FitAt t:=by
 induction t using Tm.induct with
 | h k n s A c a ih0 =>
  intro nodes depth w hat hn hd
  have hl:=hat.lst
  have hsz:s.size≤9223372036854775807:=by have:=((At_iff _ _).1 hat).1.2.2;unfold maxLen at this;exact this
  have hlen:a.length≤9223372036854775807:=by have:=hl.1;have:=hl.2.1;simp only [Tm.args,Tm.cap] at *;unfold maxLen at *;omega
  show Calls Tryz.prog 209 #[.agg #[.int .i64 k,.int .i64 n,.string s,.slice A a.length c],.int .i64 (nodes:Int),.int .i64 (depth:Int)] w _
  by_cases hn0:nodes=0
  ·have HV:=Lib.hid (show (Tm.mk k n s A c a).fit nodes depth=(0,false) by subst hn0;simp [Tm.fit])
   have e0:((nodes:Int)==0)=true:=by simp [hn0]
   clear hn0 ih0 hl
   go_enter Tryz.func209,Tryz.ntmps209
   go_wp2_with fail
   go_ret2
   exact ⟨tuple_fit _ _ _ HV.out,(Below.refl _ _).alloc (Nat.le_refl _) _⟩
  have e0:((nodes:Int)==0)=false:=by simp [hn0]
  by_cases hd0:depth=0
  ·have HV:=Lib.hid (show (Tm.mk k n s A c a).fit nodes depth=(0,false) by subst hd0;simp [Tm.fit])
   have e1:((depth:Int)==0)=true:=by simp [hd0]
   clear hd0 ih0 hl
   go_enter Tryz.func209,Tryz.ntmps209
   go_wp2_with fail
   go_ret2
   exact ⟨tuple_fit _ _ _ HV.out,(Below.refl _ _).alloc (Nat.le_refl _) _⟩
  have e1:((depth:Int)==0)=false:=by simp [hd0]
  have hg:¬((nodes:Int)=0∨(depth:Int)=0):=by omega
  by_cases hk0:k=0
  ·subst hk0
   clear ih0 hl
   obtain ⟨b1,hb1⟩:∃b,plainB (.mk 0 n s A c a)=b:=⟨_,rfl⟩
   have q1:=Lib.hid (fun W=>plain_at (.mk 0 n s A c a) W hlen hb1)
   have HV0:(Tm.mk 0 n s A c a).fit nodes depth=((nodes:Int) - 1,b1&&(decide (-2147483648≤n)&&decide (n≤2147483648))):=by
    simp only [Tm.fit]
    rw [if_neg hg,hb1]
    simp
   clear hb1
   cases b1
   ·have HV:=Lib.hid HV0
    clear HV0
    go_enter Tryz.func209,Tryz.ntmps209
    go_wp2_with fail
    have kb:=boxed4 w (.int .i64 0) (.int .i64 n) (.string s) (.slice A a.length c) 69
    obtain ⟨kb0,kb1,kb2,kb3⟩:=kb
    refine wp_region_quiet_below (by kernel_rfl) (by kernel_rfl) ?_
    repeat (go_big_quiet_step ((go_at_call 222;exact Calls.regrown_of (q1.out _))))
    refine wpQuiet_nil ?_
    intro _ hw'
    obtain ⟨⟨nd,nos⟩,hw''⟩:=hw'
    subst hw''
    go_wp2_with fail
    go_ret2
    exact ⟨tuple_fit _ _ _ HV.out,((Below.refl _ _).alloc (Nat.le_refl _) _).trans ((below_regrown _ nd nos).mono (by simp))⟩
   ·by_cases h1 : -2147483648≤n
    ·by_cases h2:n≤2147483648
     ·have HV:=Lib.hid (show (Tm.mk 0 n s A c a).fit nodes depth=((nodes:Int) - 1,true) by rw [HV0];simp [h1,h2])
      clear HV0
      go_enter Tryz.func209,Tryz.ntmps209
      go_wp2_with fail
      have kb:=boxed4 w (.int .i64 0) (.int .i64 n) (.string s) (.slice A a.length c) 69
      obtain ⟨kb0,kb1,kb2,kb3⟩:=kb
      refine wp_region_quiet_below (by kernel_rfl) (by kernel_rfl) ?_
      repeat (go_big_quiet_step ((go_at_call 222;exact Calls.regrown_of (q1.out _))))
      refine wpQuiet_nil ?_
      intro _ hw'
      obtain ⟨⟨nd,nos⟩,hw''⟩:=hw'
      subst hw''
      go_wp2_with fail
      go_ret2
      exact ⟨tuple_fit _ _ _ HV.out,((Below.refl _ _).alloc (Nat.le_refl _) _).trans ((below_regrown _ nd nos).mono (by simp))⟩
     ·have HV:=Lib.hid (show (Tm.mk 0 n s A c a).fit nodes depth=((nodes:Int) - 1,false) by rw [HV0];simp [h1,h2])
      have h2':decide (n≤2147483648)=false:=by simpa using h2
      clear HV0 h2
      go_enter Tryz.func209,Tryz.ntmps209
      go_wp2_with fail
      have kb:=boxed4 w (.int .i64 0) (.int .i64 n) (.string s) (.slice A a.length c) 69
      obtain ⟨kb0,kb1,kb2,kb3⟩:=kb
      refine wp_region_quiet_below (by kernel_rfl) (by kernel_rfl) ?_
      repeat (go_big_quiet_step ((go_at_call 222;exact Calls.regrown_of (q1.out _))))
      refine wpQuiet_nil ?_
      intro _ hw'
      obtain ⟨⟨nd,nos⟩,hw''⟩:=hw'
      subst hw''
      go_wp2_with fail
      go_ret2
      exact ⟨tuple_fit _ _ _ HV.out,((Below.refl _ _).alloc (Nat.le_refl _) _).trans ((below_regrown _ nd nos).mono (by simp))⟩
    ·have HV:=Lib.hid (show (Tm.mk 0 n s A c a).fit nodes depth=((nodes:Int) - 1,false) by rw [HV0];simp [h1])
     have h1':decide (-2147483648≤n)=false:=by simpa using h1
     clear HV0 h1
     go_enter Tryz.func209,Tryz.ntmps209
     go_wp2_with fail
     have kb:=boxed4 w (.int .i64 0) (.int .i64 n) (.string s) (.slice A a.length c) 69
     obtain ⟨kb0,kb1,kb2,kb3⟩:=kb
     refine wp_region_quiet_below (by kernel_rfl) (by kernel_rfl) ?_
     repeat (go_big_quiet_step ((go_at_call 222;exact Calls.regrown_of (q1.out _))))
     refine wpQuiet_nil ?_
     intro _ hw'
     obtain ⟨⟨nd,nos⟩,hw''⟩:=hw'
     subst hw''
     go_wp2_with fail
     go_ret2
     exact ⟨tuple_fit _ _ _ HV.out,((Below.refl _ _).alloc (Nat.le_refl _) _).trans ((below_regrown _ nd nos).mono (by simp))⟩
  have k0:(k==0)=false:=by simp [hk0]
  by_cases hk1:k=1
  ·subst hk1
   clear ih0 hl
   obtain ⟨b1,hb1⟩:∃b,plainB (.mk 1 n s A c a)=b:=⟨_,rfl⟩
   have q1:=Lib.hid (fun W=>plain_at (.mk 1 n s A c a) W hlen hb1)
   have HV0:(Tm.mk 1 n s A c a).fit nodes depth=((nodes:Int) - 1,b1&&(decide (0≤n)&&decide (n≤1048576))):=by
    simp only [Tm.fit]
    rw [if_neg hg,hb1]
    simp
   clear hb1
   cases b1
   ·have HV:=Lib.hid HV0
    clear HV0
    go_enter Tryz.func209,Tryz.ntmps209
    go_wp2_with fail
    have kb:=boxed4 w (.int .i64 1) (.int .i64 n) (.string s) (.slice A a.length c) 69
    obtain ⟨kb0,kb1,kb2,kb3⟩:=kb
    refine wp_region_quiet_below (by kernel_rfl) (by kernel_rfl) ?_
    repeat (go_big_quiet_step ((go_at_call 222;exact Calls.regrown_of (q1.out _))))
    refine wpQuiet_nil ?_
    intro _ hw'
    obtain ⟨⟨nd,nos⟩,hw''⟩:=hw'
    subst hw''
    go_wp2_with fail
    go_ret2
    exact ⟨tuple_fit _ _ _ HV.out,((Below.refl _ _).alloc (Nat.le_refl _) _).trans ((below_regrown _ nd nos).mono (by simp))⟩
   ·by_cases h1:0≤n
    ·by_cases h2:n≤1048576
     ·have HV:=Lib.hid (show (Tm.mk 1 n s A c a).fit nodes depth=((nodes:Int) - 1,true) by rw [HV0];simp [h1,h2])
      clear HV0
      go_enter Tryz.func209,Tryz.ntmps209
      go_wp2_with fail
      have kb:=boxed4 w (.int .i64 1) (.int .i64 n) (.string s) (.slice A a.length c) 69
      obtain ⟨kb0,kb1,kb2,kb3⟩:=kb
      refine wp_region_quiet_below (by kernel_rfl) (by kernel_rfl) ?_
      repeat (go_big_quiet_step ((go_at_call 222;exact Calls.regrown_of (q1.out _))))
      refine wpQuiet_nil ?_
      intro _ hw'
      obtain ⟨⟨nd,nos⟩,hw''⟩:=hw'
      subst hw''
      go_wp2_with fail
      go_ret2
      exact ⟨tuple_fit _ _ _ HV.out,((Below.refl _ _).alloc (Nat.le_refl _) _).trans ((below_regrown _ nd nos).mono (by simp))⟩
     ·have HV:=Lib.hid (show (Tm.mk 1 n s A c a).fit nodes depth=((nodes:Int) - 1,false) by rw [HV0];simp [h1,h2])
      have h2':decide (n≤1048576)=false:=by simpa using h2
      clear HV0 h2
      go_enter Tryz.func209,Tryz.ntmps209
      go_wp2_with fail
      have kb:=boxed4 w (.int .i64 1) (.int .i64 n) (.string s) (.slice A a.length c) 69
      obtain ⟨kb0,kb1,kb2,kb3⟩:=kb
      refine wp_region_quiet_below (by kernel_rfl) (by kernel_rfl) ?_
      repeat (go_big_quiet_step ((go_at_call 222;exact Calls.regrown_of (q1.out _))))
      refine wpQuiet_nil ?_
      intro _ hw'
      obtain ⟨⟨nd,nos⟩,hw''⟩:=hw'
      subst hw''
      go_wp2_with fail
      go_ret2
      exact ⟨tuple_fit _ _ _ HV.out,((Below.refl _ _).alloc (Nat.le_refl _) _).trans ((below_regrown _ nd nos).mono (by simp))⟩
    ·have HV:=Lib.hid (show (Tm.mk 1 n s A c a).fit nodes depth=((nodes:Int) - 1,false) by rw [HV0];simp [h1])
     have h1':decide (0≤n)=false:=by simpa using h1
     clear HV0 h1
     go_enter Tryz.func209,Tryz.ntmps209
     go_wp2_with fail
     have kb:=boxed4 w (.int .i64 1) (.int .i64 n) (.string s) (.slice A a.length c) 69
     obtain ⟨kb0,kb1,kb2,kb3⟩:=kb
     refine wp_region_quiet_below (by kernel_rfl) (by kernel_rfl) ?_
     repeat (go_big_quiet_step ((go_at_call 222;exact Calls.regrown_of (q1.out _))))
     refine wpQuiet_nil ?_
     intro _ hw'
     obtain ⟨⟨nd,nos⟩,hw''⟩:=hw'
     subst hw''
     go_wp2_with fail
     go_ret2
     exact ⟨tuple_fit _ _ _ HV.out,((Below.refl _ _).alloc (Nat.le_refl _) _).trans ((below_regrown _ nd nos).mono (by simp))⟩
  have k1:(k==1)=false:=by simp [hk1]
  by_cases hk2:k=2
  ·subst hk2
   by_cases hn1:n=0
   ·subst hn1
    obtain ⟨b1,hb1⟩:∃b,funcB s.data.toList a.length=b:=⟨_,rfl⟩
    have q1:=Lib.hid (fun W=>func_at s a.length W hsz hlen hb1)
    have hn':(nodes:Int) - 1=((nodes - 1:Nat):Int):=by omega
    have hd':(depth:Int) - 1=((depth - 1:Nat):Int):=by omega
    cases b1
    ·have HV:=Lib.hid (show (Tm.mk 2 0 s A c a).fit nodes depth=(0,false) by simp only [Tm.fit];rw [if_neg hg,hb1];simp)
     clear ih0 hl hb1 hn' hd'
     go_enter Tryz.func209,Tryz.ntmps209
     go_wp2_with fail
     refine (q1.out _).mono ?_
     rintro e w' ⟨rfl,rfl⟩
     go_wp2_with fail
     go_ret2
     exact ⟨tuple_fit _ _ _ HV.out,(Below.refl _ _).alloc (Nat.le_refl _) _⟩
    ·have HV:=Lib.hid (show (Tm.mk 2 0 s A c a).fit nodes depth=fitL a ((nodes:Int) - 1) ((depth:Int) - 1) by simp only [Tm.fit];rw [if_neg hg,hb1];simp)
     have q2:=Lib.hid (fun W h=>fitL_at a ih0 A c (nodes - 1) (depth - 1) W h (by omega) (by omega))
     rw [←hn',← hd'] at q2
     have HL:=Lib.hid (show Lst (w.alloc (.cells #[.int .i64 2,.int .i64 0,.string s,.slice A a.length c] 69)) A a c from hl.below ((Below.refl _ _).alloc (Nat.le_refl _) _))
     clear ih0 hl hb1 hn' hd'
     go_enter Tryz.func209,Tryz.ntmps209
     go_wp2_with fail
     refine (q1.out _).mono ?_
     rintro e w' ⟨rfl,rfl⟩
     go_wp2_with fail
     refine (q2.out _ HL.out).mono ?_
     rintro e w2 ⟨rfl,hb2⟩
     go_wp2_with fail
     go_ret2
     refine ⟨?_,((Below.refl _ _).alloc (Nat.le_refl _) _).trans (hb2.mono (by simp))⟩
     rw [HV.out]
     rfl
   ·have HV:=Lib.hid (show (Tm.mk 2 n s A c a).fit nodes depth=(0,false) by simp only [Tm.fit];rw [if_neg hg];simp [hn1])
    have hn1':(n != 0)=true:=by simp [hn1]
    clear ih0 hl
    go_enter Tryz.func209,Tryz.ntmps209
    go_wp2_with fail
    go_ret2
    exact ⟨tuple_fit _ _ _ HV.out,(Below.refl _ _).alloc (Nat.le_refl _) _⟩
  ·have HV:=Lib.hid (show (Tm.mk k n s A c a).fit nodes depth=(0,false) by simp only [Tm.fit];rw [if_neg hg];simp [hk0,hk1,hk2])
   have k2:(k==2)=false:=by simp [hk2]
   clear ih0 hl
   go_enter Tryz.func209,Tryz.ntmps209
   go_wp2_with fail
   go_ret2
   exact ⟨tuple_fit _ _ _ HV.out,(Below.refl _ _).alloc (Nat.le_refl _) _⟩
end Go.Proofs.YtnghanpmmbcbbaaGreatDoor
namespace Go.Proofs.YtnghanpmmbcbbaaGreatDoor
open Go.RowKit
theorem args_at (t:Tm) (w:World) :
  Calls Tryz.prog 103 #[t.val] w fun e w'=>e=.returned (.slice t.uat t.used.length t.ucap)∧Below w.heap.size w w':=by
 obtain ⟨k,n,s,A,c,a⟩:=t
 show Calls Tryz.prog 103 #[.agg #[.int .i64 k,.int .i64 n,.string s,.slice A a.length c]] w _
 by_cases hk:k=2
 ·have HV:=Lib.hid (show (Tm.mk k n s A c a).uat=A∧(Tm.mk k n s A c a).used=a∧(Tm.mk k n s A c a).ucap=c by simp [Tm.uat,Tm.used,Tm.ucap,Tm.kind,Tm.at_,Tm.args,Tm.cap,hk])
  have hk':(k==2)=true:=by simp [hk]
  clear hk
  go_enter Tryz.func103,Tryz.ntmps103
  go_wp2
  go_ret
  obtain ⟨h1,h2,h3⟩:=HV.out
  exact ⟨by rw [h1,h2,h3];rfl,(Below.refl _ _).alloc (Nat.le_refl _) _⟩
 ·have HV:=Lib.hid (show (Tm.mk k n s A c a).uat=none∧(Tm.mk k n s A c a).used=[]∧(Tm.mk k n s A c a).ucap=0 by simp [Tm.uat,Tm.used,Tm.ucap,Tm.kind,hk])
  have hk':(k==2)=false:=by simp [hk]
  clear hk
  go_enter Tryz.func103,Tryz.ntmps103
  go_wp2
  go_ret
  obtain ⟨h1,h2,h3⟩:=HV.out
  exact ⟨by rw [h1,h2,h3];rfl,(Below.refl _ _).alloc (Nat.le_refl _) _⟩
end Go.Proofs.YtnghanpmmbcbbaaGreatDoor
namespace Go.Proofs.YtnghanpmmbcbbaaGreatDoor
open Go.RowKit Go.Sort
def rightL (l:List Tm):Bool:=formL l&&(decide (sizeL l≤200)&&decide (depthL l≤20))
theorem together_at (l:List Tm) (A:Option Addr) (c:Nat) (w:World) (hl:Lst w A l c) {r:Bool} (hr:rightL l=r) :
  Calls Tryz.prog 153 #[.slice A l.length c] w fun e w'=>e=.returned (.bool r)∧Below w.heap.size w w':=by
 have Q:=Lib.hid (fitL_at l (fun x _=>fit_at x) A c 200 20 w hl (by omega) (by omega))
 have HR:=Lib.hid (show (fitL l ((200:Nat):Int) ((20:Nat):Int)).2=r from ((fit_form.2 l 200 20).1).trans hr)
 generalize fitL l ((200:Nat):Int) ((20:Nat):Int)=p at *
 clear hr
 obtain ⟨z,b⟩:=p
 go_enter Tryz.func153,Tryz.ntmps153
 go_wp2_with fail
 refine (Q.out).mono ?_
 rintro e w1 ⟨rfl,hb⟩
 go_wp2_with fail
 go_ret
 exact ⟨by rw [←HR.out];rfl,hb⟩
end Go.Proofs.YtnghanpmmbcbbaaGreatDoor
namespace Go.Proofs.YtnghanpmmbcbbaaGreatDoor
open Go.RowKit Go.Sort
theorem rights_all (l:List Tm):(l.all Tm.right&&decide (sizeL l≤200))=rightL l:=by
 have key:∀m:List Tm,sizeL m≤200→m.all Tm.right=(formL m&&decide (depthL m≤20)):=by
  intro m
  induction m with
  | nil=>intro _;rfl
  | cons t r ih =>
   intro h
   simp only [sizeL] at h
   rw [List.all_cons,ih (by omega),Bool.eq_iff_iff]
   have e:depthL (t :: r)=max t.depth (depthL r):=by simp [depthL]
   simp only [Tm.right,formL,Bool.and_eq_true,decide_eq_true_eq]
   constructor
   ·rintro ⟨⟨h1,h2,h3⟩,h4,h5⟩
    exact ⟨⟨h1,h4⟩,by omega⟩
   ·rintro ⟨⟨h1,h4⟩,h5⟩
    exact ⟨⟨h1,by omega,by omega⟩,h4,by omega⟩
 unfold rightL
 by_cases h:sizeL l≤200
 ·rw [key l h];simp [h]
 ·simp [h]
end Go.Proofs.YtnghanpmmbcbbaaGreatDoor
namespace Go.Proofs.YtnghanpmmbcbbaaGreatDoor
open Go.RowKit Go.Sort
structure Am where
 name:ByteArray
 at_:Option Addr
 cap:Nat
 args:List Tm
abbrev Am.val (a:Am):Value:=.agg #[.string a.name,.slice a.at_ a.args.length a.cap]
def Am.At (w:World) (a:Am):Prop:=a.name.size≤maxLen∧Lst w a.at_ a.args a.cap
structure Gl where
 op:Int
 name:ByteArray
 at_:Option Addr
 cap:Nat
 args:List Tm
abbrev Gl.val (g:Gl):Value:=.agg #[.int .i64 g.op,.string g.name,.slice g.at_ g.args.length g.cap]
def Gl.At (w:World) (g:Gl):Prop:=Fits g.op∧g.name.size≤maxLen∧Lst w g.at_ g.args g.cap
theorem Am.At.below {w w':World} {a:Am} (h:a.At w) (hb:Below w.heap.size w w'):a.At w':=⟨h.1,h.2.below hb⟩
theorem Gl.At.below {w w':World} {g:Gl} (h:g.At w) (hb:Below w.heap.size w w'):g.At w':=⟨h.1,h.2.1,h.2.2.below hb⟩
instance:Inhabited Am:=⟨⟨ByteArray.empty,none,0,[]⟩⟩
instance:Inhabited Gl:=⟨⟨0,ByteArray.empty,none,0,[]⟩⟩
def atomB (s:List UInt8) (l:List Tm):Bool:=rightB s&&(decide (l.length≤6)&&rightL l)
def arity (op:Int):Int:=if op=1∨op=2 then 0 else if op=11∨op=12 then 1 else if 2 < op∧op < 11 then 2 else -1
def builtinB (s:ByteArray) (l:List Tm) (n:Int):Bool:=decide (s.size=0)&&(decide ((l.length:Int)=n)&&rightL l)
def goalB (op:Int) (s:ByteArray) (l:List Tm):Bool:=if op=0 then atomB s.data.toList l else builtinB s l (arity op)
theorem Lst.len {w:World} {A:Option Addr} {l:List Tm} {c:Nat} (h:Lst w A l c):l.length≤9223372036854775807:=by have:=h.1;have:=h.2.1;unfold maxLen at *;omega
theorem right_atom_at (a:Am) (w:World) (ha:a.At w) {r:Bool} (hr:atomB a.name.data.toList a.args=r) :
  Calls Tryz.prog 114 #[a.val] w fun e w'=>e=.returned (.bool r)∧Below w.heap.size w w':=by
 obtain ⟨s,A,c,l⟩:=a
 have hl:Lst w A l c:=ha.2
 have hs:s.size≤9223372036854775807:=by have h:=ha.1;unfold maxLen at h;exact h
 have hlen:=hl.len
 show Calls Tryz.prog 114 #[.agg #[.string s,.slice A l.length c]] w _
 obtain ⟨b1,h1⟩:∃b,rightB s.data.toList=b:=⟨_,rfl⟩
 obtain ⟨b3,h3⟩:∃b,rightL l=b:=⟨_,rfl⟩
 have q1:=Lib.hid (fun W=>right_at s W hs h1)
 have q3:=Lib.hid (fun W (h:Below w.heap.size w W)=>together_at l A c W (hl.below h) h3)
 have HV:=Lib.hid (show (b1&&(decide (l.length≤6)&&b3))=r by rw [←hr,← h1,← h3];rfl)
 clear h1 h3 hr ha hl
 cases b1
 ·go_enter Tryz.func114,Tryz.ntmps114
  go_wp2_with fail
  refine (q1.out _).mono ?_
  rintro e w' ⟨rfl,rfl⟩
  go_wp2_with fail
  go_ret
  exact ⟨by rw [←HV.out];rfl,below1 _ _⟩
 ·by_cases h6:l.length≤6
  ·have h6':(l.length:Int)≤6:=by omega
   have HV':=Lib.hid (show b3=r by rw [←HV.out];simp [h6])
   clear HV h6
   go_enter Tryz.func114,Tryz.ntmps114
   go_wp2_with fail
   refine (q1.out _).mono ?_
   rintro e w' ⟨rfl,rfl⟩
   go_wp2_with fail
   refine (q3.out _ (below1 _ _)).mono ?_
   rintro e w' ⟨rfl,hb⟩
   go_wp2_with fail
   go_ret
   exact ⟨by rw [←HV'.out];rfl,(below1 _ _).trans (hb.mono (by simp))⟩
  ·have h6':decide ((l.length:Int)≤6)=false:=by simp;omega
   have HV':=Lib.hid (show false=r by rw [←HV.out];simp [h6])
   clear HV h6
   go_enter Tryz.func114,Tryz.ntmps114
   go_wp2_with fail
   refine (q1.out _).mono ?_
   rintro e w' ⟨rfl,rfl⟩
   go_wp2_with fail
   go_ret
   exact ⟨by rw [←HV'.out];rfl,below1 _ _⟩
theorem builtin_at (g:Gl) (n:Int) (w:World) (ha:g.At w) {r:Bool} (hr:builtinB g.name g.args n=r) :
  Calls Tryz.prog 132 #[g.val,.int .i64 n] w fun e w'=>e=.returned (.bool r)∧Below w.heap.size w w':=by
 obtain ⟨op,s,A,c,l⟩:=g
 have hl:Lst w A l c:=ha.2.2
 have hlen:=hl.len
 show Calls Tryz.prog 132 #[.agg #[.int .i64 op,.string s,.slice A l.length c],.int .i64 n] w _
 obtain ⟨b1,h1⟩:∃b,decide (s.size=0)=b:=⟨_,rfl⟩
 obtain ⟨b2,h2⟩:∃b,decide ((l.length:Int)=n)=b:=⟨_,rfl⟩
 obtain ⟨b3,h3⟩:∃b,rightL l=b:=⟨_,rfl⟩
 have q3:=Lib.hid (fun W (h:Below w.heap.size w W)=>together_at l A c W (hl.below h) h3)
 have HV:=Lib.hid (show (b1&&(b2&&b3))=r by rw [←hr,← h1,← h2,← h3];rfl)
 have e1:s.toList.isEmpty=b1:=by rw [empty_iff,h1]
 have e2:((l.length:Int)==n)=b2:=by rw [←h2,Bool.eq_iff_iff];simp
 clear h1 h2 h3 hr ha hl
 cases b1
 ·clear e2
  go_enter Tryz.func132,Tryz.ntmps132
  go_wp2_with fail
  go_ret
  exact ⟨by rw [←HV.out];rfl,below1 _ _⟩
 ·cases b2
  ·go_enter Tryz.func132,Tryz.ntmps132
   go_wp2_with fail
   go_ret
   exact ⟨by rw [←HV.out];rfl,below1 _ _⟩
  ·go_enter Tryz.func132,Tryz.ntmps132
   go_wp2_with fail
   refine (q3.out _ (below1 _ _)).mono ?_
   rintro e w' ⟨rfl,hb⟩
   go_wp2_with fail
   go_ret
   exact ⟨by rw [←HV.out];rfl,(below1 _ _).trans (hb.mono (by simp))⟩
set_option maxHeartbeats 1000000 in
theorem right_goal_at (g:Gl) (w:World) (ha:g.At w) {r:Bool} (hr:goalB g.op g.name g.args=r) :
  Calls Tryz.prog 90 #[g.val] w fun e w'=>e=.returned (.bool r)∧Below w.heap.size w w':=by
 obtain ⟨op,s,A,c,l⟩:=g
 have hlen:=Lst.len ha.2.2
 simp only at hr
 have q1:=Lib.hid (fun W (h:Below w.heap.size w W) {r:Bool}=>right_atom_at ⟨s,A,c,l⟩ W ⟨ha.2.1,ha.2.2.below h⟩ (r:=r))
 have q2:=Lib.hid (fun n W (h:Below w.heap.size w W) {r:Bool}=>builtin_at ⟨op,s,A,c,l⟩ n W (ha.below h) (r:=r))
 have HR:=Lib.hid hr
 clear ha hr
 show Calls Tryz.prog 90 #[.agg #[.int .i64 op,.string s,.slice A l.length c]] w _
 by_cases h0:op=0
 ·subst h0
  have HV:=Lib.hid (show atomB s.data.toList l=r by rw [←HR.out];rfl)
  go_enter Tryz.func90,Tryz.ntmps90
  go_wp2_with fail
  refine (q1.out _ (below1 _ _) HV.out).mono ?_
  rintro e w' ⟨rfl,hb⟩
  go_wp2_with fail
  go_ret
  exact ⟨rfl,(below1 _ _).trans (hb.mono (by simp))⟩
 have e0:(op==0)=false:=by simp [h0]
 by_cases h1:op=1
 ·subst h1
  have HV:=Lib.hid (show builtinB s l 0=r by rw [←HR.out];simp [goalB,arity])
  go_enter Tryz.func90,Tryz.ntmps90
  go_wp2_with fail
  refine (q2.out _ _ (below1 _ _) HV.out).mono ?_
  rintro e w' ⟨rfl,hb⟩
  go_wp2_with fail
  go_ret
  exact ⟨rfl,(below1 _ _).trans (hb.mono (by simp))⟩
 have e1:(op==1)=false:=by simp [h1]
 by_cases h2:op=2
 ·subst h2
  have HV:=Lib.hid (show builtinB s l 0=r by rw [←HR.out];simp [goalB,arity])
  go_enter Tryz.func90,Tryz.ntmps90
  go_wp2_with fail
  refine (q2.out _ _ (below1 _ _) HV.out).mono ?_
  rintro e w' ⟨rfl,hb⟩
  go_wp2_with fail
  go_ret
  exact ⟨rfl,(below1 _ _).trans (hb.mono (by simp))⟩
 have e2:(op==2)=false:=by simp [h2]
 by_cases h11:op=11
 ·subst h11
  have HV:=Lib.hid (show builtinB s l 1=r by rw [←HR.out];simp [goalB,arity])
  go_enter Tryz.func90,Tryz.ntmps90
  go_wp2_with fail
  refine (q2.out _ _ (below1 _ _) HV.out).mono ?_
  rintro e w' ⟨rfl,hb⟩
  go_wp2_with fail
  go_ret
  exact ⟨rfl,(below1 _ _).trans (hb.mono (by simp))⟩
 have e11:(op==11)=false:=by simp [h11]
 by_cases h12:op=12
 ·subst h12
  have HV:=Lib.hid (show builtinB s l 1=r by rw [←HR.out];simp [goalB,arity])
  go_enter Tryz.func90,Tryz.ntmps90
  go_wp2_with fail
  refine (q2.out _ _ (below1 _ _) HV.out).mono ?_
  rintro e w' ⟨rfl,hb⟩
  go_wp2_with fail
  go_ret
  exact ⟨rfl,(below1 _ _).trans (hb.mono (by simp))⟩
 have e12:(op==12)=false:=by simp [h12]
 by_cases h3:op=3
 ·subst h3
  have HV:=Lib.hid (show builtinB s l 2=r by rw [←HR.out];simp [goalB,arity])
  go_enter Tryz.func90,Tryz.ntmps90
  go_wp2_with fail
  refine (q2.out _ _ (below1 _ _) HV.out).mono ?_
  rintro e w' ⟨rfl,hb⟩
  go_wp2_with fail
  go_ret
  exact ⟨rfl,(below1 _ _).trans (hb.mono (by simp))⟩
 have e3:(op==3)=false:=by simp [h3]
 by_cases h4:op=4
 ·subst h4
  have HV:=Lib.hid (show builtinB s l 2=r by rw [←HR.out];simp [goalB,arity])
  go_enter Tryz.func90,Tryz.ntmps90
  go_wp2_with fail
  refine (q2.out _ _ (below1 _ _) HV.out).mono ?_
  rintro e w' ⟨rfl,hb⟩
  go_wp2_with fail
  go_ret
  exact ⟨rfl,(below1 _ _).trans (hb.mono (by simp))⟩
 have e4:(op==4)=false:=by simp [h4]
 by_cases h5:op=5
 ·subst h5
  have HV:=Lib.hid (show builtinB s l 2=r by rw [←HR.out];simp [goalB,arity])
  go_enter Tryz.func90,Tryz.ntmps90
  go_wp2_with fail
  refine (q2.out _ _ (below1 _ _) HV.out).mono ?_
  rintro e w' ⟨rfl,hb⟩
  go_wp2_with fail
  go_ret
  exact ⟨rfl,(below1 _ _).trans (hb.mono (by simp))⟩
 have e5:(op==5)=false:=by simp [h5]
 by_cases h6:op=6
 ·subst h6
  have HV:=Lib.hid (show builtinB s l 2=r by rw [←HR.out];simp [goalB,arity])
  go_enter Tryz.func90,Tryz.ntmps90
  go_wp2_with fail
  refine (q2.out _ _ (below1 _ _) HV.out).mono ?_
  rintro e w' ⟨rfl,hb⟩
  go_wp2_with fail
  go_ret
  exact ⟨rfl,(below1 _ _).trans (hb.mono (by simp))⟩
 have e6:(op==6)=false:=by simp [h6]
 by_cases h7:op=7
 ·subst h7
  have HV:=Lib.hid (show builtinB s l 2=r by rw [←HR.out];simp [goalB,arity])
  go_enter Tryz.func90,Tryz.ntmps90
  go_wp2_with fail
  refine (q2.out _ _ (below1 _ _) HV.out).mono ?_
  rintro e w' ⟨rfl,hb⟩
  go_wp2_with fail
  go_ret
  exact ⟨rfl,(below1 _ _).trans (hb.mono (by simp))⟩
 have e7:(op==7)=false:=by simp [h7]
 by_cases h8:op=8
 ·subst h8
  have HV:=Lib.hid (show builtinB s l 2=r by rw [←HR.out];simp [goalB,arity])
  go_enter Tryz.func90,Tryz.ntmps90
  go_wp2_with fail
  refine (q2.out _ _ (below1 _ _) HV.out).mono ?_
  rintro e w' ⟨rfl,hb⟩
  go_wp2_with fail
  go_ret
  exact ⟨rfl,(below1 _ _).trans (hb.mono (by simp))⟩
 have e8:(op==8)=false:=by simp [h8]
 by_cases h9:op=9
 ·subst h9
  have HV:=Lib.hid (show builtinB s l 2=r by rw [←HR.out];simp [goalB,arity])
  go_enter Tryz.func90,Tryz.ntmps90
  go_wp2_with fail
  refine (q2.out _ _ (below1 _ _) HV.out).mono ?_
  rintro e w' ⟨rfl,hb⟩
  go_wp2_with fail
  go_ret
  exact ⟨rfl,(below1 _ _).trans (hb.mono (by simp))⟩
 have e9:(op==9)=false:=by simp [h9]
 by_cases h10:op=10
 ·subst h10
  have HV:=Lib.hid (show builtinB s l 2=r by rw [←HR.out];simp [goalB,arity])
  go_enter Tryz.func90,Tryz.ntmps90
  go_wp2_with fail
  refine (q2.out _ _ (below1 _ _) HV.out).mono ?_
  rintro e w' ⟨rfl,hb⟩
  go_wp2_with fail
  go_ret
  exact ⟨rfl,(below1 _ _).trans (hb.mono (by simp))⟩
 have e10:(op==10)=false:=by simp [h10]
 have HV:=Lib.hid (show false=r by
  have:arity op = -1:=by unfold arity;rw [if_neg (by omega),if_neg (by omega),if_neg (by omega)]
  rw [←HR.out]
  simp only [goalB,h0,if_false,this,builtinB]
  have:decide ((l.length:Int) = -1)=false:=by simp
  rw [this]
  simp)
 clear h0 h1 h2 h3 h4 h5 h6 h7 h8 h9 h10 h11 h12 q1 q2
 go_enter Tryz.func90,Tryz.ntmps90
 go_wp2_with fail
 go_ret
 exact ⟨by rw [←HV.out];rfl,below1 _ _⟩
end Go.Proofs.YtnghanpmmbcbbaaGreatDoor
