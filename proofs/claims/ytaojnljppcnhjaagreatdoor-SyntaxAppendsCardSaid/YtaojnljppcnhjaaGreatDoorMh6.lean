/-
  TmFit.
  TmSize.
  TmForm.
 TmRef.
-/
import Derived.Test.YtaojnljppcnhjaaGreatDoorMh5
import Derived.Test.YtaojnljppcnhjaaGreatDoorMh1
import Derived.BigQuiet
import Derived.Lib.QuietBelow
import Derived.Test.YtaojnljppcnhjaaGreatDoorProg
import Derived.Outline
import Derived.WalkLawsBesides
namespace Go.Proofs.YtaojnljppcnhjaaGreatDoor
open Go.RowKit Go.Sort
theorem boxed4 (w:World) (v0 v1 v2 v3:Value) (T:TypeId) :
  (∀d os,(grow (redrawn (w.alloc (.cells #[v0,v1,v2,v3] T)) d) os).cell? ⟨w.heap.size,0,none⟩=some v0)∧(∀d os,(grow (redrawn (w.alloc (.cells #[v0,v1,v2,v3] T)) d) os).cell? ⟨w.heap.size,1,none⟩=some v1) ∧
  (∀d os,(grow (redrawn (w.alloc (.cells #[v0,v1,v2,v3] T)) d) os).cell? ⟨w.heap.size,2,none⟩=some v2)∧(∀d os,(grow (redrawn (w.alloc (.cells #[v0,v1,v2,v3] T)) d) os).cell? ⟨w.heap.size,3,none⟩=some v3):=by
 have h:∀j v,(#[v0,v1,v2,v3]:Array Value)[j]?=some v→(w.alloc (.cells #[v0,v1,v2,v3] T)).cell? ⟨w.heap.size,j,none⟩=some v:=fun j v hv=>by rw [World.cell?_alloc_at _ _ _ _ rfl,hv]
 exact ⟨cell_regrown (h 0 v0 rfl),cell_regrown (h 1 v1 rfl),cell_regrown (h 2 v2 rfl),cell_regrown (h 3 v3 rfl)⟩
def FitAt (x:Tm):Prop:=∀(nodes depth:Nat) (w:World),x.At w→nodes≤1000→depth≤1000 →
  Calls Tryz.prog 159 #[x.val,.int .i64 (nodes:Int),.int .i64 (depth:Int)] w fun e w'=>e=.returned (.tuple #[.int .i64 (x.fit nodes depth).1,.bool (x.fit nodes depth).2])∧Below w.heap.size w w'
set_option maxHeartbeats 1000000 in
theorem fitL_at (l:List Tm) (ih:∀x∈l,FitAt x) (A:Option Addr) (c nodes depth:Nat) (w:World) (hl:Lst w A l c) (hn:nodes≤1000) (hd:depth≤1000) :
  Calls Tryz.prog 147 #[.slice A l.length c,.int .i64 (nodes:Int),.int .i64 (depth:Int)] w fun e w' =>
   e=.returned (.tuple #[.int .i64 (fitL l nodes depth).1,.bool (fitL l nodes depth).2])∧Below w.heap.size w w':=by
 have hlen:l.length≤9223372036854775807:=by have:=hl.1;have:=hl.2.1;unfold maxLen at *;omega
 have QI:=Lib.hid ih
 clear ih
 go_enter Tryz.func147,Tryz.ntmps147
 go_wp2_with fail
 go_loopw [6,13] (fun z i wr=>∃j m:Nat,j≤l.length∧i=.int .i64 j∧z=.int .i64 (m:Int)∧m≤1000∧Hid (fitL (l.take j) nodes depth=((m:Int),true))∧Below w.heap.size w wr) (fun _ i _=>l.length - (intOf i).toNat)
 case atStart=>exact ⟨0,nodes,Nat.zero_le _,rfl,rfl,hn,Lib.hid rfl,Below.refl _ _⟩
 case round =>
  obtain ⟨j,m,hj,rfl,rfl,hm,HF,hb⟩:=hrel
  by_cases hlt:j < l.length
  ·obtain ⟨b,o,rfl,⟨c0,c1,c2,c3⟩,hx⟩:=(hl.below hb).get hlt
   have hmem:=getD_mem hlt
   have HN:=Lib.hid (fitL_next hlt (nodes:Int) (depth:Int) (by rw [HF.out]))
   have HS:=Lib.hid (fun h=>fitL_stop hlt (nodes:Int) (depth:Int) (by rw [HF.out]) h)
   rw [HF.out] at HN HS
   generalize l.getD j default=x at *
   have Q1:=Lib.hid (QI.out x hmem m depth)
   have HX:=Lib.hid hx
   clear hx QI hmem
   obtain ⟨p,hp⟩:∃p,x.fit m depth=p:=⟨_,rfl⟩
   have HT:=Lib.hid (fun h=>fit_nat (t:=x) (nodes:=m) (depth:=depth) h)
   rw [hp] at HN HS Q1 HT
   clear hp
   obtain ⟨z,b2⟩:=p
   obtain ⟨k',n',s',A',c',a'⟩:=x
   simp only [Tm.kind,Tm.num,Tm.name,Tm.at_,Tm.args,Tm.cap] at c0 c1 c2 c3
   cases b2
   ·go_wp2_with fail
    refine (Q1.out _ (HX.out.alloc _) hm hd).mono ?_
    rintro e w2 ⟨rfl,hb3⟩
    go_wp2_with fail
    go_ret2
    refine ⟨?_,(hb.alloc hb.size _).trans (hb3.mono (by have:=hb.size;simp;omega))⟩
    rw [HS.out True.intro]
    rfl
   ·obtain ⟨m',hm',hle⟩:=HT.out rfl
    obtain rfl:z=(m':Int):=hm'
    clear HT HS
    go_wp2_with fail
    refine (Q1.out _ (HX.out.alloc _) hm hd).mono ?_
    rintro e w2 ⟨rfl,hb3⟩
    go_wp2_with fail
    go_roundw
    case rel=>exact ⟨j+1,m',by omega,by go_num,rfl,by omega,Lib.hid (by rw [HN.out];rfl),(hb.alloc hb.size _).trans (hb3.mono (by have:=hb.size;simp;omega))⟩
    case measure=>simp [intOf];omega
  ·obtain rfl:j=l.length:=by omega
   have HE:=Lib.hid (show fitL l nodes depth=((m:Int),true) by rw [←HF.out,List.take_length])
   clear HF
   go_wp2_with fail
   go_ret2
   refine ⟨?_,hb⟩
   rw [HE.out]
   rfl
theorem tuple_fit (z:Int) (b:Bool) (p:Int×Bool) (h:p=(z,b)):Ending.returned (.tuple #[.int .i64 z,.bool b])=.returned (.tuple #[.int .i64 p.1,.bool p.2]):=by rw [h]
set_option maxHeartbeats 1000000 in
theorem fit_at (t:Tm):FitAt t:=by
 induction t using Tm.induct with
 | h k n s A c a ih0 =>
  intro nodes depth w hat hn hd
  have hl:=hat.lst
  have hsz:s.size≤9223372036854775807:=by have:=((At_iff _ _).1 hat).1.2.2;unfold maxLen at this;exact this
  have hlen:a.length≤9223372036854775807:=by have:=hl.1;have:=hl.2.1;simp only [Tm.args,Tm.cap] at *;unfold maxLen at *;omega
  show Calls Tryz.prog 159 #[.agg #[.int .i64 k,.int .i64 n,.string s,.slice A a.length c],.int .i64 (nodes:Int),.int .i64 (depth:Int)] w _
  by_cases hn0:nodes=0
  ·have HV:=Lib.hid (show (Tm.mk k n s A c a).fit nodes depth=(0,false) by subst hn0;simp [Tm.fit])
   have e0:((nodes:Int)==0)=true:=by simp [hn0]
   clear hn0 ih0 hl
   go_enter Tryz.func159,Tryz.ntmps159
   go_wp2_with fail
   go_ret2
   exact ⟨tuple_fit _ _ _ HV.out,(Below.refl _ _).alloc (Nat.le_refl _) _⟩
  have e0:((nodes:Int)==0)=false:=by simp [hn0]
  by_cases hd0:depth=0
  ·have HV:=Lib.hid (show (Tm.mk k n s A c a).fit nodes depth=(0,false) by subst hd0;simp [Tm.fit])
   have e1:((depth:Int)==0)=true:=by simp [hd0]
   clear hd0 ih0 hl
   go_enter Tryz.func159,Tryz.ntmps159
   go_wp2_with fail
   go_ret2
   exact ⟨tuple_fit _ _ _ HV.out,(Below.refl _ _).alloc (Nat.le_refl _) _⟩
  have e1:((depth:Int)==0)=false:=by simp [hd0]
  have hg:¬((nodes:Int)=0∨(depth:Int)=0):=by omega
  by_cases hk0:k=0
  ·subst hk0
   clear ih0 hl
   obtain ⟨b1,hb1⟩:∃b,plainB (.mk 0 n s A c a)=b:=⟨_,rfl⟩
   have q1:=Lib.hid (fun W=>plain_at (.mk 0 n s A c a) W hlen hb1)
   have HV0:(Tm.mk 0 n s A c a).fit nodes depth=((nodes:Int) - 1,b1&&(decide (-2147483648≤n)&&decide (n≤2147483648))):=by
    simp only [Tm.fit]
    rw [if_neg hg,hb1]
    simp
   clear hb1
   cases b1
   ·have HV:=Lib.hid HV0
    clear HV0
    go_enter Tryz.func159,Tryz.ntmps159
    go_wp2_with fail
    have kb:=boxed4 w (.int .i64 0) (.int .i64 n) (.string s) (.slice A a.length c) 56
    obtain ⟨kb0,kb1,kb2,kb3⟩:=kb
    refine wp_region_quiet_below (by kernel_rfl) (by kernel_rfl) ?_
    repeat (go_big_quiet_step ((go_at_call 170;exact Calls.regrown_of (q1.out _))))
    refine wpQuiet_nil ?_
    intro _ hw'
    obtain ⟨⟨nd,nos⟩,hw''⟩:=hw'
    subst hw''
    go_wp2_with fail
    go_ret2
    exact ⟨tuple_fit _ _ _ HV.out,((Below.refl _ _).alloc (Nat.le_refl _) _).trans ((below_regrown _ nd nos).mono (by simp))⟩
   ·by_cases h1 : -2147483648≤n
    ·by_cases h2:n≤2147483648
     ·have HV:=Lib.hid (show (Tm.mk 0 n s A c a).fit nodes depth=((nodes:Int) - 1,true) by rw [HV0];simp [h1,h2])
      clear HV0
      go_enter Tryz.func159,Tryz.ntmps159
      go_wp2_with fail
      have kb:=boxed4 w (.int .i64 0) (.int .i64 n) (.string s) (.slice A a.length c) 56
      obtain ⟨kb0,kb1,kb2,kb3⟩:=kb
      refine wp_region_quiet_below (by kernel_rfl) (by kernel_rfl) ?_
      repeat (go_big_quiet_step ((go_at_call 170;exact Calls.regrown_of (q1.out _))))
      refine wpQuiet_nil ?_
      intro _ hw'
      obtain ⟨⟨nd,nos⟩,hw''⟩:=hw'
      subst hw''
      go_wp2_with fail
      go_ret2
      exact ⟨tuple_fit _ _ _ HV.out,((Below.refl _ _).alloc (Nat.le_refl _) _).trans ((below_regrown _ nd nos).mono (by simp))⟩
     ·have HV:=Lib.hid (show (Tm.mk 0 n s A c a).fit nodes depth=((nodes:Int) - 1,false) by rw [HV0];simp [h1,h2])
      have h2':decide (n≤2147483648)=false:=by simpa using h2
      clear HV0 h2
      go_enter Tryz.func159,Tryz.ntmps159
      go_wp2_with fail
      have kb:=boxed4 w (.int .i64 0) (.int .i64 n) (.string s) (.slice A a.length c) 56
      obtain ⟨kb0,kb1,kb2,kb3⟩:=kb
      refine wp_region_quiet_below (by kernel_rfl) (by kernel_rfl) ?_
      repeat (go_big_quiet_step ((go_at_call 170;exact Calls.regrown_of (q1.out _))))
      refine wpQuiet_nil ?_
      intro _ hw'
      obtain ⟨⟨nd,nos⟩,hw''⟩:=hw'
      subst hw''
      go_wp2_with fail
      go_ret2
      exact ⟨tuple_fit _ _ _ HV.out,((Below.refl _ _).alloc (Nat.le_refl _) _).trans ((below_regrown _ nd nos).mono (by simp))⟩
    ·have HV:=Lib.hid (show (Tm.mk 0 n s A c a).fit nodes depth=((nodes:Int) - 1,false) by rw [HV0];simp [h1])
     have h1':decide (-2147483648≤n)=false:=by simpa using h1
     clear HV0 h1
     go_enter Tryz.func159,Tryz.ntmps159
     go_wp2_with fail
     have kb:=boxed4 w (.int .i64 0) (.int .i64 n) (.string s) (.slice A a.length c) 56
     obtain ⟨kb0,kb1,kb2,kb3⟩:=kb
     refine wp_region_quiet_below (by kernel_rfl) (by kernel_rfl) ?_
     repeat (go_big_quiet_step ((go_at_call 170;exact Calls.regrown_of (q1.out _))))
     refine wpQuiet_nil ?_
     intro _ hw'
     obtain ⟨⟨nd,nos⟩,hw''⟩:=hw'
     subst hw''
     go_wp2_with fail
     go_ret2
     exact ⟨tuple_fit _ _ _ HV.out,((Below.refl _ _).alloc (Nat.le_refl _) _).trans ((below_regrown _ nd nos).mono (by simp))⟩
  have k0:(k==0)=false:=by simp [hk0]
  by_cases hk1:k=1
  ·subst hk1
   clear ih0 hl
   obtain ⟨b1,hb1⟩:∃b,plainB (.mk 1 n s A c a)=b:=⟨_,rfl⟩
   have q1:=Lib.hid (fun W=>plain_at (.mk 1 n s A c a) W hlen hb1)
   have HV0:(Tm.mk 1 n s A c a).fit nodes depth=((nodes:Int) - 1,b1&&(decide (0≤n)&&decide (n≤1048576))):=by
    simp only [Tm.fit]
    rw [if_neg hg,hb1]
    simp
   clear hb1
   cases b1
   ·have HV:=Lib.hid HV0
    clear HV0
    go_enter Tryz.func159,Tryz.ntmps159
    go_wp2_with fail
    have kb:=boxed4 w (.int .i64 1) (.int .i64 n) (.string s) (.slice A a.length c) 56
    obtain ⟨kb0,kb1,kb2,kb3⟩:=kb
    refine wp_region_quiet_below (by kernel_rfl) (by kernel_rfl) ?_
    repeat (go_big_quiet_step ((go_at_call 170;exact Calls.regrown_of (q1.out _))))
    refine wpQuiet_nil ?_
    intro _ hw'
    obtain ⟨⟨nd,nos⟩,hw''⟩:=hw'
    subst hw''
    go_wp2_with fail
    go_ret2
    exact ⟨tuple_fit _ _ _ HV.out,((Below.refl _ _).alloc (Nat.le_refl _) _).trans ((below_regrown _ nd nos).mono (by simp))⟩
   ·by_cases h1:0≤n
    ·by_cases h2:n≤1048576
     ·have HV:=Lib.hid (show (Tm.mk 1 n s A c a).fit nodes depth=((nodes:Int) - 1,true) by rw [HV0];simp [h1,h2])
      clear HV0
      go_enter Tryz.func159,Tryz.ntmps159
      go_wp2_with fail
      have kb:=boxed4 w (.int .i64 1) (.int .i64 n) (.string s) (.slice A a.length c) 56
      obtain ⟨kb0,kb1,kb2,kb3⟩:=kb
      refine wp_region_quiet_below (by kernel_rfl) (by kernel_rfl) ?_
      repeat (go_big_quiet_step ((go_at_call 170;exact Calls.regrown_of (q1.out _))))
      refine wpQuiet_nil ?_
      intro _ hw'
      obtain ⟨⟨nd,nos⟩,hw''⟩:=hw'
      subst hw''
      go_wp2_with fail
      go_ret2
      exact ⟨tuple_fit _ _ _ HV.out,((Below.refl _ _).alloc (Nat.le_refl _) _).trans ((below_regrown _ nd nos).mono (by simp))⟩
     ·have HV:=Lib.hid (show (Tm.mk 1 n s A c a).fit nodes depth=((nodes:Int) - 1,false) by rw [HV0];simp [h1,h2])
      have h2':decide (n≤1048576)=false:=by simpa using h2
      clear HV0 h2
      go_enter Tryz.func159,Tryz.ntmps159
      go_wp2_with fail
      have kb:=boxed4 w (.int .i64 1) (.int .i64 n) (.string s) (.slice A a.length c) 56
      obtain ⟨kb0,kb1,kb2,kb3⟩:=kb
      refine wp_region_quiet_below (by kernel_rfl) (by kernel_rfl) ?_
      repeat (go_big_quiet_step ((go_at_call 170;exact Calls.regrown_of (q1.out _))))
      refine wpQuiet_nil ?_
      intro _ hw'
      obtain ⟨⟨nd,nos⟩,hw''⟩:=hw'
      subst hw''
      go_wp2_with fail
      go_ret2
      exact ⟨tuple_fit _ _ _ HV.out,((Below.refl _ _).alloc (Nat.le_refl _) _).trans ((below_regrown _ nd nos).mono (by simp))⟩
    ·have HV:=Lib.hid (show (Tm.mk 1 n s A c a).fit nodes depth=((nodes:Int) - 1,false) by rw [HV0];simp [h1])
     have h1':decide (0≤n)=false:=by simpa using h1
     clear HV0 h1
     go_enter Tryz.func159,Tryz.ntmps159
     go_wp2_with fail
     have kb:=boxed4 w (.int .i64 1) (.int .i64 n) (.string s) (.slice A a.length c) 56
     obtain ⟨kb0,kb1,kb2,kb3⟩:=kb
     refine wp_region_quiet_below (by kernel_rfl) (by kernel_rfl) ?_
     repeat (go_big_quiet_step ((go_at_call 170;exact Calls.regrown_of (q1.out _))))
     refine wpQuiet_nil ?_
     intro _ hw'
     obtain ⟨⟨nd,nos⟩,hw''⟩:=hw'
     subst hw''
     go_wp2_with fail
     go_ret2
     exact ⟨tuple_fit _ _ _ HV.out,((Below.refl _ _).alloc (Nat.le_refl _) _).trans ((below_regrown _ nd nos).mono (by simp))⟩
  have k1:(k==1)=false:=by simp [hk1]
  by_cases hk2:k=2
  ·subst hk2
   by_cases hn1:n=0
   ·subst hn1
    obtain ⟨b1,hb1⟩:∃b,funcB s.data.toList a.length=b:=⟨_,rfl⟩
    have q1:=Lib.hid (fun W=>func_at s a.length W hsz hlen hb1)
    have hn':(nodes:Int) - 1=((nodes - 1:Nat):Int):=by omega
    have hd':(depth:Int) - 1=((depth - 1:Nat):Int):=by omega
    cases b1
    ·have HV:=Lib.hid (show (Tm.mk 2 0 s A c a).fit nodes depth=(0,false) by simp only [Tm.fit];rw [if_neg hg,hb1];simp)
     clear ih0 hl hb1 hn' hd'
     go_enter Tryz.func159,Tryz.ntmps159
     go_wp2_with fail
     refine (q1.out _).mono ?_
     rintro e w' ⟨rfl,rfl⟩
     go_wp2_with fail
     go_ret2
     exact ⟨tuple_fit _ _ _ HV.out,(Below.refl _ _).alloc (Nat.le_refl _) _⟩
    ·have HV:=Lib.hid (show (Tm.mk 2 0 s A c a).fit nodes depth=fitL a ((nodes:Int) - 1) ((depth:Int) - 1) by simp only [Tm.fit];rw [if_neg hg,hb1];simp)
     have q2:=Lib.hid (fun W h=>fitL_at a ih0 A c (nodes - 1) (depth - 1) W h (by omega) (by omega))
     rw [←hn',← hd'] at q2
     have HL:=Lib.hid (show Lst (w.alloc (.cells #[.int .i64 2,.int .i64 0,.string s,.slice A a.length c] 56)) A a c from hl.below ((Below.refl _ _).alloc (Nat.le_refl _) _))
     clear ih0 hl hb1 hn' hd'
     go_enter Tryz.func159,Tryz.ntmps159
     go_wp2_with fail
     refine (q1.out _).mono ?_
     rintro e w' ⟨rfl,rfl⟩
     go_wp2_with fail
     refine (q2.out _ HL.out).mono ?_
     rintro e w2 ⟨rfl,hb2⟩
     go_wp2_with fail
     go_ret2
     refine ⟨?_,((Below.refl _ _).alloc (Nat.le_refl _) _).trans (hb2.mono (by simp))⟩
     rw [HV.out]
     rfl
   ·have HV:=Lib.hid (show (Tm.mk 2 n s A c a).fit nodes depth=(0,false) by simp only [Tm.fit];rw [if_neg hg];simp [hn1])
    have hn1':(n != 0)=true:=by simp [hn1]
    clear ih0 hl
    go_enter Tryz.func159,Tryz.ntmps159
    go_wp2_with fail
    go_ret2
    exact ⟨tuple_fit _ _ _ HV.out,(Below.refl _ _).alloc (Nat.le_refl _) _⟩
  ·have HV:=Lib.hid (show (Tm.mk k n s A c a).fit nodes depth=(0,false) by simp only [Tm.fit];rw [if_neg hg];simp [hk0,hk1,hk2])
   have k2:(k==2)=false:=by simp [hk2]
   clear ih0 hl
   go_enter Tryz.func159,Tryz.ntmps159
   go_wp2_with fail
   go_ret2
   exact ⟨tuple_fit _ _ _ HV.out,(Below.refl _ _).alloc (Nat.le_refl _) _⟩
end Go.Proofs.YtaojnljppcnhjaaGreatDoor
namespace Go.Proofs.YtaojnljppcnhjaaGreatDoor
open Go.RowKit
theorem args_at (t:Tm) (w:World) :
  Calls Tryz.prog 112 #[t.val] w fun e w'=>e=.returned (.slice t.uat t.used.length t.ucap)∧Below w.heap.size w w':=by
 obtain ⟨k,n,s,A,c,a⟩:=t
 show Calls Tryz.prog 112 #[.agg #[.int .i64 k,.int .i64 n,.string s,.slice A a.length c]] w _
 by_cases hk:k=2
 ·have HV:=Lib.hid (show (Tm.mk k n s A c a).uat=A∧(Tm.mk k n s A c a).used=a∧(Tm.mk k n s A c a).ucap=c by simp [Tm.uat,Tm.used,Tm.ucap,Tm.kind,Tm.at_,Tm.args,Tm.cap,hk])
  have hk':(k==2)=true:=by simp [hk]
  clear hk
  go_enter Tryz.func112,Tryz.ntmps112
  go_wp2
  go_ret
  obtain ⟨h1,h2,h3⟩:=HV.out
  exact ⟨by rw [h1,h2,h3];rfl,(Below.refl _ _).alloc (Nat.le_refl _) _⟩
 ·have HV:=Lib.hid (show (Tm.mk k n s A c a).uat=none∧(Tm.mk k n s A c a).used=[]∧(Tm.mk k n s A c a).ucap=0 by simp [Tm.uat,Tm.used,Tm.ucap,Tm.kind,hk])
  have hk':(k==2)=false:=by simp [hk]
  clear hk
  go_enter Tryz.func112,Tryz.ntmps112
  go_wp2
  go_ret
  obtain ⟨h1,h2,h3⟩:=HV.out
  exact ⟨by rw [h1,h2,h3];rfl,(Below.refl _ _).alloc (Nat.le_refl _) _⟩
set_option maxHeartbeats 1000000 in
theorem ref_size_at (t:Tm):∀w:World,t.At w→t.size≤1000000 →
  Calls Tryz.prog 94 #[t.val] w fun e w'=>e=.returned (.int .i64 (t.size:Int))∧Below w.heap.size w w':=by
 induction t using Tm.induct with
 | h k n s A c a ih0 =>
  intro w hat hs
  have hl:=hat.ulst
  have hsz:=size_used (.mk k n s A c a)
  have ih:∀x∈(Tm.mk k n s A c a).used,∀w:World,x.At w→x.size≤1000000→Calls Tryz.prog 94 #[x.val] w fun e w'=>e=.returned (.int .i64 (x.size:Int))∧Below w.heap.size w w':=by
   unfold Tm.used
   split
   ·exact ih0
   ·intro x hx;cases hx
  have qa:=Lib.hid (args_at (.mk k n s A c a))
  rw [hsz] at hs ⊢
  clear hat ih0 hsz
  generalize (Tm.mk k n s A c a).used=l at *
  generalize (Tm.mk k n s A c a).uat=U at *
  generalize (Tm.mk k n s A c a).ucap=q at *
  have QI:=Lib.hid ih
  clear ih
  have hlen:l.length≤9223372036854775807:=by have:=hl.1;have:=hl.2.1;unfold maxLen at *;omega
  show Calls Tryz.prog 94 #[.agg #[.int .i64 k,.int .i64 n,.string s,.slice A a.length c]] w _
  go_enter Tryz.func94,Tryz.ntmps94
  go_wp2_with fail
  refine (qa.out _).mono ?_
  rintro e w1 ⟨rfl,hb1⟩
  go_wp2_with fail
  have hb2:Below w.heap.size w w1:=((Below.refl _ _).alloc (Nat.le_refl _) _).trans (hb1.mono (by simp))
  clear hb1
  go_loopw [3,5] (fun z i wr=>∃j:Nat,j≤l.length∧i=.int .i64 j∧z=.int .i64 ((1+sizeL (l.take j):Nat):Int)∧Below w.heap.size w wr) (fun _ i _=>l.length - (intOf i).toNat)
  case atStart=>exact ⟨0,Nat.zero_le _,rfl,rfl,hb2⟩
  case round =>
   obtain ⟨j,hj,rfl,rfl,hb⟩:=hrel
   by_cases hlt:j < l.length
   ·obtain ⟨b,o,rfl,⟨c0,c1,c2,c3⟩,hx⟩:=(hl.below hb).get hlt
    have hm:=getD_mem hlt
    have hn:=sizeL_next hlt
    have ht:=sizeL_take l (j+1)
    have ht':=sizeL_take l j
    generalize l.getD j default=x at *
    have q1:=QI.out x hm
    obtain ⟨k',n',s',A',c',a'⟩:=x
    simp only [Tm.kind,Tm.num,Tm.name,Tm.at_,Tm.args,Tm.cap] at c0 c1 c2 c3
    have hB:sizeL (l.take j)+(Tm.mk k' n' s' A' c' a').size≤sizeL l:=by omega
    have HN:=Lib.hid hn
    clear hn
    have Q1:=Lib.hid q1
    have HX:=Lib.hid hx
    clear q1 hx QI qa
    go_wp2_with fail
    refine (Q1.out _ (HX.out) (by omega)).mono ?_
    rintro e w2 ⟨rfl,hb3⟩
    go_wp2_with fail
    go_roundw
    case rel=>exact ⟨j+1,by omega,by go_num,by rw [HN.out];go_num,hb.trans (hb3.mono hb.size)⟩
    case measure=>simp [intOf];omega
   ·obtain rfl:j=l.length:=by omega
    go_wp2_with fail
    go_ret
    exact ⟨by rw [List.take_length];rfl,hb⟩
set_option maxHeartbeats 1000000 in
theorem ref_depth_at (t:Tm):∀w:World,t.At w→t.depth≤1000000 →
  Calls Tryz.prog 115 #[t.val] w fun e w'=>e=.returned (.int .i64 (t.depth:Int))∧Below w.heap.size w w':=by
 induction t using Tm.induct with
 | h k n s A c a ih0 =>
  intro w hat hs
  have hl:=hat.ulst
  have hsz:=depth_used (.mk k n s A c a)
  have ih:∀x∈(Tm.mk k n s A c a).used,∀w:World,x.At w→x.depth≤1000000→Calls Tryz.prog 115 #[x.val] w fun e w'=>e=.returned (.int .i64 (x.depth:Int))∧Below w.heap.size w w':=by
   unfold Tm.used
   split
   ·exact ih0
   ·intro x hx;cases hx
  have qa:=Lib.hid (args_at (.mk k n s A c a))
  rw [hsz] at hs ⊢
  clear hat ih0 hsz
  generalize (Tm.mk k n s A c a).used=l at *
  generalize (Tm.mk k n s A c a).uat=U at *
  generalize (Tm.mk k n s A c a).ucap=q at *
  have QI:=Lib.hid ih
  clear ih
  have hlen:l.length≤9223372036854775807:=by have:=hl.1;have:=hl.2.1;unfold maxLen at *;omega
  show Calls Tryz.prog 115 #[.agg #[.int .i64 k,.int .i64 n,.string s,.slice A a.length c]] w _
  go_enter Tryz.func115,Tryz.ntmps115
  go_wp2_with fail
  refine (qa.out _).mono ?_
  rintro e w1 ⟨rfl,hb1⟩
  go_wp2_with fail
  have hb2:Below w.heap.size w w1:=((Below.refl _ _).alloc (Nat.le_refl _) _).trans (hb1.mono (by simp))
  clear hb1
  go_loopw [3,5] (fun z i wr=>∃j:Nat,j≤l.length∧i=.int .i64 j∧z=.int .i64 ((depthL (l.take j):Nat):Int)∧Below w.heap.size w wr) (fun _ i _=>l.length - (intOf i).toNat)
  case atStart=>exact ⟨0,Nat.zero_le _,rfl,rfl,hb2⟩
  case round =>
   obtain ⟨j,hj,rfl,rfl,hb⟩:=hrel
   by_cases hlt:j < l.length
   ·obtain ⟨b,o,rfl,⟨c0,c1,c2,c3⟩,hx⟩:=(hl.below hb).get hlt
    have hm:=getD_mem hlt
    have hn:=depthL_next hlt
    have ht:=depthL_take l (j+1)
    have ht':=depthL_take l j
    generalize l.getD j default=x at *
    have q1:=QI.out x hm
    obtain ⟨k',n',s',A',c',a'⟩:=x
    simp only [Tm.kind,Tm.num,Tm.name,Tm.at_,Tm.args,Tm.cap] at c0 c1 c2 c3
    have hB:(Tm.mk k' n' s' A' c' a').depth≤depthL l:=by omega
    have HN:=Lib.hid hn
    clear hn
    have Q1:=Lib.hid q1
    have HX:=Lib.hid hx
    clear q1 hx QI qa
    go_wp2_with fail
    refine (Q1.out _ (HX.out) (by omega)).mono ?_
    rintro e w2 ⟨rfl,hb3⟩
    go_wp2_with fail
    go_roundw
    case rel=>exact ⟨j+1,by omega,by go_num,by rw [HN.out];go_num,hb.trans (hb3.mono hb.size)⟩
    case measure=>simp [intOf];omega
   ·obtain rfl:j=l.length:=by omega
    go_wp2_with fail
    go_ret
    exact ⟨by rw [List.take_length];rfl,hb⟩
end Go.Proofs.YtaojnljppcnhjaaGreatDoor
namespace Go.Proofs.YtaojnljppcnhjaaGreatDoor
open Go.RowKit Go.Sort
def rightL (l:List Tm):Bool:=formL l&&(decide (sizeL l≤200)&&decide (depthL l≤20))
theorem together_at (l:List Tm) (A:Option Addr) (c:Nat) (w:World) (hl:Lst w A l c) {r:Bool} (hr:rightL l=r) :
  Calls Tryz.prog 130 #[.slice A l.length c] w fun e w'=>e=.returned (.bool r)∧Below w.heap.size w w':=by
 have Q:=Lib.hid (fitL_at l (fun x _=>fit_at x) A c 200 20 w hl (by omega) (by omega))
 have HR:=Lib.hid (show (fitL l ((200:Nat):Int) ((20:Nat):Int)).2=r from ((fit_form.2 l 200 20).1).trans hr)
 generalize fitL l ((200:Nat):Int) ((20:Nat):Int)=p at *
 clear hr
 obtain ⟨z,b⟩:=p
 go_enter Tryz.func130,Tryz.ntmps130
 go_wp2_with fail
 refine (Q.out).mono ?_
 rintro e w1 ⟨rfl,hb⟩
 go_wp2_with fail
 go_ret
 exact ⟨by rw [←HR.out];rfl,hb⟩
set_option maxHeartbeats 1000000 in
theorem form_at (t:Tm):∀w:World,t.At w→Calls Tryz.prog 114 #[t.val] w fun e w'=>e=.returned (.bool t.form)∧Below w.heap.size w w':=by
 induction t using Tm.induct with
 | h k n s A c a ih0 =>
  intro w hat
  have hl:Lst w A a c:=hat.lst
  have hsz:s.size≤9223372036854775807:=by have:=((At_iff _ _).1 hat).1.2.2;unfold maxLen at this;exact this
  have hlen:a.length≤9223372036854775807:=by have:=hl.1;have:=hl.2.1;unfold maxLen at *;omega
  clear hat
  show Calls Tryz.prog 114 #[.agg #[.int .i64 k,.int .i64 n,.string s,.slice A a.length c]] w _
  by_cases hk0:k=0
  ·subst hk0
   obtain ⟨b1,e1⟩:∃b,decide (-2147483648≤n)=b:=⟨_,rfl⟩
   obtain ⟨b2,e2⟩:∃b,decide (n≤2147483648)=b:=⟨_,rfl⟩
   obtain ⟨b3,h3⟩:∃b,decide (s.size=0)=b:=⟨_,rfl⟩
   obtain ⟨b4,h4⟩:∃b,decide (a.length=0)=b:=⟨_,rfl⟩
   have HV:=Lib.hid (show (Tm.mk 0 n s A c a).form=(b1&&(b2&&(b3&&b4))) by simp only [Tm.form,e1,e2,h3,h4];simp)
   have e3:s.toList.isEmpty=b3:=by rw [empty_iff,h3]
   have e4:((a.length:Int)==0)=b4:=by rw [←h4,Bool.eq_iff_iff];simp
   clear h3 h4 ih0 hl
   cases b1
   ·clear e2 e3 e4
    go_enter Tryz.func114,Tryz.ntmps114
    go_wp2_with fail
    go_ret
    exact ⟨by rw [HV.out];rfl,(Below.refl _ _).alloc (Nat.le_refl _) _⟩
   ·cases b2
    ·clear e3 e4
     go_enter Tryz.func114,Tryz.ntmps114
     go_wp2_with fail
     go_ret
     exact ⟨by rw [HV.out];rfl,(Below.refl _ _).alloc (Nat.le_refl _) _⟩
    ·cases b3
     ·clear e4
      go_enter Tryz.func114,Tryz.ntmps114
      go_wp2_with fail
      go_ret
      exact ⟨by rw [HV.out];rfl,(Below.refl _ _).alloc (Nat.le_refl _) _⟩
     ·cases b4
      all_goals
       go_enter Tryz.func114,Tryz.ntmps114
       go_wp2_with fail
       go_ret
       exact ⟨by rw [HV.out];rfl,(Below.refl _ _).alloc (Nat.le_refl _) _⟩
  have k0:(k==0)=false:=by simp [hk0]
  by_cases hk1:k=1
  ·subst hk1
   obtain ⟨b1,e1⟩:∃b,decide (0≤n)=b:=⟨_,rfl⟩
   obtain ⟨b2,e2⟩:∃b,decide (n≤1048576)=b:=⟨_,rfl⟩
   obtain ⟨b3,h3⟩:∃b,decide (s.size=0)=b:=⟨_,rfl⟩
   obtain ⟨b4,h4⟩:∃b,decide (a.length=0)=b:=⟨_,rfl⟩
   have HV:=Lib.hid (show (Tm.mk 1 n s A c a).form=(b1&&(b2&&(b3&&b4))) by simp only [Tm.form,e1,e2,h3,h4];simp)
   have e3:s.toList.isEmpty=b3:=by rw [empty_iff,h3]
   have e4:((a.length:Int)==0)=b4:=by rw [←h4,Bool.eq_iff_iff];simp
   clear h3 h4 ih0 hl
   cases b1
   ·clear e2 e3 e4
    go_enter Tryz.func114,Tryz.ntmps114
    go_wp2_with fail
    go_ret
    exact ⟨by rw [HV.out];rfl,(Below.refl _ _).alloc (Nat.le_refl _) _⟩
   ·cases b2
    ·clear e3 e4
     go_enter Tryz.func114,Tryz.ntmps114
     go_wp2_with fail
     go_ret
     exact ⟨by rw [HV.out];rfl,(Below.refl _ _).alloc (Nat.le_refl _) _⟩
    ·cases b3
     ·clear e4
      go_enter Tryz.func114,Tryz.ntmps114
      go_wp2_with fail
      go_ret
      exact ⟨by rw [HV.out];rfl,(Below.refl _ _).alloc (Nat.le_refl _) _⟩
     ·cases b4
      all_goals
       go_enter Tryz.func114,Tryz.ntmps114
       go_wp2_with fail
       go_ret
       exact ⟨by rw [HV.out];rfl,(Below.refl _ _).alloc (Nat.le_refl _) _⟩
  have k1:(k==1)=false:=by simp [hk1]
  by_cases hk2:k=2
  ·subst hk2
   by_cases hn1:n=0
   ·subst hn1
    have QI:=Lib.hid ih0
    clear ih0
    obtain ⟨b1,h1⟩:∃b,opB s.data.toList=b:=⟨_,rfl⟩
    obtain ⟨b2,h2⟩:∃b,decide (a.length=2)=b:=⟨_,rfl⟩
    obtain ⟨b3,h3⟩:∃b,rightB s.data.toList=b:=⟨_,rfl⟩
    obtain ⟨b4,h4⟩:∃b,decide (a.length≤6)=b:=⟨_,rfl⟩
    have HX:=Lib.hid (fun h=>(op_right (l:=s.data.toList) h).1)
    rw [h1,h3] at HX
    have q1:=Lib.hid (fun W=>ref_op_at s W h1)
    have q2:=Lib.hid (fun W=>ref_right_at s W hsz h3)
    have HV:=Lib.hid (show (Tm.mk 2 0 s A c a).form=(((b1&&b2)||(b3&&b4))&&formL a) by simp only [Tm.form,h1,h2,h3,h4];simp)
    have e2:((a.length:Int)==2)=b2:=by rw [←h2,Bool.eq_iff_iff];simp;omega
    have e4:decide (6 < (a.length:Int)) = !b4:=by rw [←h4,Bool.eq_iff_iff];simp;omega
    clear h1 h2 h3 h4
    cases b1
    ·clear e2
     cases b3
     ·clear e4
      go_enter Tryz.func114,Tryz.ntmps114
      go_wp2_with fail
      refine (q1.out _).mono ?_
      rintro e w' ⟨rfl,rfl⟩
      go_wp2_with fail
      refine (q2.out _).mono ?_
      rintro e w' ⟨rfl,rfl⟩
      go_wp2_with fail
      go_ret
      exact ⟨by rw [HV.out];rfl,(Below.refl _ _).alloc (Nat.le_refl _) _⟩
     ·cases b4
      ·have e4':decide (6 < (a.length:Int))=true:=e4
       clear e4
       go_enter Tryz.func114,Tryz.ntmps114
       go_wp2_with fail
       refine (q1.out _).mono ?_
       rintro e w' ⟨rfl,rfl⟩
       go_wp2_with fail
       refine (q2.out _).mono ?_
       rintro e w' ⟨rfl,rfl⟩
       go_wp2_with fail
       go_ret
       exact ⟨by rw [HV.out];rfl,(Below.refl _ _).alloc (Nat.le_refl _) _⟩
      ·have e4':decide (6 < (a.length:Int))=false:=e4
       clear e4
       go_enter Tryz.func114,Tryz.ntmps114
       go_wp2_with fail
       refine (q1.out _).mono ?_
       rintro e w' ⟨rfl,rfl⟩
       go_wp2_with fail
       refine (q2.out _).mono ?_
       rintro e w' ⟨rfl,rfl⟩
       go_wp2_with fail
       go_loopw [4] (fun i wr=>∃j:Nat,j≤a.length∧i=.int .i64 j∧Hid (formL (a.take j)=true)∧Below (w.alloc (.cells #[.int .i64 2,.int .i64 0,.string s,.slice A a.length c] 56)).heap.size (w.alloc (.cells #[.int .i64 2,.int .i64 0,.string s,.slice A a.length c] 56)) wr) (fun i _=>a.length - (intOf i).toNat)
       case atStart=>exact ⟨0,Nat.zero_le _,rfl,Lib.hid rfl,Below.refl _ _⟩
       case round =>
        obtain ⟨j,hj,rfl,HF,hb⟩:=hrel
        obtain ⟨d0,d1,d2,d3,hb2⟩:=box4 hb
        have HB:=Lib.hid hb
        clear hb
        by_cases hlt:j < a.length
        ·obtain ⟨b,o,rfl,⟨c0,c1,c2,c3⟩,hx⟩:=(hl.below hb2).get hlt
         have hmem:=getD_mem hlt
         have HN:=Lib.hid (formL_next hlt)
         have HS:=Lib.hid (fun h=>formL_false (l:=a) (k:=j+1) h)
         rw [HF.out,Bool.true_and] at HN
         rw [HN.out] at HS
         generalize a.getD j default=x at *
         have Q1:=Lib.hid (QI.out x hmem)
         have HX:=Lib.hid hx
         clear hx QI hmem
         obtain ⟨bx,hbx⟩:∃b,x.form=b:=⟨_,rfl⟩
         rw [hbx] at HN HS Q1
         clear hbx
         obtain ⟨k',n',s',A',c',a'⟩:=x
         simp only [Tm.kind,Tm.num,Tm.name,Tm.at_,Tm.args,Tm.cap] at c0 c1 c2 c3
         cases bx
         ·go_wp2_with fail
          refine (Q1.out _ HX.out).mono ?_
          rintro e w2 ⟨rfl,hb3⟩
          go_wp2_with fail
          go_ret
          refine ⟨?_,hb2.trans (hb3.mono hb2.size)⟩
          rw [HV.out,HS.out True.intro]
          rfl
         ·go_wp2_with fail
          refine (Q1.out _ HX.out).mono ?_
          rintro e w2 ⟨rfl,hb3⟩
          go_wp2_with fail
          go_roundw
          case rel=>exact ⟨j+1,by omega,by go_num,HN,HB.out.trans (hb3.mono HB.out.size)⟩
          case measure=>simp [intOf];omega
        ·obtain rfl:j=a.length:=by omega
         have HE:=Lib.hid (show formL a=true by rw [←HF.out,List.take_length])
         clear HF
         go_wp2_with fail
         go_ret
         refine ⟨?_,hb2⟩
         rw [HV.out,HE.out]
         rfl
    ·have h3f:b3=false:=by cases b2<;>exact HX.out rfl
     subst h3f
     clear e4
     cases b2
     ·go_enter Tryz.func114,Tryz.ntmps114
      go_wp2_with fail
      refine (q1.out _).mono ?_
      rintro e w' ⟨rfl,rfl⟩
      go_wp2_with fail
      refine (q2.out _).mono ?_
      rintro e w' ⟨rfl,rfl⟩
      go_wp2_with fail
      go_ret
      exact ⟨by rw [HV.out];rfl,(Below.refl _ _).alloc (Nat.le_refl _) _⟩
     ·go_enter Tryz.func114,Tryz.ntmps114
      go_wp2_with fail
      refine (q1.out _).mono ?_
      rintro e w' ⟨rfl,rfl⟩
      go_wp2_with fail
      go_loopw [4] (fun i wr=>∃j:Nat,j≤a.length∧i=.int .i64 j∧Hid (formL (a.take j)=true)∧Below (w.alloc (.cells #[.int .i64 2,.int .i64 0,.string s,.slice A a.length c] 56)).heap.size (w.alloc (.cells #[.int .i64 2,.int .i64 0,.string s,.slice A a.length c] 56)) wr) (fun i _=>a.length - (intOf i).toNat)
      case atStart=>exact ⟨0,Nat.zero_le _,rfl,Lib.hid rfl,Below.refl _ _⟩
      case round =>
       obtain ⟨j,hj,rfl,HF,hb⟩:=hrel
       obtain ⟨d0,d1,d2,d3,hb2⟩:=box4 hb
       have HB:=Lib.hid hb
       clear hb
       by_cases hlt:j < a.length
       ·obtain ⟨b,o,rfl,⟨c0,c1,c2,c3⟩,hx⟩:=(hl.below hb2).get hlt
        have hmem:=getD_mem hlt
        have HN:=Lib.hid (formL_next hlt)
        have HS:=Lib.hid (fun h=>formL_false (l:=a) (k:=j+1) h)
        rw [HF.out,Bool.true_and] at HN
        rw [HN.out] at HS
        generalize a.getD j default=x at *
        have Q1:=Lib.hid (QI.out x hmem)
        have HX:=Lib.hid hx
        clear hx QI hmem
        obtain ⟨bx,hbx⟩:∃b,x.form=b:=⟨_,rfl⟩
        rw [hbx] at HN HS Q1
        clear hbx
        obtain ⟨k',n',s',A',c',a'⟩:=x
        simp only [Tm.kind,Tm.num,Tm.name,Tm.at_,Tm.args,Tm.cap] at c0 c1 c2 c3
        cases bx
        ·go_wp2_with fail
         refine (Q1.out _ HX.out).mono ?_
         rintro e w2 ⟨rfl,hb3⟩
         go_wp2_with fail
         go_ret
         refine ⟨?_,hb2.trans (hb3.mono hb2.size)⟩
         rw [HV.out,HS.out True.intro]
         rfl
        ·go_wp2_with fail
         refine (Q1.out _ HX.out).mono ?_
         rintro e w2 ⟨rfl,hb3⟩
         go_wp2_with fail
         go_roundw
         case rel=>exact ⟨j+1,by omega,by go_num,HN,HB.out.trans (hb3.mono HB.out.size)⟩
         case measure=>simp [intOf];omega
       ·obtain rfl:j=a.length:=by omega
        have HE:=Lib.hid (show formL a=true by rw [←HF.out,List.take_length])
        clear HF
        go_wp2_with fail
        go_ret
        refine ⟨?_,hb2⟩
        rw [HV.out,HE.out]
        rfl
   ·have HV:=Lib.hid (show (Tm.mk 2 n s A c a).form=false by simp [Tm.form,hn1])
    have hn1':(n != 0)=true:=by simp [hn1]
    obtain ⟨b1,h1⟩:∃b,opB s.data.toList=b:=⟨_,rfl⟩
    obtain ⟨b2,e2⟩:∃b,((a.length:Int)==2)=b:=⟨_,rfl⟩
    have q1:=Lib.hid (fun W=>ref_op_at s W h1)
    clear ih0 hl h1
    cases b1
    ·clear e2
     go_enter Tryz.func114,Tryz.ntmps114
     go_wp2_with fail
     refine (q1.out _).mono ?_
     rintro e w' ⟨rfl,rfl⟩
     go_wp2_with fail
     go_ret
     exact ⟨by rw [HV.out];rfl,(Below.refl _ _).alloc (Nat.le_refl _) _⟩
    ·cases b2
     all_goals
      go_enter Tryz.func114,Tryz.ntmps114
      go_wp2_with fail
      refine (q1.out _).mono ?_
      rintro e w' ⟨rfl,rfl⟩
      go_wp2_with fail
      go_ret
      exact ⟨by rw [HV.out];rfl,(Below.refl _ _).alloc (Nat.le_refl _) _⟩
  ·have HV:=Lib.hid (show (Tm.mk k n s A c a).form=false by simp [Tm.form,hk0,hk1,hk2])
   have k2:(k==2)=false:=by simp [hk2]
   clear ih0 hl
   go_enter Tryz.func114,Tryz.ntmps114
   go_wp2_with fail
   go_ret
   exact ⟨by rw [HV.out];rfl,(Below.refl _ _).alloc (Nat.le_refl _) _⟩
end Go.Proofs.YtaojnljppcnhjaaGreatDoor
namespace Go.Proofs.YtaojnljppcnhjaaGreatDoor
open Go.RowKit Go.Sort
set_option maxHeartbeats 1000000 in
theorem ref_right_tm_at (t:Tm) (w:World) (ht:t.At w) (hs:t.size≤1000000) {r:Bool} (hr:t.right=r) :
  Calls Tryz.prog 93 #[t.val] w fun e w'=>e=.returned (.bool r)∧Below w.heap.size w w':=by
 have hd:=depth_size.1 t
 obtain ⟨b1,h1⟩:∃b,t.form=b:=⟨_,rfl⟩
 have Q1:=Lib.hid (fun W (h:Below w.heap.size w W)=>form_at t W (ht.below h))
 rw [h1] at Q1
 have Q2:=Lib.hid (fun W (h:Below w.heap.size w W)=>ref_size_at t W (ht.below h) hs)
 have Q3:=Lib.hid (fun W (h:Below w.heap.size w W)=>ref_depth_at t W (ht.below h) (by omega))
 have HV:=Lib.hid (show (b1&&(decide (t.size≤200)&&decide (t.depth≤20)))=r by rw [←hr,← h1];rfl)
 clear hr ht h1
 generalize t.size=m at *
 generalize t.depth=q at *
 have B0:=Lib.hid (show ∀o,Below w.heap.size w (w.alloc o) from fun o=>(Below.refl _ _).alloc (Nat.le_refl _) o)
 obtain ⟨k,n,s,A,c,a⟩:=t
 show Calls Tryz.prog 93 #[.agg #[.int .i64 k,.int .i64 n,.string s,.slice A a.length c]] w _
 cases b1
 ·go_enter Tryz.func93,Tryz.ntmps93
  go_wp2_with fail
  refine (Q1.out _ (B0.out _)).mono ?_
  rintro e w1 ⟨rfl,hb⟩
  go_wp2_with fail
  go_ret
  exact ⟨by rw [←HV.out];rfl,(B0.out _).trans (hb.mono (by simp))⟩
 ·by_cases h2:m≤200
  ·obtain ⟨b3,e3⟩:∃b,decide ((q:Int)≤20)=b:=⟨_,rfl⟩
   have h2':(m:Int)≤200:=by omega
   have HV':=Lib.hid (show b3=r by rw [←HV.out,← e3,Bool.eq_iff_iff];simp [h2];omega)
   clear HV h2
   cases b3
   all_goals
    go_enter Tryz.func93,Tryz.ntmps93
    go_wp2_with fail
    refine (Q1.out _ (B0.out _)).mono ?_
    rintro e w1 ⟨rfl,hb⟩
    obtain ⟨d0,d1,d2,d3,hb1⟩:=box4 hb
    go_wp2_with fail
    refine (Q2.out _ hb1).mono ?_
    rintro e w2 ⟨rfl,hb2⟩
    have k0:=(hb2.cell (World.block_lt_of_cell? _ _ d0)).trans d0
    have k1:=(hb2.cell (World.block_lt_of_cell? _ _ d1)).trans d1
    have k2:=(hb2.cell (World.block_lt_of_cell? _ _ d2)).trans d2
    have k3:=(hb2.cell (World.block_lt_of_cell? _ _ d3)).trans d3
    have hb3:=hb1.trans (hb2.mono hb1.size)
    go_wp2_with fail
    refine (Q3.out _ hb3).mono ?_
    rintro e w3 ⟨rfl,hb4⟩
    go_wp2_with fail
    go_ret
    exact ⟨by rw [←HV'.out];rfl,hb3.trans (hb4.mono hb3.size)⟩
  ·have h2':decide ((m:Int)≤200)=false:=by simp;omega
   have HV':=Lib.hid (show false=r by rw [←HV.out];simp [h2])
   clear HV h2
   go_enter Tryz.func93,Tryz.ntmps93
   go_wp2_with fail
   refine (Q1.out _ (B0.out _)).mono ?_
   rintro e w1 ⟨rfl,hb⟩
   obtain ⟨d0,d1,d2,d3,hb1⟩:=box4 hb
   go_wp2_with fail
   refine (Q2.out _ hb1).mono ?_
   rintro e w2 ⟨rfl,hb2⟩
   go_wp2_with fail
   go_ret
   exact ⟨by rw [←HV'.out];rfl,hb1.trans (hb2.mono hb1.size)⟩
theorem rights_all (l:List Tm):(l.all Tm.right&&decide (sizeL l≤200))=rightL l:=by
 have key:∀m:List Tm,sizeL m≤200→m.all Tm.right=(formL m&&decide (depthL m≤20)):=by
  intro m
  induction m with
  | nil=>intro _;rfl
  | cons t r ih =>
   intro h
   simp only [sizeL] at h
   rw [List.all_cons,ih (by omega),Bool.eq_iff_iff]
   have e:depthL (t :: r)=max t.depth (depthL r):=by simp [depthL]
   simp only [Tm.right,formL,Bool.and_eq_true,decide_eq_true_eq]
   constructor
   ·rintro ⟨⟨h1,h2,h3⟩,h4,h5⟩
    exact ⟨⟨h1,h4⟩,by omega⟩
   ·rintro ⟨⟨h1,h4⟩,h5⟩
    exact ⟨⟨h1,by omega,by omega⟩,h4,by omega⟩
 unfold rightL
 by_cases h:sizeL l≤200
 ·rw [key l h];simp [h]
 ·simp [h]
theorem rights_next {l:List Tm} {k:Nat} (h:k < l.length):(l.take (k+1)).all Tm.right=((l.take k).all Tm.right&&(l.getD k default).right):=by
 rw [ttake_next h];simp
theorem rights_false {l:List Tm} {k:Nat} (h:(l.take k).all Tm.right=false):rightL l=false:=by
 rw [←rights_all]
 have e:l.all Tm.right=((l.take k).all Tm.right&&(l.drop k).all Tm.right):=by rw [←List.all_append,List.take_append_drop]
 rw [e,h];rfl
set_option maxHeartbeats 1000000 in
theorem right_args_at (l:List Tm) (A:Option Addr) (c:Nat) (w:World) (hl:Lst w A l c) (hs:sizeL l≤1000000) {r:Bool} (hr:rightL l=r) :
  Calls Tryz.prog 66 #[.slice A l.length c] w fun e w'=>e=.returned (.bool r)∧Below w.heap.size w w':=by
 have hlen:l.length≤9223372036854775807:=by have:=hl.1;have:=hl.2.1;unfold maxLen at *;omega
 have HR:=Lib.hid hr
 clear hr
 go_enter Tryz.func66,Tryz.ntmps66
 go_wp2_with fail
 go_loopw [3,4] (fun z i wr=>∃j:Nat,j≤l.length∧i=.int .i64 j∧z=.int .i64 ((sizeL (l.take j):Nat):Int)∧Hid ((l.take j).all Tm.right=true)∧Below w.heap.size w wr) (fun _ i _=>l.length - (intOf i).toNat)
 case atStart=>exact ⟨0,Nat.zero_le _,rfl,rfl,Lib.hid rfl,Below.refl _ _⟩
 case round =>
  obtain ⟨j,hj,rfl,rfl,HF,hb⟩:=hrel
  by_cases hlt:j < l.length
  ·obtain ⟨b,o,rfl,⟨c0,c1,c2,c3⟩,hx⟩:=(hl.below hb).get hlt
   have hm:=getD_mem hlt
   have hn:=sizeL_next hlt
   have ht:=sizeL_take l (j+1)
   have ht':=sizeL_take l j
   have HN:=Lib.hid (rights_next hlt)
   have HS:=Lib.hid (fun h=>rights_false (l:=l) (k:=j+1) h)
   rw [HF.out,Bool.true_and] at HN
   rw [HN.out] at HS
   generalize l.getD j default=x at *
   have hxs:x.size≤1000000:=by omega
   have hB:sizeL (l.take j)+x.size≤sizeL l:=by omega
   obtain ⟨bx,hbx⟩:∃b,x.right=b:=⟨_,rfl⟩
   have Q1:=Lib.hid (fun W (h:Below wr.heap.size wr W)=>ref_right_tm_at x W (hx.below h) hxs hbx)
   have Q2:=Lib.hid (fun W (h:Below wr.heap.size wr W)=>ref_size_at x W (hx.below h) hxs)
   rw [hbx] at HN HS
   have HZ:=Lib.hid hn
   clear hbx hx hn
   obtain ⟨m,HM⟩:∃m,Hid (x.size=m):=⟨_,Lib.hid rfl⟩
   rw [HM.out] at Q2 hB HZ
   obtain ⟨k',n',s',A',c',a'⟩:=x
   simp only [Tm.kind,Tm.num,Tm.name,Tm.at_,Tm.args,Tm.cap] at c0 c1 c2 c3
   cases bx
   ·go_wp2_with fail
    refine (Q1.out _ (Below.refl _ _)).mono ?_
    rintro e w2 ⟨rfl,hb3⟩
    go_wp2_with fail
    go_ret
    refine ⟨?_,hb.trans (hb3.mono hb.size)⟩
    rw [←HR.out,HS.out True.intro]
    rfl
   ·go_wp2_with fail
    refine (Q1.out _ (Below.refl _ _)).mono ?_
    rintro e w2 ⟨rfl,hb3⟩
    have k0:=(hb3.cell (World.block_lt_of_cell? _ _ c0)).trans c0
    have k1:=(hb3.cell (World.block_lt_of_cell? _ _ c1)).trans c1
    have k2:=(hb3.cell (World.block_lt_of_cell? _ _ c2)).trans c2
    have k3:=(hb3.cell (World.block_lt_of_cell? _ _ c3)).trans c3
    go_wp2_with fail
    refine (Q2.out _ hb3).mono ?_
    rintro e w3 ⟨rfl,hb4⟩
    have hb5:=hb.trans (hb3.mono hb.size)
    go_wp2_with fail
    go_roundw
    case rel=>exact ⟨j+1,by omega,by go_num,by rw [HZ.out];go_num,HN,hb5.trans (hb4.mono hb5.size)⟩
    case measure=>simp [intOf];omega
  ·obtain rfl:j=l.length:=by omega
   have HE:=Lib.hid (show decide ((sizeL l:Int)≤200)=r by
    have h1:=rights_all l
    have h2:=HF.out
    rw [List.take_length] at h2
    rw [h2,Bool.true_and,HR.out] at h1
    rw [←h1,Bool.eq_iff_iff];simp;omega)
   have hz:=sizeL_take l l.length
   go_wp2_with fail
   go_ret
   refine ⟨?_,hb⟩
   rw [←HE.out]
   simp only [List.take_length]
   rfl
end Go.Proofs.YtaojnljppcnhjaaGreatDoor
