/-
  TkCover.
  SyToks.
  PgGood.
 TkByte.
 TkSymB.
 TkSymbol.
 TkSpan.
 TkBounds.
-/
import Derived.Test.YtnghanpmmbcbbaaGreatDoorMq2
import Derived.Test.YtnghanpmmbcbbaaGreatDoorMq5
import Derived.Test.YtnghanpmmbcbbaaGreatDoorMq1
import Derived.Test.YtnghanpmmbcbbaaGreatDoorMq4
import Derived.WalkSpells
import Derived.Deep.QuietTactic
import Derived.BigQuiet
namespace Go.Proofs.YtnghanpmmbcbbaaGreatDoor
open Go.RowKit
def Cov (s:ByteArray) (l:List Tk) (i p:Nat):Prop:=(i=l.length∧p=s.size)∨(i < l.length∧p≤s.size∧∃n,toksAt s n p=(l.drop i,0,0)∧s.size < p+n)
theorem toks_shape (s:ByteArray):∀(n p:Nat),(toksAt s n p).2.2=0→toksAt s n p=((toksAt s n p).1,0,0)
 | 0,_,_=>rfl
 | n+1,p,h=>by
  by_cases he:(tokAt s p).2.2=0
  ·by_cases hk:(tokAt s p).1.1=0
   ·rw [toks_end he hk]
   ·rw [toks_next he hk] at h ⊢
    by_cases h3:(toksAt s n (tokAt s p).2.1).2.2≠0
    ·rw [if_pos h3] at h;exact absurd h h3
    ·rw [if_neg h3]
  ·rw [toks_err he] at h;exact absurd h he
theorem toks_errs (s:ByteArray):∀(n p:Nat),p≤s.size→(toksAt s n p).2.2≠0→(toksAt s n p).1=[]∧(toksAt s n p).2.1≤s.size
 | 0,_,_,h=>absurd rfl h
 | n+1,p,hp,h=>by
  by_cases he:(tokAt s p).2.2=0
  ·by_cases hk:(tokAt s p).1.1=0
   ·rw [toks_end he hk] at h;exact absurd rfl h
   ·rw [toks_next he hk] at h ⊢
    by_cases h3:(toksAt s n (tokAt s p).2.1).2.2≠0
    ·rw [if_pos h3]
     exact toks_errs s n _ (tokAt_in hp) h3
    ·rw [if_neg h3] at h;exact absurd rfl h
  ·rw [toks_err he]
   exact ⟨rfl,tokAt_in hp⟩
theorem toks_last (s:ByteArray):∀(n p:Nat),p≤s.size→s.size < p+n→(toksAt s n p).2.2=0→∃r x,(toksAt s n p).1=r++[x]∧x.1=0∧∀y∈r,y.1≠0
 | 0,p,hp,hn,_=>by omega
 | n+1,p,hp,hn,h=>by
  by_cases he:(tokAt s p).2.2=0
  ·obtain ⟨t1,t2,t3,t4,t5,t6,_⟩:=tokAt_facts hp he
   by_cases hk:(tokAt s p).1.1=0
   ·rw [toks_end he hk]
    exact ⟨[],_,rfl,hk,by simp⟩
   ·have hpos:=t5 hk
    rw [toks_next he hk] at h ⊢
    by_cases h3:(toksAt s n (tokAt s p).2.1).2.2≠0
    ·rw [if_pos h3] at h;exact absurd h h3
    ·rw [if_neg h3]
     obtain ⟨r,x,e,hx,hr⟩:=toks_last s n (tokAt s p).2.1 t4 (by omega) (Classical.not_not.1 h3)
     refine ⟨(tokAt s p).1 :: r,x,by simp only [e];rfl,hx,fun y hy=>?_⟩
     rcases List.mem_cons.1 hy with rfl|hy
     ·exact hk
     ·exact hr y hy
  ·rw [toks_err he] at h;exact absurd h he
theorem toks_some {s:ByteArray} {n p:Nat} (h0:0 < n) (h:(toksAt s n p).2.2=0):(toksAt s n p).1≠[]:=by
 obtain ⟨n,rfl⟩:∃m,n=m+1:=⟨n - 1,by omega⟩
 by_cases he:(tokAt s p).2.2=0
 ·by_cases hk:(tokAt s p).1.1=0
  ·rw [toks_end he hk];simp
  ·rw [toks_next he hk] at h ⊢
   split
   ·rename_i h1;rw [if_pos h1] at h;exact absurd h h1
   ·simp
 ·rw [toks_err he] at h;exact absurd h he
theorem cov_step {s:ByteArray} {l:List Tk} {i p:Nat} (h:Cov s l i p) (hi:i < l.length) :
  ∃m,p≤s.size∧tokAt s p=(l.getD i default,m,0)∧Cov s l (i+1) m:=by
 rcases h with ⟨rfl,_⟩|⟨_,hp,n,hn,ht⟩
 ·omega
 ·obtain ⟨n,rfl⟩:∃m,n=m+1:=⟨n - 1,by omega⟩
  have hd:l.drop i=l.getD i default :: l.drop (i+1):=by
   rw [List.drop_eq_getElem_cons hi,List.getD_eq_getElem?_getD,List.getElem?_eq_getElem hi];rfl
  by_cases he:(tokAt s p).2.2=0
  ·obtain ⟨t1,t2,t3,t4,t5,t6,_⟩:=tokAt_facts hp he
   by_cases hk:(tokAt s p).1.1=0
   ·rw [toks_end he hk,hd] at hn
    simp only [Prod.mk.injEq,List.cons.injEq,and_true] at hn
    refine ⟨(tokAt s p).2.1,hp,by rw [←hn.1,← he],.inl ⟨?_,?_⟩⟩
    ·have:=congrArg List.length hn.2
     simp only [List.length_nil,List.length_drop] at this
     omega
    ·obtain ⟨h1,h2⟩:=t6 hk
     rw [t2,h1,h2];rfl
   ·rw [toks_next he hk,hd] at hn
    by_cases h3:(toksAt s n (tokAt s p).2.1).2.2≠0
    ·rw [if_pos h3] at hn;rw [hn] at h3;exact absurd rfl h3
    ·rw [if_neg h3] at hn
     have h3':(toksAt s n (tokAt s p).2.1).2.2=0:=Classical.not_not.1 h3
     simp only [Prod.mk.injEq,List.cons.injEq,and_true] at hn
     have hpos:=t5 hk
     have hne:=toks_some (s:=s) (n:=n) (p:=(tokAt s p).2.1) (by omega) h3'
     refine ⟨(tokAt s p).2.1,hp,by rw [←hn.1,← he],.inr ⟨?_,t4,n,?_,by omega⟩⟩
     ·rw [hn.2] at hne
      rcases Nat.lt_or_ge (i+1) l.length with h|h
      ·exact h
      ·exact absurd (List.drop_eq_nil_of_le h) hne
     ·rw [toks_shape s n _ h3',hn.2]
  ·rw [toks_err he] at hn
   simp only [Prod.mk.injEq] at hn
   exact absurd hn.2.2 he
theorem scan_cases (s:ByteArray):((scanP s).2.2≠0∧(scanP s).1=[]∧(scanP s).2.1≤s.size) ∨
  ((scanP s).2.2=0∧(scanP s).2.1=0∧s.size≤16384∧∃M,(scanP s).1.length=M+1∧((scanP s).1.getD M default).1=0∧Cov s (scanP s).1 0 0):=by
 by_cases hbig:16384 < s.size
 ·have e:scanP s=([],0,6):=by unfold scanP;rw [if_pos hbig]
  rw [e]
  exact .inl ⟨by simp,rfl,Nat.zero_le _⟩
 ·have e:scanP s=toksAt s (s.size+1) 0:=by unfold scanP;rw [if_neg hbig]
  rw [e]
  by_cases h:(toksAt s (s.size+1) 0).2.2=0
  ·obtain ⟨r,x,e1,hx,_⟩:=toks_last s (s.size+1) 0 (Nat.zero_le _) (by omega) h
   have hsh:=toks_shape s _ _ h
   refine .inr ⟨h,by rw [hsh],by omega,r.length,by rw [e1];simp,?_,.inr ⟨by rw [e1];simp,Nat.zero_le _,s.size+1,by rw [List.drop_zero];exact hsh,by omega⟩⟩
   rw [e1,List.getD_eq_getElem?_getD,List.getElem?_append_right (Nat.le_refl _)]
   simpa using hx
  ·exact .inl ⟨h,toks_errs s _ _ (Nat.zero_le _) h⟩
end Go.Proofs.YtnghanpmmbcbbaaGreatDoor
namespace Go.Proofs.YtnghanpmmbcbbaaGreatDoor
open Go
def absT (at_:Nat) (prev:List UInt8):List Tk→List Tok
 | []=>[]
 | x :: r=>(x.1,x.2.2,(x.1==3&&(prev==[45]&&x.2.1==at_+1))) :: absT x.2.1 x.2.2 r
theorem toks_abs (s:ByteArray):∀(n p a:Nat) (prev:List UInt8),p≤s.size→(prev=[45]→p=a+1) →
  scanG n prev (rest s p)=if (toksAt s n p).2.2≠0 then none else some (absT a prev (toksAt s n p).1)
 | 0,_,_,_,_,_=>rfl
 | n+1,p,a,prev,hp,ha=>by
  obtain ⟨f1,f2,f3⟩:=skipP_facts hp
  rcases ht:tokL (gap false (rest s p)) with ⟨k,t,e⟩
  by_cases he:e=0
  ·subst he
   have ek:=tokAt_ok rfl ht
   obtain ⟨h1,h2,h3⟩:=tok_head ht
   by_cases hk:k=0
   ·subst hk
    obtain ⟨_,rfl⟩:=h3 rfl
    rw [scanG_end ht,toks_end (by rw [ek]) (by rw [ek]),ek]
    simp [absT]
   ·have hle:skipP s p+t.length≤s.size:=by
     have:=tokAt_in hp
     rw [ek] at this
     exact this
    have ih:=toks_abs s n (skipP s p+t.length) (skipP s p) t hle (fun h=>by rw [h];rfl)
    have hr:rest s (skipP s p+t.length)=(gap false (rest s p)).drop t.length:=by rw [rest_drop,f3]
    rw [hr] at ih
    have hfl:(k==3&&(prev==[45]&&(gap false (rest s p)).length==(rest s p).length))=(k==3&&(prev==[45]&&skipP s p==a+1)):=by
     by_cases hpr:prev=[45]
     ·have hpa:=ha hpr
      have hs:((gap false (rest s p)).length==(rest s p).length)=(skipP s p==a+1):=by
       rw [←f3,rest_len,rest_len,Bool.eq_iff_iff]
       simp only [beq_iff_eq]
       omega
      rw [hs]
     ·have:(prev==[45])=false:=by simpa using hpr
      rw [this];simp
    rw [scanG_next ht hk,ih,toks_next (by rw [ek]) (by rw [ek];exact hk),ek,hfl]
    simp only
    by_cases h4:(toksAt s n (skipP s p+t.length)).2.2=0
    ·simp [h4,absT]
    ·simp [h4]
  ·rw [scanG_err ht he,toks_err (by rw [tokAt_err rfl ht he];exact he),tokAt_err rfl ht he,if_pos (by exact he)]
theorem scan_abs (s:ByteArray) (hs:s.size≤16384):scanG (s.size+1) [] s.data.toList=if (scanP s).2.2≠0 then none else some (absT 0 [] (scanP s).1):=by
 have e:scanP s=toksAt s (s.size+1) 0:=by unfold scanP;rw [if_neg (by omega)]
 rw [e]
 exact toks_abs s (s.size+1) 0 0 [] (Nat.zero_le _) (fun h=>by cases h)
end Go.Proofs.YtnghanpmmbcbbaaGreatDoor
namespace Go.Proofs.YtnghanpmmbcbbaaGreatDoor
open Go Go.RowKit
theorem wordy_low {c:UInt8} (h:wordyB c=false):lowB c=false:=by
 unfold wordyB at h
 cases hl:lowB c
 ·rfl
 ·rw [hl] at h;cases h
theorem wordy_in {c:UInt8} (h:wordyB c=true):inB c=true:=by
 unfold wordyB at h
 unfold inB
 revert h
 cases lowB c<;>cases uppB c<;>cases undB c<;>cases digB c<;>decide
theorem tok_good {l t:List UInt8} {k:Int} (h:tokL l=(k,t,0)):k=kindO t∧(k=3→(∀c∈t,digB c=true)∧valD t≤2147483648):=by
 cases l with
 | nil =>
  have e:tokL []=(0,[],0):=rfl
  rw [e] at h
  injection h with h1 h2
  injection h2 with h2 _
  subst h1 h2
  exact ⟨rfl,fun h=>absurd h (by decide)⟩
 | cons c r =>
  by_cases hw:wordyB c=true
  ·rw [tok_word hw] at h
   split at h
   ·injection h with _ h2
    injection h2 with _ h3
    exact absurd h3 (by decide)
   ·injection h with h1 h2
    injection h2 with h2 _
    subst h1 h2
    rw [List.takeWhile_cons,if_pos (wordy_in hw)]
    refine ⟨by simp only [kindO,hw,if_true],fun h=>?_⟩
    split at h<;>exact absurd h (by decide)
  ·have hw:wordyB c=false:=by simpa using hw
   by_cases hd:digB c=true
   ·rw [tok_dig hw hd] at h
    split at h
    ·injection h with _ h2
     injection h2 with _ h3
     exact absurd h3 (by decide)
    ·rename_i hv
     injection h with h1 h2
     injection h2 with h2 _
     subst h1 h2
     refine ⟨?_,fun _=>⟨fun x hx=>?_,by omega⟩⟩
     ·rw [List.takeWhile_cons,if_pos hd]
      simp only [kindO,wordy_low hw,hw,hd]
      rfl
     ·exact List.all_eq_true.1 List.all_takeWhile x hx
   ·have hd:digB c=false:=by simpa using hd
    rw [tok_sym hw hd] at h
    split at h
    ·injection h with _ h2
     injection h2 with _ h3
     exact absurd h3 (by decide)
    ·rename_i hne
     injection h with h1 h2
     injection h2 with h2 _
     subst h1 h2
     refine ⟨?_,fun h=>absurd h (by decide)⟩
     have hp:=(symP_facts (c :: r)).2.1
     cases hs:symP (c :: r) with
     | nil=>exact absurd hs hne
     | cons x y =>
      rw [hs] at hp
      obtain ⟨z,hz⟩:=hp
      rw [List.cons_append] at hz
      injection hz with e1 _
      subst e1
      simp only [kindO,wordy_low hw,hw,hd]
      rfl
theorem cov_all {s:ByteArray} {l:List Tk} (h0:Cov s l 0 0) (hE:∀i,i+1 < l.length→(l.getD i default).1≠0):∀i,i < l.length→∃p,i≤p∧p≤s.size∧Cov s l i p
 | 0,_=>⟨0,Nat.le_refl _,Nat.zero_le _,h0⟩
 | i+1,hi=>by
  obtain ⟨p,h1,h2,hc⟩:=cov_all h0 hE i (by omega)
  obtain ⟨m,hp,ht,hc2⟩:=cov_step hc (by omega)
  have hf:=tokAt_facts hp (by rw [ht])
  have hpos:=hf.2.2.2.2.1 (by rw [ht];exact hE i hi)
  have h3:=hf.2.1
  have h4:=hf.2.2.1
  have h5:=hf.2.2.2.1
  rw [ht] at h3 h5 hpos
  simp only at h3 h5 hpos
  exact ⟨m,by omega,h5,hc2⟩
theorem good_scan {s:ByteArray} (h:(scanP s).2.2=0):GoodT (scanP s).1:=by
 rcases scan_cases s with ⟨h1,_⟩|⟨_,_,hsz,M,hM,hM0,hcov⟩
 ·exact absurd h h1
 generalize hl:(scanP s).1=l at *
 have hE:Ended l:=by
  have e:scanP s=toksAt s (s.size+1) 0:=by unfold scanP;rw [if_neg (by omega)]
  obtain ⟨r,x,er,hx,hr⟩:=toks_last s (s.size+1) 0 (Nat.zero_le _) (by omega) (by rw [←e];exact h)
  rw [←e,hl] at er
  subst er
  refine ⟨by simp,fun i hi=>?_⟩
  simp only [List.length_append,List.length_cons,List.length_nil] at hi ⊢
  rcases Nat.lt_or_ge i r.length with hlt|hge
  ·have e2:(r++[x]).getD i default=r[i]:=by rw [List.getD_eq_getElem?_getD,List.getElem?_append_left hlt,List.getElem?_eq_getElem hlt];rfl
   rw [e2]
   exact ⟨fun h0=>absurd h0 (hr _ (List.getElem_mem hlt)),fun h0=>by omega⟩
  ·have e3:i=r.length:=by omega
   subst e3
   have e2:(r++[x]).getD r.length default=x:=by simp [List.getD_eq_getElem?_getD]
   rw [e2]
   exact ⟨fun _=>by omega,fun _=>hx⟩
 have hne:∀i,i+1 < l.length→(l.getD i default).1≠0:=fun i hi h0=>by
  have:=(hE.2 i (by omega)).1 h0
  omega
 have htok:∀i,i < l.length→∃p m,i≤p∧p≤s.size∧tokAt s p=(l.getD i default,m,0):=fun i hi=>by
  obtain ⟨p,h1,h2,hc⟩:=cov_all hcov hne i hi
  obtain ⟨m,_,ht,_⟩:=cov_step hc hi
  exact ⟨p,m,h1,h2,ht⟩
 have hL:∀i,i < l.length→∃x,tokL x=((l.getD i default).1,(l.getD i default).2.2,0)∧(l.getD i default).2.1≤s.size∧(l.getD i default).2.2.length≤s.size:=fun i hi=>by
  obtain ⟨p,m,h1,h2,ht⟩:=htok i hi
  have hf:=tokAt_facts h2 (by rw [ht])
  rw [ht] at hf
  simp only at hf
  obtain ⟨f1,f2,f3,f4,_⟩:=hf
  refine ⟨gap false (rest s p),?_,by omega,by omega⟩
  unfold tokAt at ht
  split at ht
  ·rename_i hb
   injection ht with e1 e2
   injection e2 with e2 e3
   exact absurd e3 hb
  ·rename_i hb
   injection ht with e1 e2
   rw [←e1]
   rcases hq:tokL (gap false (rest s p)) with ⟨k,t,e⟩
   rw [hq] at hb
   have:e=0:=Classical.not_not.1 hb
   subst this
   rfl
 refine ⟨hE,fun i hi=>?_,fun i hi hk=>?_,fun i hi=>?_,?_,fun i hi=>?_⟩
 ·obtain ⟨x,hx,_⟩:=hL i hi
  exact (tok_good hx).1
 ·obtain ⟨x,hx,_⟩:=hL i hi
  exact (tok_good hx).2 hk
 ·obtain ⟨x,hx,h1,h2⟩:=hL i hi
  omega
 ·obtain ⟨p,m,h1,h2,ht⟩:=htok M (by omega)
  omega
 ·obtain ⟨x,hx,h1,h2⟩:=hL i hi
  omega
end Go.Proofs.YtnghanpmmbcbbaaGreatDoor
namespace Go.Proofs.YtnghanpmmbcbbaaGreatDoor
open Go.RowKit
theorem spc_nat (x:UInt8):spcB x=decide (x.toNat=32∨x.toNat=9∨x.toNat=10∨x.toNat=13):=by
 have e:∀n:UInt8,(x==n)=decide (x.toNat=n.toNat):=fun n=>by
  rw [Bool.eq_iff_iff];simp [UInt8.toNat_inj]
 unfold spcB
 rw [e 32,e 9,e 10,e 13,Bool.eq_iff_iff]
 simp only [Bool.or_eq_true,decide_eq_true_eq]
 rw [show (32:UInt8).toNat=32 from rfl,show (9:UInt8).toNat=9 from rfl,show (10:UInt8).toNat=10 from rfl,show (13:UInt8).toNat=13 from rfl]
 omega
theorem tk_low_at (x:UInt8) (w:World) {r:Bool} (h:lowB x=r) :
  Calls Tryz.prog 194 #[.int .u8 (x.toNat:Int)] w fun e w'=>e=.returned (.bool r)∧w=w':=by
 subst h
 by_cases h1:97≤x.toNat
 ·have h1':(97:Int)≤(x.toNat:Int):=by omega
  by_cases h2:x.toNat≤122
  ·have h2':(x.toNat:Int)≤122:=by omega
   have HV:=Lib.hid (show lowB x=true by simp only [lowB,h1,h2,and_self,decide_true])
   clear h1 h2
   go_enter Tryz.func194,Tryz.ntmps194
   go_wp2
   go_ret
   exact ⟨ret_bool (by rw [HV.out]),rfl⟩
  ·have h2':decide ((x.toNat:Int)≤122)=false:=by simp;omega
   have HV:=Lib.hid (show lowB x=false by simp only [lowB,h2,and_false,decide_false])
   clear h1 h2
   go_enter Tryz.func194,Tryz.ntmps194
   go_wp2
   go_ret
   exact ⟨ret_bool (by rw [HV.out]),rfl⟩
 ·have h1':decide ((97:Int)≤(x.toNat:Int))=false:=by simp;omega
  have HV:=Lib.hid (show lowB x=false by simp only [lowB,h1,false_and,decide_false])
  clear h1
  go_enter Tryz.func194,Tryz.ntmps194
  go_wp2
  go_ret
  exact ⟨ret_bool (by rw [HV.out]),rfl⟩
theorem tk_upp_at (x:UInt8) (w:World) {r:Bool} (h:uppB x=r) :
  Calls Tryz.prog 197 #[.int .u8 (x.toNat:Int)] w fun e w'=>e=.returned (.bool r)∧w=w':=by
 subst h
 by_cases h1:65≤x.toNat
 ·have h1':(65:Int)≤(x.toNat:Int):=by omega
  by_cases h2:x.toNat≤90
  ·have h2':(x.toNat:Int)≤90:=by omega
   have HV:=Lib.hid (show uppB x=true by simp only [uppB,h1,h2,and_self,decide_true])
   clear h1 h2
   go_enter Tryz.func197,Tryz.ntmps197
   go_wp2
   go_ret
   exact ⟨ret_bool (by rw [HV.out]),rfl⟩
  ·have h2':decide ((x.toNat:Int)≤90)=false:=by simp;omega
   have HV:=Lib.hid (show uppB x=false by simp only [uppB,h2,and_false,decide_false])
   clear h1 h2
   go_enter Tryz.func197,Tryz.ntmps197
   go_wp2
   go_ret
   exact ⟨ret_bool (by rw [HV.out]),rfl⟩
 ·have h1':decide ((65:Int)≤(x.toNat:Int))=false:=by simp;omega
  have HV:=Lib.hid (show uppB x=false by simp only [uppB,h1,false_and,decide_false])
  clear h1
  go_enter Tryz.func197,Tryz.ntmps197
  go_wp2
  go_ret
  exact ⟨ret_bool (by rw [HV.out]),rfl⟩
theorem tk_dig_at (x:UInt8) (w:World) {r:Bool} (h:digB x=r) :
  Calls Tryz.prog 198 #[.int .u8 (x.toNat:Int)] w fun e w'=>e=.returned (.bool r)∧w=w':=by
 subst h
 by_cases h1:48≤x.toNat
 ·have h1':(48:Int)≤(x.toNat:Int):=by omega
  by_cases h2:x.toNat≤57
  ·have h2':(x.toNat:Int)≤57:=by omega
   have HV:=Lib.hid (show digB x=true by simp only [digB,h1,h2,and_self,decide_true])
   clear h1 h2
   go_enter Tryz.func198,Tryz.ntmps198
   go_wp2
   go_ret
   exact ⟨ret_bool (by rw [HV.out]),rfl⟩
  ·have h2':decide ((x.toNat:Int)≤57)=false:=by simp;omega
   have HV:=Lib.hid (show digB x=false by simp only [digB,h2,and_false,decide_false])
   clear h1 h2
   go_enter Tryz.func198,Tryz.ntmps198
   go_wp2
   go_ret
   exact ⟨ret_bool (by rw [HV.out]),rfl⟩
 ·have h1':decide ((48:Int)≤(x.toNat:Int))=false:=by simp;omega
  have HV:=Lib.hid (show digB x=false by simp only [digB,h1,false_and,decide_false])
  clear h1
  go_enter Tryz.func198,Tryz.ntmps198
  go_wp2
  go_ret
  exact ⟨ret_bool (by rw [HV.out]),rfl⟩
theorem tk_word_at (x:UInt8) (w:World) {r:Bool} (h:inB x=r) :
  Calls Tryz.prog 196 #[.int .u8 (x.toNat:Int)] w fun e w'=>e=.returned (.bool r)∧w=w':=by
 subst h
 obtain ⟨b1,h1⟩:∃b,lowB x=b:=⟨_,rfl⟩
 obtain ⟨b2,h2⟩:∃b,uppB x=b:=⟨_,rfl⟩
 obtain ⟨b3,h3⟩:∃b,digB x=b:=⟨_,rfl⟩
 have HV:=Lib.hid (show inB x=(b1||b2||b3||undB x) by rw [←h1,← h2,← h3];rfl)
 have H4:=Lib.hid (show undB x=(((x.toNat:Int)==95)) by
  unfold undB
  rw [Bool.eq_iff_iff]
  simp
  omega)
 have Q1:=Lib.hid (tk_low_at x w h1)
 have Q2:=Lib.hid (tk_upp_at x w h2)
 have Q3:=Lib.hid (tk_dig_at x w h3)
 clear h1 h2 h3
 cases b1
 all_goals cases b2
 all_goals cases b3
 all_goals
  go_enter Tryz.func196,Tryz.ntmps196
  go_wp2_with (first|(go_at_call 194;refine Q1.out.mono ?_;rintro e w' ⟨rfl,rfl⟩)|(go_at_call 197;refine Q2.out.mono ?_;rintro e w' ⟨rfl,rfl⟩)|(go_at_call 198;refine Q3.out.mono ?_;rintro e w' ⟨rfl,rfl⟩))
  go_ret
  exact ⟨ret_bool (by rw [HV.out];simp [H4.out]),rfl⟩
theorem tk_spc_at (x:UInt8) (w:World) {r:Bool} (h:spcB x=r) :
  Calls Tryz.prog 192 #[.int .u8 (x.toNat:Int)] w fun e w'=>e=.returned (.bool r)∧w=w':=by
 subst h
 by_cases h0:x.toNat=32
 ·have HV:=Lib.hid (show spcB x=true by rw [spc_nat];simp [h0])
  have k0:((x.toNat:Int)==32)=true:=by simp;omega
  clear h0
  go_enter Tryz.func192,Tryz.ntmps192
  go_wp2
  go_ret
  exact ⟨ret_bool (by rw [HV.out]),rfl⟩
 have k0:((x.toNat:Int)==32)=false:=by simp;omega
 by_cases h1:x.toNat=9
 ·have HV:=Lib.hid (show spcB x=true by rw [spc_nat];simp [h1])
  have k1:((x.toNat:Int)==9)=true:=by simp;omega
  clear h0 h1
  go_enter Tryz.func192,Tryz.ntmps192
  go_wp2
  go_ret
  exact ⟨ret_bool (by rw [HV.out]),rfl⟩
 have k1:((x.toNat:Int)==9)=false:=by simp;omega
 by_cases h2:x.toNat=13
 ·have HV:=Lib.hid (show spcB x=true by rw [spc_nat];simp [h2])
  have k2:((x.toNat:Int)==13)=true:=by simp;omega
  clear h0 h1 h2
  go_enter Tryz.func192,Tryz.ntmps192
  go_wp2
  go_ret
  exact ⟨ret_bool (by rw [HV.out]),rfl⟩
 have k2:((x.toNat:Int)==13)=false:=by simp;omega
 by_cases h3:x.toNat=10
 ·have HV:=Lib.hid (show spcB x=true by rw [spc_nat];simp [h3])
  have k3:((x.toNat:Int)==10)=true:=by simp;omega
  clear h0 h1 h2 h3
  go_enter Tryz.func192,Tryz.ntmps192
  go_wp2
  go_ret
  exact ⟨ret_bool (by rw [HV.out]),rfl⟩
 have k3:((x.toNat:Int)==10)=false:=by simp;omega
 have HV:=Lib.hid (show spcB x=false by rw [spc_nat];simp [h0,h1,h2,h3])
 clear h0 h1 h2 h3
 go_enter Tryz.func192,Tryz.ntmps192
 go_wp2
 go_ret
 exact ⟨ret_bool (by rw [HV.out]),rfl⟩
theorem byte_eq {a b:UInt8} (h:a=b):((a.toNat:Int)==(b.toNat:Int))=true:=by simp [h]
theorem byte_ne {a b:UInt8} (h:a≠b):((a.toNat:Int)==(b.toNat:Int))=false:=by
 have:a.toNat≠b.toNat:=fun e=>h (UInt8.toNat_inj.1 e)
 simp;omega
end Go.Proofs.YtnghanpmmbcbbaaGreatDoor
namespace Go.Proofs.YtnghanpmmbcbbaaGreatDoor
open Go.RowKit
def symB (l:List UInt8):Bool:=decide (l∈syms)
theorem sym_is0 (w:World):Calls Tryz.prog 216 #[.string ⟨#[64]⟩] w fun e w'=>e=.returned (.bool true)∧w=w':=by
 go_enter Tryz.func216,Tryz.ntmps216
 go_wp2
 go_ret
 exact ⟨rfl,rfl⟩
theorem sym_is1 (w:World):Calls Tryz.prog 216 #[.string ⟨#[44]⟩] w fun e w'=>e=.returned (.bool true)∧w=w':=by
 go_enter Tryz.func216,Tryz.ntmps216
 go_wp2
 go_ret
 exact ⟨rfl,rfl⟩
theorem sym_is2 (w:World):Calls Tryz.prog 216 #[.string ⟨#[46]⟩] w fun e w'=>e=.returned (.bool true)∧w=w':=by
 go_enter Tryz.func216,Tryz.ntmps216
 go_wp2
 go_ret
 exact ⟨rfl,rfl⟩
theorem sym_is3 (w:World):Calls Tryz.prog 216 #[.string ⟨#[40]⟩] w fun e w'=>e=.returned (.bool true)∧w=w':=by
 go_enter Tryz.func216,Tryz.ntmps216
 go_wp2
 go_ret
 exact ⟨rfl,rfl⟩
theorem sym_is4 (w:World):Calls Tryz.prog 216 #[.string ⟨#[41]⟩] w fun e w'=>e=.returned (.bool true)∧w=w':=by
 go_enter Tryz.func216,Tryz.ntmps216
 go_wp2
 go_ret
 exact ⟨rfl,rfl⟩
theorem sym_is5 (w:World):Calls Tryz.prog 216 #[.string ⟨#[124]⟩] w fun e w'=>e=.returned (.bool true)∧w=w':=by
 go_enter Tryz.func216,Tryz.ntmps216
 go_wp2
 go_ret
 exact ⟨rfl,rfl⟩
theorem sym_is6 (w:World):Calls Tryz.prog 216 #[.string ⟨#[47]⟩] w fun e w'=>e=.returned (.bool true)∧w=w':=by
 go_enter Tryz.func216,Tryz.ntmps216
 go_wp2
 go_ret
 exact ⟨rfl,rfl⟩
theorem sym_is7 (w:World):Calls Tryz.prog 216 #[.string ⟨#[92]⟩] w fun e w'=>e=.returned (.bool true)∧w=w':=by
 go_enter Tryz.func216,Tryz.ntmps216
 go_wp2
 go_ret
 exact ⟨rfl,rfl⟩
theorem sym_is8 (w:World):Calls Tryz.prog 216 #[.string ⟨#[43]⟩] w fun e w'=>e=.returned (.bool true)∧w=w':=by
 go_enter Tryz.func216,Tryz.ntmps216
 go_wp2
 go_ret
 exact ⟨rfl,rfl⟩
theorem sym_is9 (w:World):Calls Tryz.prog 216 #[.string ⟨#[45]⟩] w fun e w'=>e=.returned (.bool true)∧w=w':=by
 go_enter Tryz.func216,Tryz.ntmps216
 go_wp2
 go_ret
 exact ⟨rfl,rfl⟩
theorem sym_is10 (w:World):Calls Tryz.prog 216 #[.string ⟨#[42]⟩] w fun e w'=>e=.returned (.bool true)∧w=w':=by
 go_enter Tryz.func216,Tryz.ntmps216
 go_wp2
 go_ret
 exact ⟨rfl,rfl⟩
theorem sym_is11 (w:World):Calls Tryz.prog 216 #[.string ⟨#[37]⟩] w fun e w'=>e=.returned (.bool true)∧w=w':=by
 go_enter Tryz.func216,Tryz.ntmps216
 go_wp2
 go_ret
 exact ⟨rfl,rfl⟩
theorem sym_is12 (w:World):Calls Tryz.prog 216 #[.string ⟨#[61]⟩] w fun e w'=>e=.returned (.bool true)∧w=w':=by
 go_enter Tryz.func216,Tryz.ntmps216
 go_wp2
 go_ret
 exact ⟨rfl,rfl⟩
theorem sym_is13 (w:World):Calls Tryz.prog 216 #[.string ⟨#[61,61]⟩] w fun e w'=>e=.returned (.bool true)∧w=w':=by
 go_enter Tryz.func216,Tryz.ntmps216
 go_wp2
 go_ret
 exact ⟨rfl,rfl⟩
theorem sym_is14 (w:World):Calls Tryz.prog 216 #[.string ⟨#[92,61]⟩] w fun e w'=>e=.returned (.bool true)∧w=w':=by
 go_enter Tryz.func216,Tryz.ntmps216
 go_wp2
 go_ret
 exact ⟨rfl,rfl⟩
theorem sym_is15 (w:World):Calls Tryz.prog 216 #[.string ⟨#[60]⟩] w fun e w'=>e=.returned (.bool true)∧w=w':=by
 go_enter Tryz.func216,Tryz.ntmps216
 go_wp2
 go_ret
 exact ⟨rfl,rfl⟩
theorem sym_is16 (w:World):Calls Tryz.prog 216 #[.string ⟨#[61,60]⟩] w fun e w'=>e=.returned (.bool true)∧w=w':=by
 go_enter Tryz.func216,Tryz.ntmps216
 go_wp2
 go_ret
 exact ⟨rfl,rfl⟩
theorem sym_is17 (w:World):Calls Tryz.prog 216 #[.string ⟨#[62]⟩] w fun e w'=>e=.returned (.bool true)∧w=w':=by
 go_enter Tryz.func216,Tryz.ntmps216
 go_wp2
 go_ret
 exact ⟨rfl,rfl⟩
theorem sym_is18 (w:World):Calls Tryz.prog 216 #[.string ⟨#[62,61]⟩] w fun e w'=>e=.returned (.bool true)∧w=w':=by
 go_enter Tryz.func216,Tryz.ntmps216
 go_wp2
 go_ret
 exact ⟨rfl,rfl⟩
theorem sym_is19 (w:World):Calls Tryz.prog 216 #[.string ⟨#[61,58,61]⟩] w fun e w'=>e=.returned (.bool true)∧w=w':=by
 go_enter Tryz.func216,Tryz.ntmps216
 go_wp2
 go_ret
 exact ⟨rfl,rfl⟩
theorem sym_is20 (w:World):Calls Tryz.prog 216 #[.string ⟨#[61,92,61]⟩] w fun e w'=>e=.returned (.bool true)∧w=w':=by
 go_enter Tryz.func216,Tryz.ntmps216
 go_wp2
 go_ret
 exact ⟨rfl,rfl⟩
theorem sym_is21 (w:World):Calls Tryz.prog 216 #[.string ⟨#[60,61,62]⟩] w fun e w'=>e=.returned (.bool true)∧w=w':=by
 go_enter Tryz.func216,Tryz.ntmps216
 go_wp2
 go_ret
 exact ⟨rfl,rfl⟩
theorem sym_is22 (w:World):Calls Tryz.prog 216 #[.string ⟨#[61,61,62]⟩] w fun e w'=>e=.returned (.bool true)∧w=w':=by
 go_enter Tryz.func216,Tryz.ntmps216
 go_wp2
 go_ret
 exact ⟨rfl,rfl⟩
set_option maxHeartbeats 1000000 in
theorem sym_not (s:ByteArray) (w:World) (h0:s.data.toList≠[64]) (h1:s.data.toList≠[44]) (h2:s.data.toList≠[46]) (h3:s.data.toList≠[40]) (h4:s.data.toList≠[41]) (h5:s.data.toList≠[124]) (h6:s.data.toList≠[47]) (h7:s.data.toList≠[92]) (h8:s.data.toList≠[43]) (h9:s.data.toList≠[45]) (h10:s.data.toList≠[42]) (h11:s.data.toList≠[37]) (h12:s.data.toList≠[61]) (h13:s.data.toList≠[61,61]) (h14:s.data.toList≠[92,61]) (h15:s.data.toList≠[60]) (h16:s.data.toList≠[61,60]) (h17:s.data.toList≠[62]) (h18:s.data.toList≠[62,61]) (h19:s.data.toList≠[61,58,61]) (h20:s.data.toList≠[61,92,61]) (h21:s.data.toList≠[60,61,62]) (h22:s.data.toList≠[61,61,62]):Calls Tryz.prog 216 #[.string s] w fun e w'=>e=.returned (.bool false)∧w=w':=by
 have n0:=raw_ne h0
 have n1:=raw_ne h1
 have n2:=raw_ne h2
 have n3:=raw_ne h3
 have n4:=raw_ne h4
 have n5:=raw_ne h5
 have n6:=raw_ne h6
 have n7:=raw_ne h7
 have n8:=raw_ne h8
 have n9:=raw_ne h9
 have n10:=raw_ne h10
 have n11:=raw_ne h11
 have n12:=raw_ne h12
 have n13:=raw_ne h13
 have n14:=raw_ne h14
 have n15:=raw_ne h15
 have n16:=raw_ne h16
 have n17:=raw_ne h17
 have n18:=raw_ne h18
 have n19:=raw_ne h19
 have n20:=raw_ne h20
 have n21:=raw_ne h21
 have n22:=raw_ne h22
 clear h0 h1 h2 h3 h4 h5 h6 h7 h8 h9 h10 h11 h12 h13 h14 h15 h16 h17 h18 h19 h20 h21 h22
 go_enter Tryz.func216,Tryz.ntmps216
 go_wp2
 go_ret
 exact ⟨rfl,rfl⟩
theorem symb_at (s:ByteArray) (w:World) {r:Bool} (hr:symB s.data.toList=r) :
  Calls Tryz.prog 216 #[.string s] w fun e w'=>e=.returned (.bool r)∧w=w':=by
 by_cases h0:s.data.toList=[64]
 ·obtain rfl:=str_of h0
  obtain rfl:true=r:=by rw [←hr];decide
  exact sym_is0 w
 by_cases h1:s.data.toList=[44]
 ·obtain rfl:=str_of h1
  obtain rfl:true=r:=by rw [←hr];decide
  exact sym_is1 w
 by_cases h2:s.data.toList=[46]
 ·obtain rfl:=str_of h2
  obtain rfl:true=r:=by rw [←hr];decide
  exact sym_is2 w
 by_cases h3:s.data.toList=[40]
 ·obtain rfl:=str_of h3
  obtain rfl:true=r:=by rw [←hr];decide
  exact sym_is3 w
 by_cases h4:s.data.toList=[41]
 ·obtain rfl:=str_of h4
  obtain rfl:true=r:=by rw [←hr];decide
  exact sym_is4 w
 by_cases h5:s.data.toList=[124]
 ·obtain rfl:=str_of h5
  obtain rfl:true=r:=by rw [←hr];decide
  exact sym_is5 w
 by_cases h6:s.data.toList=[47]
 ·obtain rfl:=str_of h6
  obtain rfl:true=r:=by rw [←hr];decide
  exact sym_is6 w
 by_cases h7:s.data.toList=[92]
 ·obtain rfl:=str_of h7
  obtain rfl:true=r:=by rw [←hr];decide
  exact sym_is7 w
 by_cases h8:s.data.toList=[43]
 ·obtain rfl:=str_of h8
  obtain rfl:true=r:=by rw [←hr];decide
  exact sym_is8 w
 by_cases h9:s.data.toList=[45]
 ·obtain rfl:=str_of h9
  obtain rfl:true=r:=by rw [←hr];decide
  exact sym_is9 w
 by_cases h10:s.data.toList=[42]
 ·obtain rfl:=str_of h10
  obtain rfl:true=r:=by rw [←hr];decide
  exact sym_is10 w
 by_cases h11:s.data.toList=[37]
 ·obtain rfl:=str_of h11
  obtain rfl:true=r:=by rw [←hr];decide
  exact sym_is11 w
 by_cases h12:s.data.toList=[61]
 ·obtain rfl:=str_of h12
  obtain rfl:true=r:=by rw [←hr];decide
  exact sym_is12 w
 by_cases h13:s.data.toList=[61,61]
 ·obtain rfl:=str_of h13
  obtain rfl:true=r:=by rw [←hr];decide
  exact sym_is13 w
 by_cases h14:s.data.toList=[92,61]
 ·obtain rfl:=str_of h14
  obtain rfl:true=r:=by rw [←hr];decide
  exact sym_is14 w
 by_cases h15:s.data.toList=[60]
 ·obtain rfl:=str_of h15
  obtain rfl:true=r:=by rw [←hr];decide
  exact sym_is15 w
 by_cases h16:s.data.toList=[61,60]
 ·obtain rfl:=str_of h16
  obtain rfl:true=r:=by rw [←hr];decide
  exact sym_is16 w
 by_cases h17:s.data.toList=[62]
 ·obtain rfl:=str_of h17
  obtain rfl:true=r:=by rw [←hr];decide
  exact sym_is17 w
 by_cases h18:s.data.toList=[62,61]
 ·obtain rfl:=str_of h18
  obtain rfl:true=r:=by rw [←hr];decide
  exact sym_is18 w
 by_cases h19:s.data.toList=[61,58,61]
 ·obtain rfl:=str_of h19
  obtain rfl:true=r:=by rw [←hr];decide
  exact sym_is19 w
 by_cases h20:s.data.toList=[61,92,61]
 ·obtain rfl:=str_of h20
  obtain rfl:true=r:=by rw [←hr];decide
  exact sym_is20 w
 by_cases h21:s.data.toList=[60,61,62]
 ·obtain rfl:=str_of h21
  obtain rfl:true=r:=by rw [←hr];decide
  exact sym_is21 w
 by_cases h22:s.data.toList=[61,61,62]
 ·obtain rfl:=str_of h22
  obtain rfl:true=r:=by rw [←hr];decide
  exact sym_is22 w
 obtain rfl:false=r:=by
  rw [←hr]
  simp only [symB,syms,List.mem_cons,List.not_mem_nil,or_false,h0,h1,h2,h3,h4,h5,h6,h7,h8,h9,h10,h11,h12,h13,h14,h15,h16,h17,h18,h19,h20,h21,h22,decide_false]
 exact sym_not s w h0 h1 h2 h3 h4 h5 h6 h7 h8 h9 h10 h11 h12 h13 h14 h15 h16 h17 h18 h19 h20 h21 h22
end Go.Proofs.YtnghanpmmbcbbaaGreatDoor
namespace Go.Proofs.YtnghanpmmbcbbaaGreatDoor
open Go.RowKit
theorem sym_len:∀y∈syms,1≤y.length∧y.length≤3:=by decide
def NoneUp (l:List UInt8) (k:Nat):Prop:=∀j,k < j→j≤3→j≤l.length→l.take j∉syms
theorem sym_none {l:List UInt8} (h:NoneUp l 0):symP l=[]:=by
 obtain ⟨h1,h2,_⟩:=symP_facts l
 rcases h1 with h1|h1
 ·exact h1
 ·obtain ⟨h3,h4⟩:=sym_len _ h1
  exact absurd (by rw [←List.prefix_iff_eq_take.1 h2];exact h1) (h _ h3 h4 h2.length_le)
theorem sym_found {l:List UInt8} {k:Nat} (h:NoneUp l k) (hk:k≤l.length) (hm:l.take k∈syms):symP l=l.take k:=by
 refine symP_unique hm (List.take_prefix _ _) fun y hy hp=>?_
 rw [List.length_take,Nat.min_eq_left hk]
 rcases Nat.lt_or_ge k y.length with h1|h1
 ·exact absurd (by rw [←List.prefix_iff_eq_take.1 hp];exact hy) (h _ h1 (sym_len y hy).2 hp.length_le)
 ·exact h1
theorem none_next {l:List UInt8} {k:Nat} (h:NoneUp l k) (hk:l.take k∉syms):NoneUp l (k - 1):=fun j h1 h2 h3=>by
 by_cases e:j=k
 ·rw [e];exact hk
 ·exact h j (by omega) h2 h3
set_option maxHeartbeats 1000000 in
theorem symbol_loop (s:ByteArray) (q:Nat) (w:World) (hs:s.size≤100000) (hq:q≤s.size) :
  Calls Tryz.prog 199 #[.string s,.int .i64 (q:Int)] w fun e w'=>e=.returned (.string (S (symP (rest s q))))∧w=w':=by
 have QB:=Lib.hid symb_at
 have h1:¬s.size < q:=by omega
 have hl:=rest_len s q
 have HS:Hid (∀k:Nat,(s.extract q (q+k)).data.toList=(rest s q).take k):=Lib.hid fun k=>by rw [extract_list,Nat.add_sub_cancel_left]
 by_cases h3:(s.size:Int) - (q:Int) < 3
 all_goals
  go_enter Tryz.func199,Tryz.ntmps199
  go_wp2
  go_loop [5] (fun i=>∃k:Nat,k≤3∧q+k≤s.size∧i=.int .i64 (k:Int)∧Hid (NoneUp (rest s q) k)) (fun i=>(intOf i).toNat)
  case atStart=>first|exact ⟨3,Nat.le_refl _,by omega,rfl,fun j h1 h2 _=>by omega⟩|exact ⟨s.size - q,by omega,by omega,(by rw [show ((s.size - q:Nat):Int)=(s.size:Int) - (q:Int) by omega]),fun j h1 _ h2=>by omega⟩
  case round =>
   obtain ⟨k,hk3,hkq,rfl,hk⟩:=hrel
   by_cases h0:k=0
   ·subst h0
    have HV:=Lib.hid (sym_none hk.out)
    go_wp2
    go_ret
    exact ⟨by rw [HV.out];rfl,rfl⟩
   ·have h0':0 < k:=by omega
    have h63:¬(9223372036854775807 < (q:Int)+(k:Int)):=by omega
    have hqk:(q:Int)≤(q:Int)+(k:Int):=by omega
    have hsz:(q:Int)+(k:Int)≤(s.size:Int):=by omega
    have hX:=HS.out k
    have eN:((q:Int)+(k:Int)).toNat=q+k:=by omega
    obtain ⟨b,hb⟩:∃b,symB (s.extract q (q+k)).data.toList=b:=⟨_,rfl⟩
    have Q1:=Lib.hid (fun W=>QB.out (s.extract q (q+k)) W hb)
    rw [hX] at hb
    have HB:=Lib.hid hb
    have HX:=Lib.hid hX
    clear hb hX
    cases b
    ·have HN:=Lib.hid (none_next hk.out (by simpa [symB] using HB.out))
     go_wp2_with (go_at_call 216;refine (Q1.out _).mono ?_;rintro e w' ⟨rfl,rfl⟩)
     go_round
     case rel=>exact ⟨k - 1,by omega,by omega,by go_num,HN.out⟩
     case measure=>simp [intOf];omega
    ·have HN:=Lib.hid (sym_found hk.out (by omega) (by simpa [symB] using HB.out))
     go_wp2_with (go_at_call 216;refine (Q1.out _).mono ?_;rintro e w' ⟨rfl,rfl⟩)
     go_ret
     exact ⟨by rw [HN.out,← S_of HX.out];rfl,rfl⟩
end Go.Proofs.YtnghanpmmbcbbaaGreatDoor
namespace Go.Proofs.YtnghanpmmbcbbaaGreatDoor
open Go.RowKit
set_option maxHeartbeats 1000000 in
theorem span_word (s:ByteArray) (p:Nat) (w:World) (hs:s.size≤100000) (hp:p≤s.size) {n:Nat} (hn:p+runP inB s p=n) :
  Calls Tryz.prog 195 #[.string s,.int .i64 (p:Int),.func (.func 196) #[] #[]] w fun e w'=>e=.returned (.int .i64 (n:Int))∧w=w':=by
 have QF:=Lib.hid tk_word_at
 go_enter Tryz.func195,Tryz.ntmps195
 go_wp2
 go_loop [1] (fun i=>∃q:Nat,q≤s.size∧i=.int .i64 (q:Int)∧Hid (q+runP inB s q=n)) (fun i=>s.size - (intOf i).toNat)
 case atStart=>exact ⟨p,hp,rfl,hn⟩
 case round =>
  obtain ⟨q,hq,rfl,hk⟩:=hrel
  by_cases hlt:q < s.size
  ·have hlt':(q:Int) < (s.size:Int):=by omega
   obtain ⟨b1,hb1⟩:∃b,inB s[q]=b:=⟨_,rfl⟩
   have Q1:=Lib.hid (fun W=>QF.out s[q] W hb1)
   have HB:=Lib.hid hb1
   clear hb1
   cases b1
   ·have HE:=Lib.hid (show q=n by have:=hk.out;rw [runP_stop (fun _=>HB.out)] at this;exact this)
    go_wp2_with (go_at_call 196;refine (Q1.out _).mono ?_;rintro e w' ⟨rfl,rfl⟩)
    go_ret
    exact ⟨by rw [←HE.out];rfl,rfl⟩
   ·have HE:=Lib.hid (show (q+1)+runP inB s (q+1)=n by have:=hk.out;rw [runP_next hlt HB.out] at this;omega)
    have hq1:¬(9223372036854775807 < (q:Int)+1):=by omega
    go_wp2_with (go_at_call 196;refine (Q1.out _).mono ?_;rintro e w' ⟨rfl,rfl⟩)
    go_round
    case rel=>exact ⟨q+1,by omega,by go_num,HE.out⟩
    case measure=>simp [intOf];omega
  ·have HE:=Lib.hid (show q=n by have:=hk.out;rw [runP_stop (fun h=>absurd h hlt)] at this;exact this)
   go_wp2
   go_ret
   exact ⟨by rw [←HE.out];rfl,rfl⟩
set_option maxHeartbeats 1000000 in
theorem span_dig (s:ByteArray) (p:Nat) (w:World) (hs:s.size≤100000) (hp:p≤s.size) {n:Nat} (hn:p+runP digB s p=n) :
  Calls Tryz.prog 195 #[.string s,.int .i64 (p:Int),.func (.func 198) #[] #[]] w fun e w'=>e=.returned (.int .i64 (n:Int))∧w=w':=by
 have QF:=Lib.hid tk_dig_at
 go_enter Tryz.func195,Tryz.ntmps195
 go_wp2
 go_loop [1] (fun i=>∃q:Nat,q≤s.size∧i=.int .i64 (q:Int)∧Hid (q+runP digB s q=n)) (fun i=>s.size - (intOf i).toNat)
 case atStart=>exact ⟨p,hp,rfl,hn⟩
 case round =>
  obtain ⟨q,hq,rfl,hk⟩:=hrel
  by_cases hlt:q < s.size
  ·have hlt':(q:Int) < (s.size:Int):=by omega
   obtain ⟨b1,hb1⟩:∃b,digB s[q]=b:=⟨_,rfl⟩
   have Q1:=Lib.hid (fun W=>QF.out s[q] W hb1)
   have HB:=Lib.hid hb1
   clear hb1
   cases b1
   ·have HE:=Lib.hid (show q=n by have:=hk.out;rw [runP_stop (fun _=>HB.out)] at this;exact this)
    go_wp2_with (go_at_call 198;refine (Q1.out _).mono ?_;rintro e w' ⟨rfl,rfl⟩)
    go_ret
    exact ⟨by rw [←HE.out];rfl,rfl⟩
   ·have HE:=Lib.hid (show (q+1)+runP digB s (q+1)=n by have:=hk.out;rw [runP_next hlt HB.out] at this;omega)
    have hq1:¬(9223372036854775807 < (q:Int)+1):=by omega
    go_wp2_with (go_at_call 198;refine (Q1.out _).mono ?_;rintro e w' ⟨rfl,rfl⟩)
    go_round
    case rel=>exact ⟨q+1,by omega,by go_num,HE.out⟩
    case measure=>simp [intOf];omega
  ·have HE:=Lib.hid (show q=n by have:=hk.out;rw [runP_stop (fun h=>absurd h hlt)] at this;exact this)
   go_wp2
   go_ret
   exact ⟨by rw [←HE.out];rfl,rfl⟩
theorem valD_top:∀(l:List UInt8),l.foldl (fun (n:Int) c=>min (n*10+(c.toNat - 48:Int)) 2147483649) 2147483649=2147483649
 | []=>rfl
 | c :: l=>by
  rw [List.foldl_cons,Int.min_eq_right (by omega)]
  exact valD_top l
theorem valD_snoc (l:List UInt8) (c:UInt8):valD (l++[c])=min (valD l*10+(c.toNat - 48:Int)) 2147483649:=by simp [valD]
theorem valD_past {l m:List UInt8} (h:2147483648 < valD l):2147483648 < valD (l++m):=by
 have h1:valD l≤2147483649:=by
  rcases List.eq_nil_or_concat l with rfl|⟨k,c,rfl⟩
  ·decide
  ·rw [List.concat_eq_append,valD_snoc];exact Int.min_le_right _ _
 have h2:valD l=2147483649:=by omega
 unfold valD at h2 ⊢
 rw [List.foldl_append,h2,valD_top]
 omega
theorem valD_step {s:ByteArray} {k:Nat} {v:Int} (h:k < s.size) (hv:valD (s.data.toList.take k)=v):valD (s.data.toList.take (k+1))=min (v*10+(s[k].toNat - 48:Int)) 2147483649:=by
 rw [take_next h,valD_snoc,hv]
theorem take_all (s:ByteArray):s.data.toList.take s.size=s.data.toList:=List.take_of_length_le (by rw [len_str];exact Nat.le_refl _)
theorem valD_over {s:ByteArray} {k:Nat} (h:2147483648 < valD (s.data.toList.take k)):2147483648 < valD s.data.toList:=by
 rw [←List.take_append_drop k s.data.toList]
 exact valD_past h
theorem dig_range {c:UInt8} (h:digB c=true):48≤c.toNat∧c.toNat≤57:=by simpa [digB] using h
set_option maxHeartbeats 1000000 in
theorem range_at (s:ByteArray) (w:World) (hs:s.size≤100000) (hd:∀k (h:k < s.size),digB s[k]=true) {r:Bool} (hr:decide (valD s.data.toList≤2147483648)=r) :
  Calls Tryz.prog 201 #[.string s] w fun e w'=>e=.returned (.bool r)∧w=w':=by
 have HD:=Lib.hid hd
 have HR:=Lib.hid hr
 clear hd hr
 go_enter Tryz.func201,Tryz.ntmps201
 go_wp2
 go_loop [7,3] (fun i v=>∃(k:Nat) (x:Int),k≤s.size∧i=.int .i64 (k:Int)∧v=.int .i64 x∧0≤x∧x≤2147483648∧Hid (valD (s.data.toList.take k)=x)) (fun i _=>s.size - (intOf i).toNat)
 case atStart=>exact ⟨0,0,Nat.zero_le _,rfl,rfl,by decide,by decide,Lib.hid rfl⟩
 case round =>
  obtain ⟨k,x,hk,rfl,rfl,hx0,hx1,hv⟩:=hrel
  by_cases hlt:k < s.size
  ·have hlt':(k:Int) < (s.size:Int):=by omega
   obtain ⟨d1,d2⟩:=dig_range (HD.out k hlt)
   have hm:valD (s.data.toList.take (k+1))=min (x*10+(s[k].toNat - 48:Int)) 2147483649:=valD_step hlt hv.out
   by_cases hbig:2147483648 < 10*x+((s[k].toNat:Int) - 48)
   ·have HV:=Lib.hid (show r=false by
     rw [←HR.out]
     have:=valD_over (s:=s) (k:=k+1) (by rw [hm];omega)
     simp;omega)
    clear hm
    go_wp2
    go_ret
    exact ⟨ret_bool HV.out.symm,rfl⟩
   ·have HV:=Lib.hid (show valD (s.data.toList.take (k+1))=10*x+((s[k].toNat:Int) - 48) by rw [hm];omega)
    clear hm
    have hle:10*x+((s[k].toNat:Int) - 48)≤2147483648:=by omega
    go_wp2
    go_round
    case rel=>exact ⟨k+1,_,by omega,by go_num,rfl,by omega,hle,HV⟩
    case measure=>simp [intOf];omega
  ·obtain rfl:k=s.size:=by omega
   have HV:=Lib.hid (show r=true by rw [←HR.out,← take_all s,hv.out];simpa using hx1)
   go_wp2
   go_ret
   exact ⟨ret_bool HV.out.symm,rfl⟩
end Go.Proofs.YtnghanpmmbcbbaaGreatDoor
namespace Go.Proofs.YtnghanpmmbcbbaaGreatDoor
open Go.RowKit
def Bound (k:Int) (m:Nat) (w:World) (e:Ending) (w':World):Prop:=e=.returned (.tuple #[.int .i64 k,.int .i64 (m:Int)])∧w=w'
theorem bound_end (s:ByteArray) (w:World):Calls Tryz.prog 172 #[.string s,.int .i64 (s.size:Int)] w (Bound 0 s.size w):=by
 go_enter Tryz.func172,Tryz.ntmps172
 go_wp2
 exact bodyPost_ret (v:=.tuple #[.int .i64 0,.int .i64 ((s.size:Int))]) (by simp [results,Tryz.results172,go_sem]) rfl ⟨by first|rfl|(rw [Int.natCast_add]),rfl⟩
section
variable (s:ByteArray) (q:Nat) (w:World) (hs:s.size≤100000) (hq:q < s.size)
include hs
theorem bound_low (h:lowB s[q]=true):Calls Tryz.prog 172 #[.string s,.int .i64 (q:Int)] w (Bound 1 (q+runP inB s q) w):=by
 have hq':(q:Int) < (s.size:Int):=by omega
 have he:((q:Int)==(s.size:Int))=false:=by simp;omega
 have Q1:=Lib.hid (fun W=>tk_low_at s[q] W h)
 have Q2:=Lib.hid (fun W=>span_word s q W hs (by omega) rfl)
 clear h
 go_enter Tryz.func172,Tryz.ntmps172
 go_wp2_with (first|(go_at_call 194;refine (Q1.out _).mono ?_;rintro e w' ⟨rfl,rfl⟩)|(go_at_call 195;refine (Q2.out _).mono ?_;rintro e w' ⟨rfl,rfl⟩))
 exact bodyPost_ret (v:=.tuple #[.int .i64 1,.int .i64 (((q+runP inB s q:Nat):Int))]) (by simp [results,Tryz.results172,go_sem]) rfl ⟨by first|rfl|(rw [Int.natCast_add]),rfl⟩
theorem bound_var (h:lowB s[q]=false) (h2:(uppB s[q]||undB s[q])=true):Calls Tryz.prog 172 #[.string s,.int .i64 (q:Int)] w (Bound 2 (q+runP inB s q) w):=by
 have hq':(q:Int) < (s.size:Int):=by omega
 have he:((q:Int)==(s.size:Int))=false:=by simp;omega
 have Q1:=Lib.hid (fun W=>tk_low_at s[q] W h)
 have Q2:=Lib.hid (fun W=>span_word s q W hs (by omega) rfl)
 obtain ⟨b,hb⟩:∃b,uppB s[q]=b:=⟨_,rfl⟩
 have Q3:=Lib.hid (fun W=>tk_upp_at s[q] W hb)
 cases b
 ·have hu:((s[q].toNat:Int)==95)=true:=by
   rw [hb,Bool.false_or] at h2
   have:s[q].toNat=95:=by simpa [undB] using h2
   simp;omega
  clear h h2 hb
  go_enter Tryz.func172,Tryz.ntmps172
  go_wp2_with (first|(go_at_call 194;refine (Q1.out _).mono ?_;rintro e w' ⟨rfl,rfl⟩)|(go_at_call 197;refine (Q3.out _).mono ?_;rintro e w' ⟨rfl,rfl⟩)|(go_at_call 195;refine (Q2.out _).mono ?_;rintro e w' ⟨rfl,rfl⟩))
  exact bodyPost_ret (v:=.tuple #[.int .i64 2,.int .i64 (((q+runP inB s q:Nat):Int))]) (by simp [results,Tryz.results172,go_sem]) rfl ⟨by first|rfl|(rw [Int.natCast_add]),rfl⟩
 ·clear h h2 hb
  go_enter Tryz.func172,Tryz.ntmps172
  go_wp2_with (first|(go_at_call 194;refine (Q1.out _).mono ?_;rintro e w' ⟨rfl,rfl⟩)|(go_at_call 197;refine (Q3.out _).mono ?_;rintro e w' ⟨rfl,rfl⟩)|(go_at_call 195;refine (Q2.out _).mono ?_;rintro e w' ⟨rfl,rfl⟩))
  exact bodyPost_ret (v:=.tuple #[.int .i64 2,.int .i64 (((q+runP inB s q:Nat):Int))]) (by simp [results,Tryz.results172,go_sem]) rfl ⟨by first|rfl|(rw [Int.natCast_add]),rfl⟩
theorem bound_dig (h:wordyB s[q]=false) (h2:digB s[q]=true):Calls Tryz.prog 172 #[.string s,.int .i64 (q:Int)] w (Bound 3 (q+runP digB s q) w):=by
 have hq':(q:Int) < (s.size:Int):=by omega
 have he:((q:Int)==(s.size:Int))=false:=by simp;omega
 simp only [wordyB,Bool.or_eq_false_iff] at h
 obtain ⟨h3,h4,h5⟩:=h
 have hu:((s[q].toNat:Int)==95)=false:=by
  have:¬s[q].toNat=95:=by simpa [undB] using h5
  simp;omega
 have Q1:=Lib.hid (fun W=>tk_low_at s[q] W h3)
 have Q3:=Lib.hid (fun W=>tk_upp_at s[q] W h4)
 have Q4:=Lib.hid (fun W=>tk_dig_at s[q] W h2)
 have Q2:=Lib.hid (fun W=>span_dig s q W hs (by omega) rfl)
 clear h2 h3 h4 h5
 go_enter Tryz.func172,Tryz.ntmps172
 go_wp2_with (first|(go_at_call 194;refine (Q1.out _).mono ?_;rintro e w' ⟨rfl,rfl⟩)|(go_at_call 197;refine (Q3.out _).mono ?_;rintro e w' ⟨rfl,rfl⟩)|(go_at_call 198;refine (Q4.out _).mono ?_;rintro e w' ⟨rfl,rfl⟩)|(go_at_call 195;refine (Q2.out _).mono ?_;rintro e w' ⟨rfl,rfl⟩))
 exact bodyPost_ret (v:=.tuple #[.int .i64 3,.int .i64 (((q+runP digB s q:Nat):Int))]) (by simp [results,Tryz.results172,go_sem]) rfl ⟨by first|rfl|(rw [Int.natCast_add]),rfl⟩
theorem bound_sym (h:wordyB s[q]=false) (h2:digB s[q]=false):Calls Tryz.prog 172 #[.string s,.int .i64 (q:Int)] w (Bound 4 (q+(symP (rest s q)).length) w):=by
 have hq':(q:Int) < (s.size:Int):=by omega
 have he:((q:Int)==(s.size:Int))=false:=by simp;omega
 simp only [wordyB,Bool.or_eq_false_iff] at h
 obtain ⟨h3,h4,h5⟩:=h
 have hu:((s[q].toNat:Int)==95)=false:=by
  have:¬s[q].toNat=95:=by simpa [undB] using h5
  simp;omega
 have Q1:=Lib.hid (fun W=>tk_low_at s[q] W h3)
 have Q3:=Lib.hid (fun W=>tk_upp_at s[q] W h4)
 have Q4:=Lib.hid (fun W=>tk_dig_at s[q] W h2)
 have Q2:=Lib.hid (fun W=>symbol_loop s q W hs (by omega))
 have hl:=symP_le (s:=s) (q:=q) (by omega)
 obtain ⟨x,hx⟩:∃x,symP (rest s q)=x:=⟨_,rfl⟩
 rw [hx] at Q2 hl ⊢
 have h63:¬(9223372036854775807 < (q:Int)+(x.length:Int)):=by omega
 have hsz:(S x).size=x.length:=by simp [ByteArray.size]
 clear h2 h3 h4 h5
 go_enter Tryz.func172,Tryz.ntmps172
 go_wp2_with (first|(go_at_call 194;refine (Q1.out _).mono ?_;rintro e w' ⟨rfl,rfl⟩)|(go_at_call 197;refine (Q3.out _).mono ?_;rintro e w' ⟨rfl,rfl⟩)|(go_at_call 198;refine (Q4.out _).mono ?_;rintro e w' ⟨rfl,rfl⟩)|(go_at_call 199;refine (Q2.out _).mono ?_;rintro e w' ⟨rfl,rfl⟩))
 exact bodyPost_ret (v:=.tuple #[.int .i64 4,.int .i64 ((q:Int)+(x.length:Int))]) (by simp [results,Tryz.results172,go_sem]) rfl ⟨by first|rfl|(rw [Int.natCast_add]),rfl⟩
end
theorem check_end (x:ByteArray) (w:World):Calls Tryz.prog 173 #[.int .i64 0,.string x] w fun e w'=>e=.returned (.int .i64 0)∧w=w':=by
 go_enter Tryz.func173,Tryz.ntmps173
 go_wp2
 go_ret
 exact ⟨rfl,rfl⟩
theorem check_name (x:ByteArray) (w:World) (hs:x.size≤100000) (ha:∀c∈x.data.toList,inB c=true) (h1:1≤x.size) (hl:lowB (x.data.toList.getD 0 0)=true) {r:Int} (hr:(if 40 < x.size then 7 else 0)=r) :
  Calls Tryz.prog 173 #[.int .i64 1,.string x] w fun e w'=>e=.returned (.int .i64 r)∧w=w':=by
 subst hr
 by_cases h40:40 < x.size
 ·rw [if_pos h40]
  have Q1:=Lib.hid (fun W=>right_at x W (by omega) (r:=false) (by unfold rightB;rw [word_long h40];rfl))
  have Q2:=Lib.hid (fun W=>res_at x W (r:=false) (by
   simp only [resB,reserved,List.mem_cons,List.not_mem_nil,or_false,decide_eq_false_iff_not]
   rw [←len_str] at h40
   intro h
   rcases h with h|h|h|h|h|h<;>rw [h] at h40<;>simp at h40))
  clear ha hl
  go_enter Tryz.func173,Tryz.ntmps173
  go_wp2_with (first|(go_at_call 69;refine (Q1.out _).mono ?_;rintro e w' ⟨rfl,rfl⟩)|(go_at_call 112;refine (Q2.out _).mono ?_;rintro e w' ⟨rfl,rfl⟩))
  go_ret
  exact ⟨rfl,rfl⟩
 ·rw [if_neg h40]
  obtain ⟨b,hb⟩:∃b,resB x.data.toList=b:=⟨_,rfl⟩
  have hw:wordB x.data.toList=true:=(wordB_iff _).2 ⟨by rw [len_str];exact h1,by rw [len_str];omega,ha⟩
  have Q1:=Lib.hid (fun W=>right_at x W (by omega) (r := !b) (by unfold rightB;rw [hw,hl,hb];rfl))
  have Q2:=Lib.hid (fun W=>res_at x W hb)
  clear ha hl hb hw
  cases b
  ·go_enter Tryz.func173,Tryz.ntmps173
   go_wp2_with (first|(go_at_call 69;refine (Q1.out _).mono ?_;rintro e w' ⟨rfl,rfl⟩)|(go_at_call 112;refine (Q2.out _).mono ?_;rintro e w' ⟨rfl,rfl⟩))
   go_ret
   exact ⟨rfl,rfl⟩
  ·go_enter Tryz.func173,Tryz.ntmps173
   go_wp2_with (first|(go_at_call 69;refine (Q1.out _).mono ?_;rintro e w' ⟨rfl,rfl⟩)|(go_at_call 112;refine (Q2.out _).mono ?_;rintro e w' ⟨rfl,rfl⟩))
   go_ret
   exact ⟨rfl,rfl⟩
theorem check_var (x:ByteArray) (w:World) (hs:x.size≤100000) (ha:∀c∈x.data.toList,inB c=true) (h1:1≤x.size) (hl:(uppB (x.data.toList.getD 0 0)||undB (x.data.toList.getD 0 0))=true) {r:Int} (hr:(if 40 < x.size then 7 else 0)=r) :
  Calls Tryz.prog 173 #[.int .i64 2,.string x] w fun e w'=>e=.returned (.int .i64 r)∧w=w':=by
 subst hr
 by_cases h40:40 < x.size
 ·rw [if_pos h40]
  have Q1:=Lib.hid (fun W=>var_at x W (by omega) (r:=false) (by unfold varB;rw [word_long h40];rfl))
  clear ha hl
  go_enter Tryz.func173,Tryz.ntmps173
  go_wp2_with (go_at_call 200;refine (Q1.out _).mono ?_;rintro e w' ⟨rfl,rfl⟩)
  go_ret
  exact ⟨rfl,rfl⟩
 ·rw [if_neg h40]
  have hw:wordB x.data.toList=true:=(wordB_iff _).2 ⟨by rw [len_str];exact h1,by rw [len_str];omega,ha⟩
  have Q1:=Lib.hid (fun W=>var_at x W (by omega) (r:=true) (by unfold varB;rw [hw,hl];rfl))
  clear ha hl hw
  go_enter Tryz.func173,Tryz.ntmps173
  go_wp2_with (go_at_call 200;refine (Q1.out _).mono ?_;rintro e w' ⟨rfl,rfl⟩)
  go_ret
  exact ⟨rfl,rfl⟩
theorem check_int (x:ByteArray) (w:World) (hs:x.size≤100000) (ha:∀c∈x.data.toList,digB c=true) {r:Int} (hr:(if 2147483648 < valD x.data.toList then 5 else 0)=r) :
  Calls Tryz.prog 173 #[.int .i64 3,.string x] w fun e w'=>e=.returned (.int .i64 r)∧w=w':=by
 subst hr
 have hd:∀k (h:k < x.size),digB x[k]=true:=fun k h=>ha _ (by
  have hl:k < x.data.toList.length:=by rw [len_str];exact h
  exact List.getElem_mem hl)
 by_cases h40:2147483648 < valD x.data.toList
 ·rw [if_pos h40]
  have Q1:=Lib.hid (fun W=>range_at x W hs hd (r:=false) (by simpa using h40))
  clear ha hd h40
  go_enter Tryz.func173,Tryz.ntmps173
  go_wp2_with (go_at_call 201;refine (Q1.out _).mono ?_;rintro e w' ⟨rfl,rfl⟩)
  go_ret
  exact ⟨rfl,rfl⟩
 ·rw [if_neg h40]
  have Q1:=Lib.hid (fun W=>range_at x W hs hd (r:=true) (by simpa using h40))
  clear ha hd h40
  go_enter Tryz.func173,Tryz.ntmps173
  go_wp2_with (go_at_call 201;refine (Q1.out _).mono ?_;rintro e w' ⟨rfl,rfl⟩)
  go_ret
  exact ⟨rfl,rfl⟩
theorem check_none (w:World):Calls Tryz.prog 173 #[.int .i64 4,.string ⟨#[]⟩] w fun e w'=>e=.returned (.int .i64 16)∧w=w':=by
 go_enter Tryz.func173,Tryz.ntmps173
 go_wp2
 go_ret
 exact ⟨rfl,rfl⟩
theorem check_sym (x:ByteArray) (w:World) (h:x.data.toList≠[]):Calls Tryz.prog 173 #[.int .i64 4,.string x] w fun e w'=>e=.returned (.int .i64 0)∧w=w':=by
 have hx:x.toList.isEmpty=false:=by rw [raw_list];simpa using h
 clear h
 go_enter Tryz.func173,Tryz.ntmps173
 go_wp2
 go_ret
 exact ⟨rfl,rfl⟩
end Go.Proofs.YtnghanpmmbcbbaaGreatDoor
