/-
  RzPlainB.
  RzPlain.
  RzListP.
-/
import Derived.Test.YtaojnljppcnhjaaGreatDoorMh24
import Derived.Test.YtaojnljppcnhjaaGreatDoorMh18
import Derived.Test.YtaojnljppcnhjaaGreatDoorMh25
import Derived.Test.YtaojnljppcnhjaaGreatDoorMh11
import Derived.Test.YtaojnljppcnhjaaGreatDoorMh10
import Derived.Test.YtaojnljppcnhjaaGreatDoorMh9
namespace Go.Proofs.YtaojnljppcnhjaaGreatDoor
open Go.RowKit
section
variable {R:Nat} {A:Option Addr} {c:Nat} {l:List Tk}
theorem row2_named (w:World) (u y:Tm) {nm:List UInt8} (hnm:u.name=S nm) (hu:u.At w) (hy:y.At w):Lst (w.alloc (.cells #[.int .i64 u.kind,.int .i64 u.num,.string (S nm),.slice u.at_ u.args.length u.cap,.int .i64 y.kind,.int .i64 y.num,.string y.name,.slice y.at_ y.args.length y.cap] 56)) (some ⟨w.heap.size,0,none⟩) [u,y] 2:=by
 have:=row2_lst w u y hu hy
 rw [hnm] at this
 exact this
theorem row2_named2 (w:World) (u y:Tm) {nm:List UInt8} (hnm:u.name=S nm) (hu:u.At w) (hy:y.At w):Lst (w.alloc (.cells #[.int .i64 y.kind,.int .i64 y.num,.string y.name,.slice y.at_ y.args.length y.cap,.int .i64 u.kind,.int .i64 u.num,.string (S nm),.slice u.at_ u.args.length u.cap] 56)) (some ⟨w.heap.size,0,none⟩) [y,u] 2:=by
 have:=row2_lst w y u hy hu
 rw [hnm] at this
 exact this
set_option maxHeartbeats 4000000 in
set_option maxRecDepth 100000 in
theorem plainz_other (hg:GoodT l) {n:Nat} {ex:Rd1 Tm} (hE:ExprZ R A c l n ex) (i:Nat) (z:Value) (ns:List (List UInt8)) (at_:Nat) (w:World) (h:Pr w R A c l i z ns at_ 0) (hn:(leftT l i).length≤n) (hns:ns.length+(leftT l i).length≤100000)
  (hB:(l.getD i default).1≠1) :
  Calls Tryz.prog 61 #[.pointer (some ⟨R,0,none⟩)] w (ElZ elGl Gl.val sG (goalS ex) R A c l i z ns w):=by
 have HG:=Lib.hid hg
 have HI:=Lib.hid h.ilt
 obtain ⟨t,ht⟩:∃t,l.getD i default=t:=⟨_,rfl⟩
 obtain ⟨k,p,x⟩:=t
 have HX:=Lib.hid (show x.length≤16384 by have:=hg.texts i h.ilt;rw [ht] at this;exact this)
 have HC:=Lib.hid (show leftT l i=(k,x,markT l i) :: leftT l (i+1) by rw [left_cons h.ilt,ht])
 have Q:=Lib.hid (r_tok_of (h.alloc (.cells #[.int .i64 0,.string ⟨#[]⟩,.slice none 0 0] 54)) ht)
 have H:=Lib.hid h
 have HT:=Lib.hid ht
 have hR:=h.lt
 have hTR:w.heap.size≠R:=by omega
 have HZ0:=Lib.hid h.znew
 have HB0:=Lib.hid (BoxL.new w [.int .i64 0,.string ⟨#[]⟩,.slice none 0 0] 54)
 have HA0:=Lib.hid (show Kp R z z w (w.alloc (.cells #[.int .i64 0,.string ⟨#[]⟩,.slice none 0 0] 54)) from (Kp.refl R z w).alloc _)
 have HNN:=Lib.hid (And.intro hn hns)
 have QE:=Lib.hid hE
 have hk1:k≠1:=by rw [ht] at hB;exact hB
 have HK1n:=Lib.hid hk1
 have HNB:=Lib.hid (show ¬(k=1∧resB x=true) from fun e=>hk1 e.1)
 have hk2:(k==1)=false:=by simpa using hk1
 have hk3:(k != 1)=true:=by simpa using hk1
 have HV:=Lib.hid (goalS_expr ex (k:=k) (x:=x) HNB.out (markT l i) (leftT l (i+1)) ns)
 clear h ht hg hE hn hns hB hk1
 go_enter Tryz.func61,Tryz.ntmps61
 go_wp2_with (go_at_call 27;(with_reducible refine Q.out.mono ?_);rintro en w2 ⟨rfl,hb2⟩;have hb3:=hb2.alloc hb2.size (.cells #[.int .i64 k,.int .i64 (p:Int),.string (S x)] 67);have hsz:w.heap.size+1≤w2.heap.size:=(by have:=hb2.size;simpa using this);have hne2:¬w2.heap.size=R:=(by omega);have hnw:¬w2.heap.size=w.heap.size:=(by omega);have HP2:=Lib.hid ((H.out.alloc _).below hb3);have HB2:=Lib.hid (HB0.out.below hb3);have HT2:=Lib.hid (BoxL.new w2 [.int .i64 k,.int .i64 (p:Int),.string (S x)] 67);have HK2:=Lib.hid (HA0.out.trans (Below.kp hb3 R z));have HZ2:=Lib.hid (show z.ownBlock≠some w2.heap.size from fun e=>by have:=(H.out.zlt _ e).2;omega);clear hb2 hb3)
 refine (QE.out i z ns at_ _ HP2.out HNN.out.1 HNN.out.2).mono ?_
 rintro e w5 ⟨u,b,he,ho⟩
 obtain ⟨nm,hnm⟩:∃nm,u.name=S nm:=⟨u.name.data.toList,rfl⟩
 have he2:e=.returned (.tuple #[.agg #[.int .i64 u.kind,.int .i64 u.num,.string (S nm),.slice u.at_ u.args.length u.cap],.bool b]):=by rw [←hnm];exact he
 clear he
 subst he2
 have HNm:=Lib.hid hnm
 clear hnm
 rcases ho with ⟨rfl,z5,ns5,j,a5,hk5,hp5,hf,hij,hl5,hs5⟩|⟨rfl,z5,ns5,j,m,e5,hk5,hp5,he5,hf⟩
 ·have hs5':w2.heap.size+1≤w5.heap.size:=by have:=hk5.size;simpa using this
  have HZ5:=Lib.hid (hk5.off HB2.out.lt HZ0.out)
  have HB5:=Lib.hid (HB2.out.kz hk5 hTR HZ0.out)
  have HT5:=Lib.hid (HT2.out.kz hk5 hne2 HZ2.out)
  have HK5:=Lib.hid (HK2.out.trans hk5)
  have HU6:=Lib.hid (BoxL.new w5 [.int .i64 u.kind,.int .i64 u.num,.string (S nm),.slice u.at_ u.args.length u.cap] 56)
  have HP6:=Lib.hid (hp5.alloc (.cells #[.int .i64 u.kind,.int .i64 u.num,.string (S nm),.slice u.at_ u.args.length u.cap] 56))
  have HB6:=Lib.hid (HB5.out.alloc (.cells #[.int .i64 u.kind,.int .i64 u.num,.string (S nm),.slice u.at_ u.args.length u.cap] 56))
  have HT6:=Lib.hid (HT5.out.alloc (.cells #[.int .i64 u.kind,.int .i64 u.num,.string (S nm),.slice u.at_ u.args.length u.cap] 56))
  have HK6:=Lib.hid (HK5.out.alloc (.cells #[.int .i64 u.kind,.int .i64 u.num,.string (S nm),.slice u.at_ u.args.length u.cap] 56))
  have HS6:=Lib.hid (hs5.alloc (.cells #[.int .i64 u.kind,.int .i64 u.num,.string (S nm),.slice u.at_ u.args.length u.cap] 56))
  have HZX:=Lib.hid hp5.znew
  have HF:=Lib.hid (And.intro hf (And.intro hij hl5))
  have hji:=hp5.ilt
  have HJ:=Lib.hid hji
  obtain ⟨t,ht⟩:∃t,l.getD j default=t:=⟨_,rfl⟩
  obtain ⟨k',p',x'⟩:=t
  have HTj:=Lib.hid ht
  have HCm:=Lib.hid (show cmpS (leftT l j)=opT x' by rw [cmp_left HG.out hji,ht])
  have fa:=tok_at k' (p':Int) (S x')
  obtain ⟨o,ho⟩:∃o,(opT x').1=o:=⟨_,rfl⟩
  obtain ⟨tn,htn⟩:∃tn,(opT x').2=tn:=⟨_,rfl⟩
  have HOf:=Lib.hid (show Fits o by rw [←ho];exact opT_fits x')
  have HOT:=Lib.hid (And.intro ho htn)
  have QC:=Lib.hid (fun W (hW:Pr W R A c l j z5 ns5 a5 0)=>(by have:=cmp_z HG.out hW;rw [ht,ho,htn] at this;exact this:Calls Tryz.prog 89 #[.pointer (some ⟨R,0,none⟩)] W fun en w'=>en=.returned (.tuple #[.int .i64 o,.bool tn])∧Below W.heap.size W w'))
  have QT:=Lib.hid (fun W (hW:Pr W R A c l j z5 ns5 a5 0)=>r_tok_of hW ht)
  have QF:=Lib.hid (fun W (hW:Pr W R A c l j z5 ns5 a5 0)=>r_fail_at hW p' 16)
  have QN:=Lib.hid (fun W (hW:Pr W R A c l j z5 ns5 a5 0) (hne:x'≠[])=>z_next_at HG.out hW (by rw [ht];exact hne))
  clear hk5 hp5 hf hij hl5 hs5 hji ht ho htn
  by_cases ho:o=0
  ·subst ho
   have HC0:=Lib.hid (show (cmpS (leftT l j)).1=0 by rw [HCm.out];exact HOT.out.1)
   go_wp2_with (first
    | (go_at_call 89;(with_reducible refine (QC.out _ HP6.out).mono ?_);rintro en w7 ⟨rfl,hb7⟩;have HP7:=Lib.hid (HP6.out.below hb7);have HB7:=Lib.hid (HB6.out.below hb7);have HK7:=Lib.hid (HK6.out.trans (Below.kp hb7 R z5));have HS7:=Lib.hid (HS6.out.below hb7);have HU7:=Lib.hid (HU6.out.below hb7);have hs7:w5.heap.size+1≤w7.heap.size:=(by have:=hb7.size;simpa using this);obtain ⟨t0,t1,t2,_⟩:=(HT6.out.below hb7).get3;obtain ⟨u0,u1,u2,u3,_⟩:=(HU6.out.below hb7).get4;obtain ⟨c0,c1,c2,f0,f1,f2⟩:=HB7.out.get3;clear hb7 QC)
    | (go_at_call 27;(with_reducible refine (QT.out _ HP7.out).mono ?_);rintro en w8 ⟨rfl,hb8⟩;have HP8:=Lib.hid (HP7.out.below hb8);have HB8:=Lib.hid (HB7.out.below hb8);have HK8:=Lib.hid (HK7.out.trans (Below.kp hb8 R z5));clear hb8 QT)
    | (go_at_call 31;(with_reducible refine (QF.out _ HP8.out).mono ?_);rintro en w9 ⟨rfl,hk9,hp9⟩;have HP9:=Lib.hid hp9;clear c0 c1 c2 f0 f1 f2;obtain ⟨c0,c1,c2,f0,f1,f2⟩:=(HB8.out.kz hk9 hTR HZ5.out).get3;have HK9:=Lib.hid (HK8.out.trans hk9);clear hk9 hp9))
   refine bodyPost_ret (v:=.tuple #[.agg #[.int .i64 0,.string ⟨#[]⟩,.slice none 0 0],.bool false]) (by simp [results,Tryz.results61,go_sem,c0,c1,c2]) rfl ?_
   obtain ⟨e1,e2⟩:=endz3 hR HK9.out HP9.out HZ5.out (.int .i64 0) (.string ⟨#[]⟩) (.slice none 0 0)
   refine ⟨⟨0,⟨#[]⟩,none,0,[]⟩,false,rfl,.inr ⟨rfl,z5,ns5,j,(leftT l j).length,16,e1,by rw [off_here HJ.out,HTj.out];exact e2,by decide,?_⟩⟩
   rw [HC.out,HV.out,← HC.out,HF.out.1]
   simp only [HC0.out,if_true]
   rw [if_neg (fun e=>HK1n.out e.1)]
  ·have ho1:(o==0)=false:=by simpa using ho
   have hx':x'≠[]:=opT_ne (by rw [HOT.out.1];exact ho)
   have HX':=Lib.hid hx'
   have HC0:=Lib.hid (show ¬(cmpS (leftT l j)).1=0 by rw [HCm.out,HOT.out.1];exact ho)
   have HO1:=Lib.hid ho
   clear ho hx'
   go_wp2_with (first
    | (go_at_call 89;(with_reducible refine (QC.out _ HP6.out).mono ?_);rintro en w7 ⟨rfl,hb7⟩;have HP7:=Lib.hid (HP6.out.below hb7);have HB7:=Lib.hid (HB6.out.below hb7);have HK7:=Lib.hid (HK6.out.trans (Below.kp hb7 R z5));have HS7:=Lib.hid (HS6.out.below hb7);have HU7:=Lib.hid (HU6.out.below hb7);have hs7:w5.heap.size+1≤w7.heap.size:=(by have:=hb7.size;simpa using this);obtain ⟨t0,t1,t2,_⟩:=(HT6.out.below hb7).get3;obtain ⟨u0,u1,u2,u3,_⟩:=(HU6.out.below hb7).get4;obtain ⟨c0,c1,c2,f0,f1,f2⟩:=HB7.out.get3;clear hb7 QC)
    | (go_at_call 48;(with_reducible refine (QN.out _ HP7.out HX'.out).mono ?_);rintro en w8 ⟨rfl,hk8,hp8⟩;have HP8:=Lib.hid hp8;have hs8:w7.heap.size≤w8.heap.size:=hk8.size;have HB8:=Lib.hid (HB7.out.kz hk8 hTR HZ5.out);have HU8:=Lib.hid (HU7.out.kz hk8 (by omega) HZX.out);have HS8:=Lib.hid (HS7.out.kp hk8 (by simp;omega));have HK8:=Lib.hid (HK7.out.trans hk8);clear hk8 hp8 c0 c1 c2 f0 f1 f2 t0 t1 t2 u0 u1 u2 u3))
   refine (QE.out (j+1) z5 ns5 a5 _ HP8.out (by have h1:=HNN.out.1;have h2:=HF.out.2.1;simp only [left_length] at h1 ⊢;omega) (by have h1:=HNN.out.2;have h2:=HF.out.2.2;simp only [left_length] at h1 h2 ⊢;omega)).mono ?_
   rintro e w9 ⟨y,b,he,ho⟩
   have he2:e=.returned (.tuple #[.agg #[.int .i64 y.kind,.int .i64 y.num,.string y.name,.slice y.at_ y.args.length y.cap],.bool b]):=he
   clear he
   subst he2
   rcases ho with ⟨rfl,z9,ns9,q,a9,hk9,hp9,hf9,hjq,hl9,hs9⟩|⟨rfl,z9,ns9,q,m,e9,hk9,hp9,he9,hf9⟩
   ·have hs9':w8.heap.size≤w9.heap.size:=hk9.size
    have HZ9:=Lib.hid (hk9.off HB8.out.lt HZ5.out)
    have HB9:=Lib.hid (HB8.out.kz hk9 hTR HZ5.out)
    have HU9:=Lib.hid (HU8.out.kz hk9 (by omega) HZX.out)
    have HK9:=Lib.hid (HK8.out.trans hk9)
    have HP9:=Lib.hid hp9
    have HS9:=Lib.hid (show SitZ elTm (w.heap.size+1) z9 w9 [u] from (HS8.out.kp hk9 (by simp;omega)).low (by simp;omega))
    have HY9:=Lib.hid (hs9.low (show w.heap.size+1≤w8.heap.size by omega))
    have HF9:=Lib.hid (And.intro hf9 (And.intro hjq hl9))
    have c0:=fun o o2=>((HB9.out.alloc o).alloc o2).get3.1
    have c1:=fun o o2=>((HB9.out.alloc o).alloc o2).get3.2.1
    have c2:=fun o o2=>((HB9.out.alloc o).alloc o2).get3.2.2.1
    have f0:=fun o o2=>((HB9.out.alloc o).alloc o2).get3.2.2.2.1
    have f1:=fun o o2=>((HB9.out.alloc o).alloc o2).get3.2.2.2.2.1
    have f2:=fun o o2=>((HB9.out.alloc o).alloc o2).get3.2.2.2.2.2
    have u0:=fun o=>(HU9.out.alloc o).get4.1
    have u1:=fun o=>(HU9.out.alloc o).get4.2.1
    have u2:=fun o=>(HU9.out.alloc o).get4.2.2.1
    have u3:=fun o=>(HU9.out.alloc o).get4.2.2.2.1
    clear hk9 hp9 hf9 hjq hl9 hs9
    cases tn
    ·go_wp2_with fail
     refine bodyPost_ret (v:=.tuple #[.agg #[.int .i64 o,.string ⟨#[]⟩,.slice (some ⟨w9.heap.size+1,0,none⟩) 2 2],.bool true]) (by simp [results,Tryz.results61,go_sem,c0,c1,c2]) rfl ?_
     have hb10:Below w9.heap.size w9 ((w9.alloc (.cells #[.int .i64 y.kind,.int .i64 y.num,.string y.name,.slice y.at_ y.args.length y.cap] 56)).alloc (.cells #[.int .i64 u.kind,.int .i64 u.num,.string (S nm),.slice u.at_ u.args.length u.cap,.int .i64 y.kind,.int .i64 y.num,.string y.name,.slice y.at_ y.args.length y.cap] 56)):=((Below.refl w9.heap.size w9).alloc (Nat.le_refl _) (.cells #[.int .i64 y.kind,.int .i64 y.num,.string y.name,.slice y.at_ y.args.length y.cap] 56)).alloc (by simp) (.cells #[.int .i64 u.kind,.int .i64 u.num,.string (S nm),.slice u.at_ u.args.length u.cap,.int .i64 y.kind,.int .i64 y.num,.string y.name,.slice y.at_ y.args.length y.cap] 56)
     obtain ⟨e1,e2⟩:=endz3 hR (HK9.out.trans (Below.kp hb10 R z9)) (HP9.out.below hb10) HZ9.out (.int .i64 o) (.string ⟨#[]⟩) (.slice (some ⟨w9.heap.size+1,0,none⟩) 2 2)
     have hall:SitZ elTm (w.heap.size+1) z9 w9 [u,y]:=HS9.out.append HY9.out
     have hrow:=row2_named (w9.alloc (.cells #[.int .i64 y.kind,.int .i64 y.num,.string y.name,.slice y.at_ y.args.length y.cap] 56)) u y HNm.out ((HS9.out.alloc (.cells #[.int .i64 y.kind,.int .i64 y.num,.string y.name,.slice y.at_ y.args.length y.cap] 56)).at_ u (List.mem_singleton.2 rfl)) ((HY9.out.alloc (.cells #[.int .i64 y.kind,.int .i64 y.num,.string y.name,.slice y.at_ y.args.length y.cap] 56)).at_ y (List.mem_singleton.2 rfl))
     rw [show (w9.alloc (.cells #[.int .i64 y.kind,.int .i64 y.num,.string y.name,.slice y.at_ y.args.length y.cap] 56)).heap.size=w9.heap.size+1 by simp] at hrow
     have hS:=sitz_goal (op:=o) (s:=⟨#[]⟩) hall hb10 hrow (by omega) (by simp) (fun e=>by have:=(HP9.out.zlt _ e).2;omega) HOf.out (Nat.zero_le _)
     refine ⟨⟨o,⟨#[]⟩,some ⟨w9.heap.size+1,0,none⟩,2,[u,y]⟩,true,rfl,.inl ⟨rfl,z9,ns9,q,a9,e1,e2,?_,by have h1:=HF.out.2.1;have h2:=HF9.out.2.1;omega,by have h1:=HF.out.2.2;have h2:=HF9.out.2.2;simp only [left_length] at h1 h2 ⊢;omega,hS.end3 (Nat.lt_succ_self _) _ _ _⟩⟩
     rw [HC.out,HV.out,← HC.out,HF.out.1]
     simp only [left_tail,HF9.out.1,HCm.out,HOT.out.1,HOT.out.2]
     rw [if_neg HO1.out]
     rfl
    ·go_wp2_with fail
     refine bodyPost_ret (v:=.tuple #[.agg #[.int .i64 o,.string ⟨#[]⟩,.slice (some ⟨w9.heap.size+1,0,none⟩) 2 2],.bool true]) (by simp [results,Tryz.results61,go_sem,c0,c1,c2]) rfl ?_
     have hb10:Below w9.heap.size w9 ((w9.alloc (.cells #[.int .i64 y.kind,.int .i64 y.num,.string y.name,.slice y.at_ y.args.length y.cap] 56)).alloc (.cells #[.int .i64 y.kind,.int .i64 y.num,.string y.name,.slice y.at_ y.args.length y.cap,.int .i64 u.kind,.int .i64 u.num,.string (S nm),.slice u.at_ u.args.length u.cap] 56)):=((Below.refl w9.heap.size w9).alloc (Nat.le_refl _) (.cells #[.int .i64 y.kind,.int .i64 y.num,.string y.name,.slice y.at_ y.args.length y.cap] 56)).alloc (by simp) (.cells #[.int .i64 y.kind,.int .i64 y.num,.string y.name,.slice y.at_ y.args.length y.cap,.int .i64 u.kind,.int .i64 u.num,.string (S nm),.slice u.at_ u.args.length u.cap] 56)
     obtain ⟨e1,e2⟩:=endz3 hR (HK9.out.trans (Below.kp hb10 R z9)) (HP9.out.below hb10) HZ9.out (.int .i64 o) (.string ⟨#[]⟩) (.slice (some ⟨w9.heap.size+1,0,none⟩) 2 2)
     have hall:SitZ elTm (w.heap.size+1) z9 w9 [y,u]:=HY9.out.append HS9.out
     have hrow:=row2_named2 (w9.alloc (.cells #[.int .i64 y.kind,.int .i64 y.num,.string y.name,.slice y.at_ y.args.length y.cap] 56)) u y HNm.out ((HS9.out.alloc (.cells #[.int .i64 y.kind,.int .i64 y.num,.string y.name,.slice y.at_ y.args.length y.cap] 56)).at_ u (List.mem_singleton.2 rfl)) ((HY9.out.alloc (.cells #[.int .i64 y.kind,.int .i64 y.num,.string y.name,.slice y.at_ y.args.length y.cap] 56)).at_ y (List.mem_singleton.2 rfl))
     rw [show (w9.alloc (.cells #[.int .i64 y.kind,.int .i64 y.num,.string y.name,.slice y.at_ y.args.length y.cap] 56)).heap.size=w9.heap.size+1 by simp] at hrow
     have hS:=sitz_goal (op:=o) (s:=⟨#[]⟩) hall hb10 hrow (by omega) (by simp) (fun e=>by have:=(HP9.out.zlt _ e).2;omega) HOf.out (Nat.zero_le _)
     refine ⟨⟨o,⟨#[]⟩,some ⟨w9.heap.size+1,0,none⟩,2,[y,u]⟩,true,rfl,.inl ⟨rfl,z9,ns9,q,a9,e1,e2,?_,by have h1:=HF.out.2.1;have h2:=HF9.out.2.1;omega,by have h1:=HF.out.2.2;have h2:=HF9.out.2.2;simp only [left_length] at h1 h2 ⊢;omega,hS.end3 (Nat.lt_succ_self _) _ _ _⟩⟩
     rw [HC.out,HV.out,← HC.out,HF.out.1]
     simp only [left_tail,HF9.out.1,HCm.out,HOT.out.1,HOT.out.2]
     rw [if_neg HO1.out]
     rfl
   ·have hs9':w8.heap.size≤w9.heap.size:=hk9.size
    have HZ9:=Lib.hid (hk9.off HB8.out.lt HZ5.out)
    have HB9:=Lib.hid (HB8.out.kz hk9 hTR HZ5.out)
    have HU9:=Lib.hid (HU8.out.kz hk9 (by omega) HZX.out)
    have HK9:=Lib.hid (HK8.out.trans hk9)
    have HP9:=Lib.hid hp9
    have HF9:=Lib.hid (And.intro hf9 he9)
    have c0:=fun o o2=>((HB9.out.alloc o).alloc o2).get3.1
    have c1:=fun o o2=>((HB9.out.alloc o).alloc o2).get3.2.1
    have c2:=fun o o2=>((HB9.out.alloc o).alloc o2).get3.2.2.1
    have f0:=fun o o2=>((HB9.out.alloc o).alloc o2).get3.2.2.2.1
    have f1:=fun o o2=>((HB9.out.alloc o).alloc o2).get3.2.2.2.2.1
    have f2:=fun o o2=>((HB9.out.alloc o).alloc o2).get3.2.2.2.2.2
    have u0:=fun o=>(HU9.out.alloc o).get4.1
    have u1:=fun o=>(HU9.out.alloc o).get4.2.1
    have u2:=fun o=>(HU9.out.alloc o).get4.2.2.1
    have u3:=fun o=>(HU9.out.alloc o).get4.2.2.2.1
    clear hk9 hp9 hf9 he9
    cases tn
    ·go_wp2_with fail
     refine bodyPost_ret (v:=.tuple #[.agg #[.int .i64 o,.string ⟨#[]⟩,.slice (some ⟨w9.heap.size+1,0,none⟩) 2 2],.bool false]) (by simp [results,Tryz.results61,go_sem,c0,c1,c2]) rfl ?_
     have hb10:Below w9.heap.size w9 ((w9.alloc (.cells #[.int .i64 y.kind,.int .i64 y.num,.string y.name,.slice y.at_ y.args.length y.cap] 56)).alloc (.cells #[.int .i64 u.kind,.int .i64 u.num,.string (S nm),.slice u.at_ u.args.length u.cap,.int .i64 y.kind,.int .i64 y.num,.string y.name,.slice y.at_ y.args.length y.cap] 56)):=((Below.refl w9.heap.size w9).alloc (Nat.le_refl _) (.cells #[.int .i64 y.kind,.int .i64 y.num,.string y.name,.slice y.at_ y.args.length y.cap] 56)).alloc (by simp) (.cells #[.int .i64 u.kind,.int .i64 u.num,.string (S nm),.slice u.at_ u.args.length u.cap,.int .i64 y.kind,.int .i64 y.num,.string y.name,.slice y.at_ y.args.length y.cap] 56)
     obtain ⟨e1,e2⟩:=endz3 hR (HK9.out.trans (Below.kp hb10 R z9)) (HP9.out.below hb10) HZ9.out (.int .i64 o) (.string ⟨#[]⟩) (.slice (some ⟨w9.heap.size+1,0,none⟩) 2 2)
     refine ⟨⟨o,⟨#[]⟩,some ⟨w9.heap.size+1,0,none⟩,2,[u,y]⟩,false,rfl,.inr ⟨rfl,z9,ns9,q,m,e9,e1,e2,HF9.out.2,?_⟩⟩
     rw [HC.out,HV.out,← HC.out,HF.out.1]
     simp only [if_neg HC0.out,left_tail,HF9.out.1]
    ·go_wp2_with fail
     refine bodyPost_ret (v:=.tuple #[.agg #[.int .i64 o,.string ⟨#[]⟩,.slice (some ⟨w9.heap.size+1,0,none⟩) 2 2],.bool false]) (by simp [results,Tryz.results61,go_sem,c0,c1,c2]) rfl ?_
     have hb10:Below w9.heap.size w9 ((w9.alloc (.cells #[.int .i64 y.kind,.int .i64 y.num,.string y.name,.slice y.at_ y.args.length y.cap] 56)).alloc (.cells #[.int .i64 y.kind,.int .i64 y.num,.string y.name,.slice y.at_ y.args.length y.cap,.int .i64 u.kind,.int .i64 u.num,.string (S nm),.slice u.at_ u.args.length u.cap] 56)):=((Below.refl w9.heap.size w9).alloc (Nat.le_refl _) (.cells #[.int .i64 y.kind,.int .i64 y.num,.string y.name,.slice y.at_ y.args.length y.cap] 56)).alloc (by simp) (.cells #[.int .i64 y.kind,.int .i64 y.num,.string y.name,.slice y.at_ y.args.length y.cap,.int .i64 u.kind,.int .i64 u.num,.string (S nm),.slice u.at_ u.args.length u.cap] 56)
     obtain ⟨e1,e2⟩:=endz3 hR (HK9.out.trans (Below.kp hb10 R z9)) (HP9.out.below hb10) HZ9.out (.int .i64 o) (.string ⟨#[]⟩) (.slice (some ⟨w9.heap.size+1,0,none⟩) 2 2)
     refine ⟨⟨o,⟨#[]⟩,some ⟨w9.heap.size+1,0,none⟩,2,[y,u]⟩,false,rfl,.inr ⟨rfl,z9,ns9,q,m,e9,e1,e2,HF9.out.2,?_⟩⟩
     rw [HC.out,HV.out,← HC.out,HF.out.1]
     simp only [if_neg HC0.out,left_tail,HF9.out.1]
 ·have hs5':w2.heap.size+1≤w5.heap.size:=by have:=hk5.size;simpa using this
  have HZ5:=Lib.hid (hk5.off HB2.out.lt HZ0.out)
  have HB5:=Lib.hid (HB2.out.kz hk5 hTR HZ0.out)
  have HT5:=Lib.hid (HT2.out.kz hk5 hne2 HZ2.out)
  have HK5:=Lib.hid (HK2.out.trans hk5)
  have HP6:=Lib.hid (hp5.alloc (.cells #[.int .i64 u.kind,.int .i64 u.num,.string (S nm),.slice u.at_ u.args.length u.cap] 56))
  have HK6:=Lib.hid (HK5.out.alloc (.cells #[.int .i64 u.kind,.int .i64 u.num,.string (S nm),.slice u.at_ u.args.length u.cap] 56))
  have HF:=Lib.hid (And.intro hf he5)
  have c0:=fun o=>(HB5.out.alloc o).get3.1
  have c1:=fun o=>(HB5.out.alloc o).get3.2.1
  have c2:=fun o=>(HB5.out.alloc o).get3.2.2.1
  have f0:=fun o=>(HB5.out.alloc o).get3.2.2.2.1
  have f1:=fun o=>(HB5.out.alloc o).get3.2.2.2.2.1
  have f2:=fun o=>(HB5.out.alloc o).get3.2.2.2.2.2
  clear hk5 hp5 hf he5
  go_wp2_with fail
  refine bodyPost_ret (v:=.tuple #[.agg #[.int .i64 0,.string ⟨#[]⟩,.slice none 0 0],.bool false]) (by simp [results,Tryz.results61,go_sem,c0,c1,c2]) rfl ?_
  obtain ⟨e1,e2⟩:=endz3 hR HK6.out HP6.out HZ5.out (.int .i64 0) (.string ⟨#[]⟩) (.slice none 0 0)
  refine ⟨⟨0,⟨#[]⟩,none,0,[]⟩,false,rfl,.inr ⟨rfl,z5,ns5,j,m,e5,e1,e2,HF.out.2,?_⟩⟩
  rw [HC.out,HV.out,← HC.out,HF.out.1]
set_option maxHeartbeats 4000000 in
set_option maxRecDepth 100000 in
theorem plainz_name (hg:GoodT l) {n:Nat} {ex:Rd1 Tm} (hE:ExprZ R A c l n ex) (i:Nat) (z:Value) (ns:List (List UInt8)) (at_:Nat) (w:World) (h:Pr w R A c l i z ns at_ 0) (hn:(leftT l i).length≤n) (hns:ns.length+(leftT l i).length≤100000)
  (hB:(l.getD i default).1=1) (hr:resB (l.getD i default).2.2=false) :
  Calls Tryz.prog 61 #[.pointer (some ⟨R,0,none⟩)] w (ElZ elGl Gl.val sG (goalS ex) R A c l i z ns w):=by
 have HG:=Lib.hid hg
 have HI:=Lib.hid h.ilt
 obtain ⟨t,ht⟩:∃t,l.getD i default=t:=⟨_,rfl⟩
 obtain ⟨k,p,x⟩:=t
 have HX:=Lib.hid (show x.length≤16384 by have:=hg.texts i h.ilt;rw [ht] at this;exact this)
 have HC:=Lib.hid (show leftT l i=(k,x,markT l i) :: leftT l (i+1) by rw [left_cons h.ilt,ht])
 have Q:=Lib.hid (r_tok_of (h.alloc (.cells #[.int .i64 0,.string ⟨#[]⟩,.slice none 0 0] 54)) ht)
 have H:=Lib.hid h
 have HT:=Lib.hid ht
 have hR:=h.lt
 have hTR:w.heap.size≠R:=by omega
 have HZ0:=Lib.hid h.znew
 have HB0:=Lib.hid (BoxL.new w [.int .i64 0,.string ⟨#[]⟩,.slice none 0 0] 54)
 have HA0:=Lib.hid (show Kp R z z w (w.alloc (.cells #[.int .i64 0,.string ⟨#[]⟩,.slice none 0 0] 54)) from (Kp.refl R z w).alloc _)
 have HNN:=Lib.hid (And.intro hn hns)
 have QE:=Lib.hid hE
 have hk1:k=1:=by rw [ht] at hB;exact hB
 subst hk1
 rw [ht] at hr
 have hr:resB x=false:=hr
 have HNB:=Lib.hid (show ¬((1:Int)=1∧resB x=true) from fun e=>by rw [hr] at e;exact absurd e.2 (by decide))
 have QR:=Lib.hid (fun W=>ref_res_at (S x) W (r:=false) hr)
 have HV:=Lib.hid (goalS_expr ex (k:=1) (x:=x) HNB.out (markT l i) (leftT l (i+1)) ns)
 clear h ht hg hE hn hns hB hr
 go_enter Tryz.func61,Tryz.ntmps61
 go_wp2_with (first
  | (go_at_call 27;(with_reducible refine Q.out.mono ?_);rintro en w2 ⟨rfl,hb2⟩;have hb3:=hb2.alloc hb2.size (.cells #[.int .i64 1,.int .i64 (p:Int),.string (S x)] 67);have hsz:w.heap.size+1≤w2.heap.size:=(by have:=hb2.size;simpa using this);have hne2:¬w2.heap.size=R:=(by omega);have hnw:¬w2.heap.size=w.heap.size:=(by omega);have HP2:=Lib.hid ((H.out.alloc _).below hb3);have HB2:=Lib.hid (HB0.out.below hb3);have HT2:=Lib.hid (BoxL.new w2 [.int .i64 1,.int .i64 (p:Int),.string (S x)] 67);have HK2:=Lib.hid (HA0.out.trans (Below.kp hb3 R z));have HZ2:=Lib.hid (show z.ownBlock≠some w2.heap.size from fun e=>by have:=(H.out.zlt _ e).2;omega);clear hb2 hb3)
  | (go_at_call 77;(with_reducible refine (QR.out _).mono ?_);rintro en wr ⟨rfl,rfl⟩))
 refine (QE.out i z ns at_ _ HP2.out HNN.out.1 HNN.out.2).mono ?_
 rintro e w5 ⟨u,b,he,ho⟩
 obtain ⟨nm,hnm⟩:∃nm,u.name=S nm:=⟨u.name.data.toList,rfl⟩
 have he2:e=.returned (.tuple #[.agg #[.int .i64 u.kind,.int .i64 u.num,.string (S nm),.slice u.at_ u.args.length u.cap],.bool b]):=by rw [←hnm];exact he
 clear he
 subst he2
 have HNm:=Lib.hid hnm
 clear hnm
 rcases ho with ⟨rfl,z5,ns5,j,a5,hk5,hp5,hf,hij,hl5,hs5⟩|⟨rfl,z5,ns5,j,m,e5,hk5,hp5,he5,hf⟩
 ·have hs5':w2.heap.size+1≤w5.heap.size:=by have:=hk5.size;simpa using this
  have HZ5:=Lib.hid (hk5.off HB2.out.lt HZ0.out)
  have HB5:=Lib.hid (HB2.out.kz hk5 hTR HZ0.out)
  have HT5:=Lib.hid (HT2.out.kz hk5 hne2 HZ2.out)
  have HK5:=Lib.hid (HK2.out.trans hk5)
  have HU6:=Lib.hid (BoxL.new w5 [.int .i64 u.kind,.int .i64 u.num,.string (S nm),.slice u.at_ u.args.length u.cap] 56)
  have HP6:=Lib.hid (hp5.alloc (.cells #[.int .i64 u.kind,.int .i64 u.num,.string (S nm),.slice u.at_ u.args.length u.cap] 56))
  have HB6:=Lib.hid (HB5.out.alloc (.cells #[.int .i64 u.kind,.int .i64 u.num,.string (S nm),.slice u.at_ u.args.length u.cap] 56))
  have HT6:=Lib.hid (HT5.out.alloc (.cells #[.int .i64 u.kind,.int .i64 u.num,.string (S nm),.slice u.at_ u.args.length u.cap] 56))
  have HK6:=Lib.hid (HK5.out.alloc (.cells #[.int .i64 u.kind,.int .i64 u.num,.string (S nm),.slice u.at_ u.args.length u.cap] 56))
  have HS6:=Lib.hid (hs5.alloc (.cells #[.int .i64 u.kind,.int .i64 u.num,.string (S nm),.slice u.at_ u.args.length u.cap] 56))
  have HZX:=Lib.hid hp5.znew
  have HF:=Lib.hid (And.intro hf (And.intro hij hl5))
  have hji:=hp5.ilt
  have HJ:=Lib.hid hji
  obtain ⟨t,ht⟩:∃t,l.getD j default=t:=⟨_,rfl⟩
  obtain ⟨k',p',x'⟩:=t
  have HTj:=Lib.hid ht
  have HCm:=Lib.hid (show cmpS (leftT l j)=opT x' by rw [cmp_left HG.out hji,ht])
  have fa:=tok_at k' (p':Int) (S x')
  obtain ⟨o,ho⟩:∃o,(opT x').1=o:=⟨_,rfl⟩
  obtain ⟨tn,htn⟩:∃tn,(opT x').2=tn:=⟨_,rfl⟩
  have HOf:=Lib.hid (show Fits o by rw [←ho];exact opT_fits x')
  have HOT:=Lib.hid (And.intro ho htn)
  have QC:=Lib.hid (fun W (hW:Pr W R A c l j z5 ns5 a5 0)=>(by have:=cmp_z HG.out hW;rw [ht,ho,htn] at this;exact this:Calls Tryz.prog 89 #[.pointer (some ⟨R,0,none⟩)] W fun en w'=>en=.returned (.tuple #[.int .i64 o,.bool tn])∧Below W.heap.size W w'))
  have QT:=Lib.hid (fun W (hW:Pr W R A c l j z5 ns5 a5 0)=>r_tok_of hW ht)
  have QF:=Lib.hid (fun W (hW:Pr W R A c l j z5 ns5 a5 0)=>r_fail_at hW p' 16)
  have QN:=Lib.hid (fun W (hW:Pr W R A c l j z5 ns5 a5 0) (hne:x'≠[])=>z_next_at HG.out hW (by rw [ht];exact hne))
  clear hk5 hp5 hf hij hl5 hs5 hji ht ho htn
  by_cases ho:o=0
  ·subst ho
   have HC0:=Lib.hid (show (cmpS (leftT l j)).1=0 by rw [HCm.out];exact HOT.out.1)
   obtain ⟨be,hbe⟩:∃b,(nm==x)=b:=⟨_,rfl⟩
   have hbn:(nm != x) = !be:=by rw [←hbe];rfl
   have HBE:=Lib.hid hbe
   have hnl:=Lib.hid (show u.strip.name.data.toList=nm by
    obtain ⟨_,_,nn,_,_,_⟩:=u
    have h:=HNm.out
    simp only [Tm.name] at h
    subst h
    rfl)
   cases be
   ·go_wp2_with (first
     | (go_at_call 89;(with_reducible refine (QC.out _ HP6.out).mono ?_);rintro en w7 ⟨rfl,hb7⟩;have HP7:=Lib.hid (HP6.out.below hb7);have HB7:=Lib.hid (HB6.out.below hb7);have HK7:=Lib.hid (HK6.out.trans (Below.kp hb7 R z5));have HS7:=Lib.hid (HS6.out.below hb7);have HU7:=Lib.hid (HU6.out.below hb7);have hs7:w5.heap.size+1≤w7.heap.size:=(by have:=hb7.size;simpa using this);obtain ⟨t0,t1,t2,_⟩:=(HT6.out.below hb7).get3;obtain ⟨u0,u1,u2,u3,_⟩:=(HU6.out.below hb7).get4;obtain ⟨c0,c1,c2,f0,f1,f2⟩:=HB7.out.get3;clear hb7 QC)
     | (go_at_call 27;(with_reducible refine (QT.out _ HP7.out).mono ?_);rintro en w8 ⟨rfl,hb8⟩;have HP8:=Lib.hid (HP7.out.below hb8);have HB8:=Lib.hid (HB7.out.below hb8);have HK8:=Lib.hid (HK7.out.trans (Below.kp hb8 R z5));clear hb8 QT)
     | (go_at_call 31;(with_reducible refine (QF.out _ HP8.out).mono ?_);rintro en w9 ⟨rfl,hk9,hp9⟩;have HP9:=Lib.hid hp9;clear c0 c1 c2 f0 f1 f2;obtain ⟨c0,c1,c2,f0,f1,f2⟩:=(HB8.out.kz hk9 hTR HZ5.out).get3;have HK9:=Lib.hid (HK8.out.trans hk9);clear hk9 hp9))
    refine bodyPost_ret (v:=.tuple #[.agg #[.int .i64 0,.string ⟨#[]⟩,.slice none 0 0],.bool false]) (by simp [results,Tryz.results61,go_sem,c0,c1,c2]) rfl ?_
    obtain ⟨e1,e2⟩:=endz3 hR HK9.out HP9.out HZ5.out (.int .i64 0) (.string ⟨#[]⟩) (.slice none 0 0)
    refine ⟨⟨0,⟨#[]⟩,none,0,[]⟩,false,rfl,.inr ⟨rfl,z5,ns5,j,(leftT l j).length,16,e1,by rw [off_here HJ.out,HTj.out];exact e2,by decide,?_⟩⟩
    rw [HC.out,HV.out,← HC.out,HF.out.1]
    simp only [HC0.out,if_true]
    rw [if_neg (fun e=>by have h2:u.strip.name.data.toList=x:=e.2;rw [hnl.out] at h2;have:=HBE.out;rw [h2] at this;simp at this)]
   ·go_wp2_with (go_at_call 89;(with_reducible refine (QC.out _ HP6.out).mono ?_);rintro en w7 ⟨rfl,hb7⟩;have HP7:=Lib.hid (HP6.out.below hb7);have HB7:=Lib.hid (HB6.out.below hb7);have HK7:=Lib.hid (HK6.out.trans (Below.kp hb7 R z5));have HS7:=Lib.hid (HS6.out.below hb7);have HU7:=Lib.hid (HU6.out.below hb7);have hs7:w5.heap.size+1≤w7.heap.size:=(by have:=hb7.size;simpa using this);obtain ⟨t0,t1,t2,_⟩:=(HT6.out.below hb7).get3;obtain ⟨u0,u1,u2,u3,_⟩:=(HU6.out.below hb7).get4;obtain ⟨c0,c1,c2,f0,f1,f2⟩:=HB7.out.get3;clear hb7 QC)
    refine bodyPost_ret (v:=.tuple #[.agg #[.int .i64 0,.string (S nm),.slice u.at_ u.args.length u.cap],.bool true]) (by simp [results,Tryz.results61,go_sem,c0,c1,c2]) rfl ?_
    obtain ⟨e1,e2⟩:=endz3 hR HK7.out HP7.out HZ5.out (.int .i64 0) (.string (S nm)) (.slice u.at_ u.args.length u.cap)
    have hS:=sitz_call (HS7.out.low (lo':=w.heap.size+1) (by simp;omega))
    refine ⟨⟨0,u.name,u.at_,u.cap,u.args⟩,true,by rw [HNm.out],.inl ⟨rfl,z5,ns5,j,a5,e1,e2,?_,HF.out.2.1,HF.out.2.2,hS.end3 (Nat.lt_succ_self _) _ _ _⟩⟩
    have hxe:nm=x:=by simpa using HBE.out
    rw [HC.out,HV.out,← HC.out,HF.out.1]
    simp only [HC0.out,if_true]
    rw [if_pos ⟨trivial,by rw [←hxe];exact hnl.out⟩,sG]
    simp only [HNm.out,hxe]
    obtain ⟨_,_,_,_,_,_⟩:=u
    rfl
  ·have ho1:(o==0)=false:=by simpa using ho
   have hx':x'≠[]:=opT_ne (by rw [HOT.out.1];exact ho)
   have HX':=Lib.hid hx'
   have HC0:=Lib.hid (show ¬(cmpS (leftT l j)).1=0 by rw [HCm.out,HOT.out.1];exact ho)
   have HO1:=Lib.hid ho
   clear ho hx'
   go_wp2_with (first
    | (go_at_call 89;(with_reducible refine (QC.out _ HP6.out).mono ?_);rintro en w7 ⟨rfl,hb7⟩;have HP7:=Lib.hid (HP6.out.below hb7);have HB7:=Lib.hid (HB6.out.below hb7);have HK7:=Lib.hid (HK6.out.trans (Below.kp hb7 R z5));have HS7:=Lib.hid (HS6.out.below hb7);have HU7:=Lib.hid (HU6.out.below hb7);have hs7:w5.heap.size+1≤w7.heap.size:=(by have:=hb7.size;simpa using this);obtain ⟨t0,t1,t2,_⟩:=(HT6.out.below hb7).get3;obtain ⟨u0,u1,u2,u3,_⟩:=(HU6.out.below hb7).get4;obtain ⟨c0,c1,c2,f0,f1,f2⟩:=HB7.out.get3;clear hb7 QC)
    | (go_at_call 48;(with_reducible refine (QN.out _ HP7.out HX'.out).mono ?_);rintro en w8 ⟨rfl,hk8,hp8⟩;have HP8:=Lib.hid hp8;have hs8:w7.heap.size≤w8.heap.size:=hk8.size;have HB8:=Lib.hid (HB7.out.kz hk8 hTR HZ5.out);have HU8:=Lib.hid (HU7.out.kz hk8 (by omega) HZX.out);have HS8:=Lib.hid (HS7.out.kp hk8 (by simp;omega));have HK8:=Lib.hid (HK7.out.trans hk8);clear hk8 hp8 c0 c1 c2 f0 f1 f2 t0 t1 t2 u0 u1 u2 u3))
   refine (QE.out (j+1) z5 ns5 a5 _ HP8.out (by have h1:=HNN.out.1;have h2:=HF.out.2.1;simp only [left_length] at h1 ⊢;omega) (by have h1:=HNN.out.2;have h2:=HF.out.2.2;simp only [left_length] at h1 h2 ⊢;omega)).mono ?_
   rintro e w9 ⟨y,b,he,ho⟩
   have he2:e=.returned (.tuple #[.agg #[.int .i64 y.kind,.int .i64 y.num,.string y.name,.slice y.at_ y.args.length y.cap],.bool b]):=he
   clear he
   subst he2
   rcases ho with ⟨rfl,z9,ns9,q,a9,hk9,hp9,hf9,hjq,hl9,hs9⟩|⟨rfl,z9,ns9,q,m,e9,hk9,hp9,he9,hf9⟩
   ·have hs9':w8.heap.size≤w9.heap.size:=hk9.size
    have HZ9:=Lib.hid (hk9.off HB8.out.lt HZ5.out)
    have HB9:=Lib.hid (HB8.out.kz hk9 hTR HZ5.out)
    have HU9:=Lib.hid (HU8.out.kz hk9 (by omega) HZX.out)
    have HK9:=Lib.hid (HK8.out.trans hk9)
    have HP9:=Lib.hid hp9
    have HS9:=Lib.hid (show SitZ elTm (w.heap.size+1) z9 w9 [u] from (HS8.out.kp hk9 (by simp;omega)).low (by simp;omega))
    have HY9:=Lib.hid (hs9.low (show w.heap.size+1≤w8.heap.size by omega))
    have HF9:=Lib.hid (And.intro hf9 (And.intro hjq hl9))
    have c0:=fun o o2=>((HB9.out.alloc o).alloc o2).get3.1
    have c1:=fun o o2=>((HB9.out.alloc o).alloc o2).get3.2.1
    have c2:=fun o o2=>((HB9.out.alloc o).alloc o2).get3.2.2.1
    have f0:=fun o o2=>((HB9.out.alloc o).alloc o2).get3.2.2.2.1
    have f1:=fun o o2=>((HB9.out.alloc o).alloc o2).get3.2.2.2.2.1
    have f2:=fun o o2=>((HB9.out.alloc o).alloc o2).get3.2.2.2.2.2
    have u0:=fun o=>(HU9.out.alloc o).get4.1
    have u1:=fun o=>(HU9.out.alloc o).get4.2.1
    have u2:=fun o=>(HU9.out.alloc o).get4.2.2.1
    have u3:=fun o=>(HU9.out.alloc o).get4.2.2.2.1
    clear hk9 hp9 hf9 hjq hl9 hs9
    cases tn
    ·go_wp2_with fail
     refine bodyPost_ret (v:=.tuple #[.agg #[.int .i64 o,.string ⟨#[]⟩,.slice (some ⟨w9.heap.size+1,0,none⟩) 2 2],.bool true]) (by simp [results,Tryz.results61,go_sem,c0,c1,c2]) rfl ?_
     have hb10:Below w9.heap.size w9 ((w9.alloc (.cells #[.int .i64 y.kind,.int .i64 y.num,.string y.name,.slice y.at_ y.args.length y.cap] 56)).alloc (.cells #[.int .i64 u.kind,.int .i64 u.num,.string (S nm),.slice u.at_ u.args.length u.cap,.int .i64 y.kind,.int .i64 y.num,.string y.name,.slice y.at_ y.args.length y.cap] 56)):=((Below.refl w9.heap.size w9).alloc (Nat.le_refl _) (.cells #[.int .i64 y.kind,.int .i64 y.num,.string y.name,.slice y.at_ y.args.length y.cap] 56)).alloc (by simp) (.cells #[.int .i64 u.kind,.int .i64 u.num,.string (S nm),.slice u.at_ u.args.length u.cap,.int .i64 y.kind,.int .i64 y.num,.string y.name,.slice y.at_ y.args.length y.cap] 56)
     obtain ⟨e1,e2⟩:=endz3 hR (HK9.out.trans (Below.kp hb10 R z9)) (HP9.out.below hb10) HZ9.out (.int .i64 o) (.string ⟨#[]⟩) (.slice (some ⟨w9.heap.size+1,0,none⟩) 2 2)
     have hall:SitZ elTm (w.heap.size+1) z9 w9 [u,y]:=HS9.out.append HY9.out
     have hrow:=row2_named (w9.alloc (.cells #[.int .i64 y.kind,.int .i64 y.num,.string y.name,.slice y.at_ y.args.length y.cap] 56)) u y HNm.out ((HS9.out.alloc (.cells #[.int .i64 y.kind,.int .i64 y.num,.string y.name,.slice y.at_ y.args.length y.cap] 56)).at_ u (List.mem_singleton.2 rfl)) ((HY9.out.alloc (.cells #[.int .i64 y.kind,.int .i64 y.num,.string y.name,.slice y.at_ y.args.length y.cap] 56)).at_ y (List.mem_singleton.2 rfl))
     rw [show (w9.alloc (.cells #[.int .i64 y.kind,.int .i64 y.num,.string y.name,.slice y.at_ y.args.length y.cap] 56)).heap.size=w9.heap.size+1 by simp] at hrow
     have hS:=sitz_goal (op:=o) (s:=⟨#[]⟩) hall hb10 hrow (by omega) (by simp) (fun e=>by have:=(HP9.out.zlt _ e).2;omega) HOf.out (Nat.zero_le _)
     refine ⟨⟨o,⟨#[]⟩,some ⟨w9.heap.size+1,0,none⟩,2,[u,y]⟩,true,rfl,.inl ⟨rfl,z9,ns9,q,a9,e1,e2,?_,by have h1:=HF.out.2.1;have h2:=HF9.out.2.1;omega,by have h1:=HF.out.2.2;have h2:=HF9.out.2.2;simp only [left_length] at h1 h2 ⊢;omega,hS.end3 (Nat.lt_succ_self _) _ _ _⟩⟩
     rw [HC.out,HV.out,← HC.out,HF.out.1]
     simp only [left_tail,HF9.out.1,HCm.out,HOT.out.1,HOT.out.2]
     rw [if_neg HO1.out]
     rfl
    ·go_wp2_with fail
     refine bodyPost_ret (v:=.tuple #[.agg #[.int .i64 o,.string ⟨#[]⟩,.slice (some ⟨w9.heap.size+1,0,none⟩) 2 2],.bool true]) (by simp [results,Tryz.results61,go_sem,c0,c1,c2]) rfl ?_
     have hb10:Below w9.heap.size w9 ((w9.alloc (.cells #[.int .i64 y.kind,.int .i64 y.num,.string y.name,.slice y.at_ y.args.length y.cap] 56)).alloc (.cells #[.int .i64 y.kind,.int .i64 y.num,.string y.name,.slice y.at_ y.args.length y.cap,.int .i64 u.kind,.int .i64 u.num,.string (S nm),.slice u.at_ u.args.length u.cap] 56)):=((Below.refl w9.heap.size w9).alloc (Nat.le_refl _) (.cells #[.int .i64 y.kind,.int .i64 y.num,.string y.name,.slice y.at_ y.args.length y.cap] 56)).alloc (by simp) (.cells #[.int .i64 y.kind,.int .i64 y.num,.string y.name,.slice y.at_ y.args.length y.cap,.int .i64 u.kind,.int .i64 u.num,.string (S nm),.slice u.at_ u.args.length u.cap] 56)
     obtain ⟨e1,e2⟩:=endz3 hR (HK9.out.trans (Below.kp hb10 R z9)) (HP9.out.below hb10) HZ9.out (.int .i64 o) (.string ⟨#[]⟩) (.slice (some ⟨w9.heap.size+1,0,none⟩) 2 2)
     have hall:SitZ elTm (w.heap.size+1) z9 w9 [y,u]:=HY9.out.append HS9.out
     have hrow:=row2_named2 (w9.alloc (.cells #[.int .i64 y.kind,.int .i64 y.num,.string y.name,.slice y.at_ y.args.length y.cap] 56)) u y HNm.out ((HS9.out.alloc (.cells #[.int .i64 y.kind,.int .i64 y.num,.string y.name,.slice y.at_ y.args.length y.cap] 56)).at_ u (List.mem_singleton.2 rfl)) ((HY9.out.alloc (.cells #[.int .i64 y.kind,.int .i64 y.num,.string y.name,.slice y.at_ y.args.length y.cap] 56)).at_ y (List.mem_singleton.2 rfl))
     rw [show (w9.alloc (.cells #[.int .i64 y.kind,.int .i64 y.num,.string y.name,.slice y.at_ y.args.length y.cap] 56)).heap.size=w9.heap.size+1 by simp] at hrow
     have hS:=sitz_goal (op:=o) (s:=⟨#[]⟩) hall hb10 hrow (by omega) (by simp) (fun e=>by have:=(HP9.out.zlt _ e).2;omega) HOf.out (Nat.zero_le _)
     refine ⟨⟨o,⟨#[]⟩,some ⟨w9.heap.size+1,0,none⟩,2,[y,u]⟩,true,rfl,.inl ⟨rfl,z9,ns9,q,a9,e1,e2,?_,by have h1:=HF.out.2.1;have h2:=HF9.out.2.1;omega,by have h1:=HF.out.2.2;have h2:=HF9.out.2.2;simp only [left_length] at h1 h2 ⊢;omega,hS.end3 (Nat.lt_succ_self _) _ _ _⟩⟩
     rw [HC.out,HV.out,← HC.out,HF.out.1]
     simp only [left_tail,HF9.out.1,HCm.out,HOT.out.1,HOT.out.2]
     rw [if_neg HO1.out]
     rfl
   ·have hs9':w8.heap.size≤w9.heap.size:=hk9.size
    have HZ9:=Lib.hid (hk9.off HB8.out.lt HZ5.out)
    have HB9:=Lib.hid (HB8.out.kz hk9 hTR HZ5.out)
    have HU9:=Lib.hid (HU8.out.kz hk9 (by omega) HZX.out)
    have HK9:=Lib.hid (HK8.out.trans hk9)
    have HP9:=Lib.hid hp9
    have HF9:=Lib.hid (And.intro hf9 he9)
    have c0:=fun o o2=>((HB9.out.alloc o).alloc o2).get3.1
    have c1:=fun o o2=>((HB9.out.alloc o).alloc o2).get3.2.1
    have c2:=fun o o2=>((HB9.out.alloc o).alloc o2).get3.2.2.1
    have f0:=fun o o2=>((HB9.out.alloc o).alloc o2).get3.2.2.2.1
    have f1:=fun o o2=>((HB9.out.alloc o).alloc o2).get3.2.2.2.2.1
    have f2:=fun o o2=>((HB9.out.alloc o).alloc o2).get3.2.2.2.2.2
    have u0:=fun o=>(HU9.out.alloc o).get4.1
    have u1:=fun o=>(HU9.out.alloc o).get4.2.1
    have u2:=fun o=>(HU9.out.alloc o).get4.2.2.1
    have u3:=fun o=>(HU9.out.alloc o).get4.2.2.2.1
    clear hk9 hp9 hf9 he9
    cases tn
    ·go_wp2_with fail
     refine bodyPost_ret (v:=.tuple #[.agg #[.int .i64 o,.string ⟨#[]⟩,.slice (some ⟨w9.heap.size+1,0,none⟩) 2 2],.bool false]) (by simp [results,Tryz.results61,go_sem,c0,c1,c2]) rfl ?_
     have hb10:Below w9.heap.size w9 ((w9.alloc (.cells #[.int .i64 y.kind,.int .i64 y.num,.string y.name,.slice y.at_ y.args.length y.cap] 56)).alloc (.cells #[.int .i64 u.kind,.int .i64 u.num,.string (S nm),.slice u.at_ u.args.length u.cap,.int .i64 y.kind,.int .i64 y.num,.string y.name,.slice y.at_ y.args.length y.cap] 56)):=((Below.refl w9.heap.size w9).alloc (Nat.le_refl _) (.cells #[.int .i64 y.kind,.int .i64 y.num,.string y.name,.slice y.at_ y.args.length y.cap] 56)).alloc (by simp) (.cells #[.int .i64 u.kind,.int .i64 u.num,.string (S nm),.slice u.at_ u.args.length u.cap,.int .i64 y.kind,.int .i64 y.num,.string y.name,.slice y.at_ y.args.length y.cap] 56)
     obtain ⟨e1,e2⟩:=endz3 hR (HK9.out.trans (Below.kp hb10 R z9)) (HP9.out.below hb10) HZ9.out (.int .i64 o) (.string ⟨#[]⟩) (.slice (some ⟨w9.heap.size+1,0,none⟩) 2 2)
     refine ⟨⟨o,⟨#[]⟩,some ⟨w9.heap.size+1,0,none⟩,2,[u,y]⟩,false,rfl,.inr ⟨rfl,z9,ns9,q,m,e9,e1,e2,HF9.out.2,?_⟩⟩
     rw [HC.out,HV.out,← HC.out,HF.out.1]
     simp only [if_neg HC0.out,left_tail,HF9.out.1]
    ·go_wp2_with fail
     refine bodyPost_ret (v:=.tuple #[.agg #[.int .i64 o,.string ⟨#[]⟩,.slice (some ⟨w9.heap.size+1,0,none⟩) 2 2],.bool false]) (by simp [results,Tryz.results61,go_sem,c0,c1,c2]) rfl ?_
     have hb10:Below w9.heap.size w9 ((w9.alloc (.cells #[.int .i64 y.kind,.int .i64 y.num,.string y.name,.slice y.at_ y.args.length y.cap] 56)).alloc (.cells #[.int .i64 y.kind,.int .i64 y.num,.string y.name,.slice y.at_ y.args.length y.cap,.int .i64 u.kind,.int .i64 u.num,.string (S nm),.slice u.at_ u.args.length u.cap] 56)):=((Below.refl w9.heap.size w9).alloc (Nat.le_refl _) (.cells #[.int .i64 y.kind,.int .i64 y.num,.string y.name,.slice y.at_ y.args.length y.cap] 56)).alloc (by simp) (.cells #[.int .i64 y.kind,.int .i64 y.num,.string y.name,.slice y.at_ y.args.length y.cap,.int .i64 u.kind,.int .i64 u.num,.string (S nm),.slice u.at_ u.args.length u.cap] 56)
     obtain ⟨e1,e2⟩:=endz3 hR (HK9.out.trans (Below.kp hb10 R z9)) (HP9.out.below hb10) HZ9.out (.int .i64 o) (.string ⟨#[]⟩) (.slice (some ⟨w9.heap.size+1,0,none⟩) 2 2)
     refine ⟨⟨o,⟨#[]⟩,some ⟨w9.heap.size+1,0,none⟩,2,[y,u]⟩,false,rfl,.inr ⟨rfl,z9,ns9,q,m,e9,e1,e2,HF9.out.2,?_⟩⟩
     rw [HC.out,HV.out,← HC.out,HF.out.1]
     simp only [if_neg HC0.out,left_tail,HF9.out.1]
 ·have hs5':w2.heap.size+1≤w5.heap.size:=by have:=hk5.size;simpa using this
  have HZ5:=Lib.hid (hk5.off HB2.out.lt HZ0.out)
  have HB5:=Lib.hid (HB2.out.kz hk5 hTR HZ0.out)
  have HT5:=Lib.hid (HT2.out.kz hk5 hne2 HZ2.out)
  have HK5:=Lib.hid (HK2.out.trans hk5)
  have HP6:=Lib.hid (hp5.alloc (.cells #[.int .i64 u.kind,.int .i64 u.num,.string (S nm),.slice u.at_ u.args.length u.cap] 56))
  have HK6:=Lib.hid (HK5.out.alloc (.cells #[.int .i64 u.kind,.int .i64 u.num,.string (S nm),.slice u.at_ u.args.length u.cap] 56))
  have HF:=Lib.hid (And.intro hf he5)
  have c0:=fun o=>(HB5.out.alloc o).get3.1
  have c1:=fun o=>(HB5.out.alloc o).get3.2.1
  have c2:=fun o=>(HB5.out.alloc o).get3.2.2.1
  have f0:=fun o=>(HB5.out.alloc o).get3.2.2.2.1
  have f1:=fun o=>(HB5.out.alloc o).get3.2.2.2.2.1
  have f2:=fun o=>(HB5.out.alloc o).get3.2.2.2.2.2
  clear hk5 hp5 hf he5
  go_wp2_with fail
  refine bodyPost_ret (v:=.tuple #[.agg #[.int .i64 0,.string ⟨#[]⟩,.slice none 0 0],.bool false]) (by simp [results,Tryz.results61,go_sem,c0,c1,c2]) rfl ?_
  obtain ⟨e1,e2⟩:=endz3 hR HK6.out HP6.out HZ5.out (.int .i64 0) (.string ⟨#[]⟩) (.slice none 0 0)
  refine ⟨⟨0,⟨#[]⟩,none,0,[]⟩,false,rfl,.inr ⟨rfl,z5,ns5,j,m,e5,e1,e2,HF.out.2,?_⟩⟩
  rw [HC.out,HV.out,← HC.out,HF.out.1]
end
end Go.Proofs.YtaojnljppcnhjaaGreatDoor
namespace Go.Proofs.YtaojnljppcnhjaaGreatDoor
open Go.RowKit
theorem plain_z {R:Nat} {A:Option Addr} {c:Nat} {l:List Tk} (hg:GoodT l) {n:Nat} {ex:Rd1 Tm} (hE:ExprZ R A c l n ex) (i:Nat) (z:Value) (ns:List (List UInt8)) (at_:Nat) (w:World) (h:Pr w R A c l i z ns at_ 0) (hn:(leftT l i).length≤n) (hns:ns.length+(leftT l i).length≤100000) :
  Calls Tryz.prog 61 #[.pointer (some ⟨R,0,none⟩)] w (ElZ elGl Gl.val sG (goalS ex) R A c l i z ns w):=by
 by_cases hk:(l.getD i default).1=1
 ·cases hr:resB (l.getD i default).2.2
  ·exact plainz_name hg hE i z ns at_ w h hn hns hk hr
  ·by_cases h1:(l.getD i default).2.2=[116,114,117,101]
   ·exact plainz_true hg hE i z ns at_ w h hn hns hk h1
   by_cases h2:(l.getD i default).2.2=[102,97,105,108]
   ·exact plainz_fail hg hE i z ns at_ w h hn hns hk h2
   by_cases h3:(l.getD i default).2.2=[105,110,116]
   ·exact plainz_int hg hE i z ns at_ w h hn hns hk h3
   by_cases h4:(l.getD i default).2.2=[103,114,111,117,110,100]
   ·exact plainz_ground hg hE i z ns at_ w h hn hns hk h4
   exact plainz_word hg hE i z ns at_ w h hn hns hk hr h1 h2 h3 h4
 ·exact plainz_other hg hE i z ns at_ w h hn hns hk
end Go.Proofs.YtaojnljppcnhjaaGreatDoor
namespace Go.Proofs.YtaojnljppcnhjaaGreatDoor
open Go.RowKit
theorem rightL_strip (l:List Tm):rightL l=rightT (stripL l):=by
 unfold rightL rightT
 rw [form_strip.2,size_strip.2,depth_strip.2]
theorem atomB_strip (s:ByteArray) (l:List Tm):atomB s.data.toList l=rightA s.data.toList (stripL l):=by
 unfold atomB rightA
 rw [rightL_strip,stripL_len]
theorem goalB_strip (op:Int) (s:ByteArray) (l:List Tm):goalB op s l=rightG (op,s.data.toList,stripL l):=by
 unfold goalB
 by_cases h0:op=0
 ·rw [if_pos h0,h0,rightG_call,atomB_strip]
 ·rw [if_neg h0,rightG_op h0]
  unfold builtinB
  rw [rightL_strip,stripL_len]
  congr 1
  rw [Bool.eq_iff_iff,decide_eq_true_iff,decide_eq_true_iff]
  show s.data.size=0↔_
  rw [←Array.length_toList,List.length_eq_zero_iff]
section
variable {α β:Type}
def ListZ (E:Elt α) (T:TypeId) (h:α→β) (f:Rd1 (List β)) (R:Nat) (A:Option Addr) (c:Nat) (l:List Tk) (i:Nat) (z:Value) (ns:List (List UInt8)) (w:World) (en:Ending) (w':World):Prop :=
 ∃(xs:List α) (b:Bool) (rv:Value),en=.returned (.tuple #[rv,.bool b]) ∧
  ((b=true∧∃z' ns' j at_,Kp R z z' w w'∧Pr w' R A c l j z' ns' at_ 0∧f (leftT l i) ns=.ok (xs.map h) (leftT l j) ns'∧i < j∧ns'.length+(leftT l j).length≤ns.length+(leftT l i).length∧RowZ E T w.heap.size z' w' rv xs∧xs.length≤16385) ∨
   (b=false∧rv=.slice none 0 0∧∃z' ns' j n e,Kp R z z' w w'∧Pr w' R A c l j z' ns' (offT l n) e∧e≠0∧f (leftT l i) ns=.err n e))
structure LoopZ (E:Elt α) (T:TypeId) (h:α→β) (F:List β→Rd1 (List β)) (R:Nat) (A:Option Addr) (c:Nat) (l:List Tk) (i:Nat) (z0:Value) (ns0:List (List UInt8)) (w:World) (gk:Nat) (r:Value) (wr:World) (q:Nat) (xs:List α) (z:Value) (ns:List (List UInt8)) (a:Nat):Prop where
 k:Kp R z0 z w wr
 p:Pr wr R A c l q z ns a 0
 row:RowZ E T w.heap.size z wr r xs
 all:F [] (leftT l i) ns0=F (xs.map h) (leftT l q) ns
 iq:i≤q
 len:xs.length≤q
 nsl:ns.length+(leftT l q).length≤ns0.length+(leftT l i).length
 gk_:l.length - q≤gk
theorem news1_of (E:Elt α) (w:World) (u:α) (T:TypeId):∀j v,(E.cells u)[j]?=some v→(w.alloc (.cells (E.cells u).toArray T)).cell? ((⟨w.heap.size,0,none⟩:Addr).add j)=some v:=by
 intro j v hv
 rw [add_plain,Nat.zero_add,World.cell?_alloc_at _ _ _ _ rfl,← hv,List.getElem?_toArray]
end
end Go.Proofs.YtaojnljppcnhjaaGreatDoor
