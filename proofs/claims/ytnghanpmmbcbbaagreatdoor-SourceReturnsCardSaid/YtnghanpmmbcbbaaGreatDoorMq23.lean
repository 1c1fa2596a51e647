/-
  PgComp.
  PgAny.
  PgChkP.
 PgChkGl.
-/
import Derived.Test.YtnghanpmmbcbbaaGreatDoorMq22
namespace Go.Proofs.YtnghanpmmbcbbaaGreatDoor
open Go.RowKit
def compS (ex:Rd1 Tm):Rd1 Gs:=fun ts ns =>
 match ex ts ns with
 | .err l e=>.err l e
 | .ok x r2 ns2 =>
  if (cmpS r2).1=0 then (if (ts.headD (0,[],false)).1=1∧x.name.data.toList=(ts.headD (0,[],false)).2.1 then .ok (0,(ts.headD (0,[],false)).2.1,x.args) r2 ns2 else .err r2.length 16)
  else (match ex r2.tail ns2 with
   | .ok y r3 ns3=>.ok ((cmpS r2).1,[],if (cmpS r2).2 then [y,x] else [x,y]) r3 ns3
   | .err l e=>.err l e)
theorem SitG.swap {α:Type} {E:Elt α} {lo:Nat} {w:World} {L M:List α} (h:SitG E lo w (L++M)):SitG E lo w (M++L):=by
 refine ⟨fun x hx=>h.at_ x (List.mem_append.2 (List.mem_append.1 hx).symm),?_,fun b hb=>h.bd b ?_,fun b hb=>h.fz b (by rw [Elt.blkL_append] at hb ⊢;exact List.mem_append.2 (List.mem_append.1 hb).symm)⟩
 ·have:=h.nd
  rw [Elt.blkL_append] at this ⊢
  exact (List.perm_append_comm.nodup_iff).1 this
 ·rw [Elt.blkL_append] at hb ⊢
  exact List.mem_append.2 (List.mem_append.1 hb).symm
theorem opT_ne {x:List UInt8} (h:(opT x).1≠0):x≠[]:=by rintro rfl;exact h rfl
theorem opT_fits (x:List UInt8):Fits (opT x).1:=by
 unfold opT Fits
 repeat' split
 all_goals simp
theorem okv_args {l:List Tk} {i j:Nat} {u:Tm} (h:OkV l i j [u]):OkV l i j u.args:=by
 obtain ⟨k,n,s,A,c,a⟩:=u
 obtain ⟨h1,h2,h3⟩:=h
 show OkV l i j a
 rcases h1.1 with ⟨_,_,rfl⟩|⟨_,_,rfl⟩|⟨rfl,_,h⟩
 ·exact OkV.nil _ _ _
 ·exact OkV.nil _ _ _
 ·have e:occL [Tm.mk 2 n s A c a]=occL a:=by simp [occL,Tm.occ]
  rw [e] at h2 h3
  exact ⟨h,h2,h3⟩
section
variable {R:Nat} {A:Option Addr} {c:Nat} {l:List Tk}
set_option maxHeartbeats 8000000 in
set_option maxRecDepth 100000 in
theorem comparison_at (hg:GoodT l) {a n:Nat} {ex:Rd1 Tm} (hE:ExprQ R A c l a n ex) (hNm:NamesP ex) (i:Nat) (w:World) (h:Pq w R A c l i) (ha:a≤i) (hn:(leftT l i).length≤n) :
  Calls Tryz.prog 180 #[.pointer (some ⟨R,0,none⟩)] w (ElR rdGl (compS ex) R A c l a i w):=by
 have HG:=Lib.hid hg
 have hR:=h.lt
 have hTR:w.heap.size≠R:=by omega
 have HI:=Lib.hid h.ilt
 have HA:=Lib.hid ha
 have HNn:=Lib.hid hn
 obtain ⟨t,ht⟩:∃t,l.getD i default=t:=⟨_,rfl⟩
 obtain ⟨k,p,x⟩:=t
 have HT:=Lib.hid ht
 have HC:=Lib.hid (show leftT l i=(k,x,markT l i) :: leftT l (i+1) by rw [left_cons h.ilt,ht])
 have Q:=Lib.hid (p_next_of (h.alloc (.cells #[.int .i64 0,.string ⟨#[]⟩,.slice none 0 0] 59)) ht)
 have H:=Lib.hid h
 have QE:=Lib.hid hE
 have HNm:=Lib.hid hNm
 have HB0:=Lib.hid (BoxL.new w [.int .i64 0,.string ⟨#[]⟩,.slice none 0 0] 59)
 clear hg hE hNm h ha hn ht
 go_enter Tryz.func180,Tryz.ntmps180
 go_wp2_with (go_at_call 94;refine Q.out.mono ?_;rintro en w2 ⟨rfl,hb2⟩;have hb3:=hb2.alloc hb2.size (.cells #[.int .i64 k,.int .i64 (p:Int),.string (S x)] 135);have HP:=Lib.hid ((H.out.alloc _).below hb3);have hsz:w.heap.size+1≤w2.heap.size:=(by have:=hb2.size;simpa using this);have HB1:=Lib.hid (HB0.out.below hb3);have HT1:=Lib.hid (BoxL.new w2 [.int .i64 k,.int .i64 (p:Int),.string (S x)] 135);have HK1:=Lib.hid (((Kp.refl R Z0 w).alloc (.cells #[.int .i64 0,.string ⟨#[]⟩,.slice none 0 0] 59)).trans (Below.kp hb3 R Z0));clear hb2 hb3)
 refine (QE.out i _ HP.out HA.out HNn.out).mono ?_
 rintro e w3 ⟨u,j,er,he,hk3,hp3,hs3,ho⟩
 have he2:e=.returned (.tuple #[.agg #[.int .i64 u.kind,.int .i64 u.num,.string u.name,.slice u.at_ u.args.length u.cap],.int .i64 er]):=he
 clear he
 subst he2
 have hsz3:w2.heap.size+1≤w3.heap.size:=by have:=hk3.size;simpa using this
 have HB3:=Lib.hid (HB1.out.kq hk3 hTR)
 have HT3:=Lib.hid (HT1.out.kq hk3 (by omega))
 have HK3:=Lib.hid (HK1.out.trans hk3)
 have HP3:=Lib.hid hp3
 have HS3:=Lib.hid (show SitG elTm (w.heap.size+1) w3 [u] from hs3.low (by simp;omega))
 have hb4:=((Below.refl w3.heap.size w3).alloc (Nat.le_refl _) (.cells #[.int .i64 u.kind,.int .i64 u.num,.string u.name,.slice u.at_ u.args.length u.cap] 69))
 have HB4:=Lib.hid (HB3.out.below hb4)
 have HT4:=Lib.hid (HT3.out.below hb4)
 have HK4:=Lib.hid (HK3.out.trans (Below.kp hb4 R Z0))
 have HP4:=Lib.hid (HP3.out.below hb4)
 have HS4:=Lib.hid (HS3.out.below hb4)
 have HU4:=Lib.hid (BoxL.new w3 [.int .i64 u.kind,.int .i64 u.num,.string u.name,.slice u.at_ u.args.length u.cap] 69)
 have HSz4:=Lib.hid (show (w3.alloc (.cells #[.int .i64 u.kind,.int .i64 u.num,.string u.name,.slice u.at_ u.args.length u.cap] 69)).heap.size=w3.heap.size+1 by simp)
 clear hk3 hp3 hs3 hb4
 rcases ho with ⟨rfl,hf,hij,hv⟩|⟨her,hf⟩
 ·have HF:=Lib.hid hf
  have HJ:=Lib.hid hij
  have HV:=Lib.hid hv
  obtain ⟨t2,ht2⟩:∃t,l.getD j default=t:=⟨_,rfl⟩
  obtain ⟨k2,p2,x2⟩:=t2
  have HCm:=Lib.hid (show cmpS (leftT l j)=opT x2 by rw [cmp_left HG.out HP4.out.ilt,ht2])
  have ft:=tok_text k2 (p2:Int) (S x2)
  have Q2:=Lib.hid (fun W (hW:Pq W R A c l j)=>p_next_of hW ht2)
  have HFt:=Lib.hid (opT_fits x2)
  have HNj:=Lib.hid (show (opT x2).1≠0→j+1 < l.length from fun h=>good_next HG.out HP4.out.ilt (by rw [ht2];exact opT_ne h))
  have HN2:=Lib.hid (show (opT x2).1≠0→nsL l a (j+1)=nsL l a j from fun h=>by
   refine nsL_no (k:=k2) (by rw [ht2]) ?_
   have hk:=HG.out.kinds j HP4.out.ilt
   rw [ht2] at hk
   have hk':k2=kindO x2:=hk
   rw [hk']
   rintro e
   refine h ?_
   unfold opT
   repeat' split
   all_goals first|rfl|(rename_i e2;rw [e2] at e;exact absurd e (by decide)))
  have QC:=Lib.hid (fun W=>cmpop_at x2 W)
  generalize hoT:opT x2=oT at *
  obtain ⟨o,xb⟩:=oT
  clear hf hij hv ht2
  by_cases ho0:o=0
  ·subst ho0
   have hCz:(cmpS (leftT l j)).1=0:=by rw [HCm.out]
   have HCz:=Lib.hid hCz
   have HPl:=Lib.hid (show compS ex (leftT l i) (nsL l a i)=if k=1∧(u.num2 (gL l a)).name.data.toList=x then .ok (0,x,(u.num2 (gL l a)).args) (leftT l j) (nsL l a j) else .err (leftT l j).length 16 by
    unfold compS
    rw [HF.out]
    simp only [if_pos hCz,HC.out,List.headD_cons]
    rfl)
   clear hCz
   have HCm2:Hid True:=Lib.hid trivial
   by_cases hk1:k=1
   ·subst hk1
    obtain ⟨b,hb⟩:∃b,opB u.name.data.toList=b:=⟨_,rfl⟩
    have QO:=Lib.hid (fun W=>op_at u.name W hb)
    have HBo:=Lib.hid hb
    clear hb
    have HNx:=Lib.hid (show u.name.data.toList=x∨opB u.name.data.toList=true by
     have:=HNm.out _ _ _ _ _ HF.out x (markT l i) (leftT l (i+1)) (by rw [HC.out])
     obtain ⟨k,n,s,A,c,a⟩:=u
     exact this)
    have HKx:=Lib.hid (show kindO x=1 by have:=HG.out.kinds i HI.out;rw [HT.out] at this;exact this.symm)
    cases b
    ·obtain ⟨c0,c1,c2,f0,f1,f2⟩:=HB4.out.get3
     go_wp2_with (first
      | (go_at_call 94;refine (Q2.out _ HP4.out).mono ?_;rintro en w5 ⟨rfl,hb5⟩;have HB5:=Lib.hid (HB4.out.below hb5);have HK5:=Lib.hid (HK4.out.trans (Below.kp hb5 R Z0));have HP5:=Lib.hid (HP4.out.below hb5);have HS5:=Lib.hid (HS4.out.below hb5);clear c0 c1 c2 f0 f1 f2;obtain ⟨c0,c1,c2,f0,f1,f2⟩:=HB5.out.get3;obtain ⟨d0,d1,d2,d3,_⟩:=(HU4.out.below hb5).get4;obtain ⟨t0,t1,t2,_⟩:=(HT4.out.below hb5).get3;clear hb5)
      | (go_at_call 207;refine (QC.out _).mono ?_;rintro en w6 ⟨rfl,rfl⟩)
      | (go_at_call 167;refine (QO.out _).mono ?_;rintro en w7 ⟨rfl,rfl⟩))
     refine bodyPost_ret (v:=.tuple #[.agg #[.int .i64 0,.string u.name,.slice u.at_ u.args.length u.cap],.int .i64 0]) (by simp [results,Tryz.results180,go_sem,c0,c1,c2]) rfl ?_
     obtain ⟨e1,e2,e3⟩:=end3 hR HK5.out HP5.out (sit_call HS5.out) (Nat.lt_succ_self _) (.int .i64 0) (.string u.name) (.slice u.at_ u.args.length u.cap)
     refine ⟨⟨0,u.name,u.at_,u.cap,u.args⟩,j,0,rfl,e1,e2,e3,.inl ⟨rfl,?_,HJ.out,?_⟩⟩
     ·have hnm:u.name.data.toList=x:=HNx.out.elim id (fun h=>by rw [HBo.out] at h;cases h)
      have hnu:(u.num2 (gL l a)).name=u.name∧(u.num2 (gL l a)).args=numL2 (gL l a) u.args:=by cases u;exact ⟨rfl,rfl⟩
      rw [HPl.out,hnu.1,hnu.2,if_pos (by first|exact ⟨rfl,hnm⟩|exact ⟨trivial,hnm⟩),← hnm]
      rfl
     ·exact okv_args HV.out
    ·obtain ⟨c0,c1,c2,f0,f1,f2⟩:=HB4.out.get3
     go_wp2_with (first
      | (go_at_call 94;refine (Q2.out _ HP4.out).mono ?_;rintro en w5 ⟨rfl,hb5⟩;have HB5:=Lib.hid (HB4.out.below hb5);have HK5:=Lib.hid (HK4.out.trans (Below.kp hb5 R Z0));have HP5:=Lib.hid (HP4.out.below hb5);clear c0 c1 c2 f0 f1 f2;obtain ⟨c0,c1,c2,f0,f1,f2⟩:=HB5.out.get3;obtain ⟨d0,d1,d2,d3,_⟩:=(HU4.out.below hb5).get4;obtain ⟨t0,t1,t2,_⟩:=(HT4.out.below hb5).get3;clear hb5)
      | (go_at_call 207;refine (QC.out _).mono ?_;rintro en w6 ⟨rfl,rfl⟩)
      | (go_at_call 167;refine (QO.out _).mono ?_;rintro en w7 ⟨rfl,rfl⟩))
     refine bodyPost_ret (v:=.tuple #[.agg #[.int .i64 0,.string ⟨#[]⟩,.slice none 0 0],.int .i64 16]) (by simp [results,Tryz.results180,go_sem,c0,c1,c2]) rfl ?_
     obtain ⟨e1,e2,e3⟩:=end3 hR HK5.out HP5.out (sit_goal0 (w.heap.size+1) w5 (op:=0) (by unfold Fits;omega)) (Nat.lt_succ_self _) (.int .i64 0) (.string ⟨#[]⟩) (.slice none 0 0)
     refine ⟨⟨0,⟨#[]⟩,none,0,[]⟩,j,16,rfl,e1,e2,e3,.inr ⟨by omega,?_⟩⟩
     rw [HPl.out,if_neg]
     rintro ⟨_,hx⟩
     have hnu:(u.num2 (gL l a)).name=u.name:=by cases u;rfl
     rw [hnu] at hx
     have h1:=op_kind HBo.out
     rw [hx,HKx.out] at h1
     exact absurd h1 (by decide)
   ·have hk1':(k != 1)=true:=bne_iff_ne.2 hk1
    have HK1n:=Lib.hid hk1
    clear hk1
    obtain ⟨c0,c1,c2,f0,f1,f2⟩:=HB4.out.get3
    go_wp2_with (first
     | (go_at_call 94;refine (Q2.out _ HP4.out).mono ?_;rintro en w5 ⟨rfl,hb5⟩;have HB5:=Lib.hid (HB4.out.below hb5);have HK5:=Lib.hid (HK4.out.trans (Below.kp hb5 R Z0));have HP5:=Lib.hid (HP4.out.below hb5);clear c0 c1 c2 f0 f1 f2;obtain ⟨c0,c1,c2,f0,f1,f2⟩:=HB5.out.get3;obtain ⟨t0,t1,t2,_⟩:=(HT4.out.below hb5).get3;clear hb5)
     | (go_at_call 207;refine (QC.out _).mono ?_;rintro en w6 ⟨rfl,rfl⟩))
    refine bodyPost_ret (v:=.tuple #[.agg #[.int .i64 0,.string ⟨#[]⟩,.slice none 0 0],.int .i64 16]) (by simp [results,Tryz.results180,go_sem,c0,c1,c2]) rfl ?_
    obtain ⟨e1,e2,e3⟩:=end3 hR HK5.out HP5.out (sit_goal0 (w.heap.size+1) w5 (op:=0) (by unfold Fits;omega)) (Nat.lt_succ_self _) (.int .i64 0) (.string ⟨#[]⟩) (.slice none 0 0)
    refine ⟨⟨0,⟨#[]⟩,none,0,[]⟩,j,16,rfl,e1,e2,e3,.inr ⟨by omega,?_⟩⟩
    rw [HPl.out,if_neg (fun h=>HK1n.out h.1)]
  ·have HPl := Lib.hid (show compS ex (leftT l i) (nsL l a i) = (match ex (leftT l (j + 1)) (nsL l a j) with
        | .ok y r3 ns3 => .ok (o, [], if xb = true then [y, u.num2 (gL l a)] else [u.num2 (gL l a), y]) r3 ns3
        | .err l e => .err l e) by
    unfold compS
    rw [HF.out]
    simp only [HCm.out,if_neg ho0,left_tail]
    rfl)
   have hoF:(o==0)=false:=by simpa using ho0
   have HN1:=Lib.hid (HNj.out ho0)
   have HNs:=Lib.hid (HN2.out ho0)
   have HI6:=Lib.hid (show (j:Int)+1≤16386 by have:=HP4.out.ilt;have:=HG.out.small;omega)
   have hi1:(j:Int)+1≤9223372036854775807:=by have:=HI6.out;omega
   have QE2:=Lib.hid (fun W (hW:Pq W R A c l (j+1))=>QE.out (j+1) W hW (by have:=HA.out;have:=HJ.out;omega) (by have hn:=HNn.out;have hj:=HJ.out;rw [left_length] at hn ⊢;omega))
   clear ho0
   obtain ⟨c0,c1,c2,f0,f1,f2⟩:=HB4.out.get3
   go_wp2_with (first
    | (go_at_call 94;refine (Q2.out _ HP4.out).mono ?_;rintro en w5 ⟨rfl,hb5⟩;have HB5:=Lib.hid (HB4.out.below hb5);have HK5:=Lib.hid (HK4.out.trans (Below.kp hb5 R Z0));have HP5:=Lib.hid (HP4.out.below hb5);have HS5:=Lib.hid (HS4.out.below hb5);have HU5:=Lib.hid (HU4.out.below hb5);have l1:=HP5.out.l1;have lf:=HP5.out.fr 1;have hsz5:w3.heap.size+1≤w5.heap.size:=(by have:=hb5.size;have:=HSz4.out;omega);clear hb5)
    | (go_at_call 207;refine (QC.out _).mono ?_;rintro en w6 ⟨rfl,rfl⟩))
   have HP5s:=Lib.hid (HP5.out.set (q:=j+1) HN1.out)
   refine (QE2.out _ HP5s.out).mono ?_
   rintro e w6 ⟨y,j2,er2,he,hk6,hp6,hs6,ho6⟩
   have he2:e=.returned (.tuple #[.agg #[.int .i64 y.kind,.int .i64 y.num,.string y.name,.slice y.at_ y.args.length y.cap],.int .i64 er2]):=he
   clear he
   subst he2
   have hsz6:w5.heap.size≤w6.heap.size:=by have:=hk6.size;simpa [World.setCell] using this
   have hb7:=((Below.refl w6.heap.size w6).alloc (Nat.le_refl _) (.cells #[.int .i64 y.kind,.int .i64 y.num,.string y.name,.slice y.at_ y.args.length y.cap] 69))
   have hRl:¬w3.heap.size=R:=by omega
   have HB7:=Lib.hid (((HB5.out.put (p:=⟨R,1,none⟩) hTR.symm _).kq hk6 hTR).below hb7)
   have HU7:=Lib.hid (((HU5.out.put (p:=⟨R,1,none⟩) (fun e=>hRl e.symm) _).kq hk6 hRl).below hb7)
   have HY7:=Lib.hid (BoxL.new w6 [.int .i64 y.kind,.int .i64 y.num,.string y.name,.slice y.at_ y.args.length y.cap] 69)
   have HK7:=Lib.hid (((HK5.out.set 1 none (.int .i64 ((j+1:Nat):Int))).trans hk6).trans (Below.kp hb7 R Z0))
   have HP7:=Lib.hid (hp6.below hb7)
   have hlow5:w5.heap.size≤(w5.setCell ⟨R,1,none⟩ (.int .i64 ((j+1:Nat):Int))).heap.size:=by simp [World.setCell]
   have hus:SitG elTm (w.heap.size+1) (w5.setCell ⟨R,1,none⟩ (.int .i64 ((j+1:Nat):Int))) [u]:=HS5.out.put (p:=⟨R,1,none⟩) (fun hx=>by have:=(HS5.out.bd _ hx).1;simp only at this;omega) _
   have HS7:=Lib.hid (((hus.kq hk6 (by omega)).append hs6 (by omega) (fun b hb=>(hus.bd b hb).2)).below hb7)
   have HNl:=Lib.hid (show w3.heap.size∉elTm.blkL ([u]++[y])∧w6.heap.size∉elTm.blkL ([u]++[y]) by
    constructor
    ·intro hx
     rw [Elt.blkL_append] at hx
     rcases List.mem_append.1 hx with hx|hx
     ·exact absurd (HS3.out.bd _ hx).2 (Nat.lt_irrefl _)
     ·have h1:(w5.setCell ⟨R,1,none⟩ (.int .i64 ((j+1:Nat):Int))).heap.size≤w3.heap.size:=(hs6.bd _ hx).1
      omega
    ·intro hx
     have hx2:=(((hus.kq hk6 (by omega)).append hs6 (by omega) (fun b hb=>(hus.bd b hb).2)).bd _ hx).2
     omega)
   have HSz7:=Lib.hid (show (w6.alloc (.cells #[.int .i64 y.kind,.int .i64 y.num,.string y.name,.slice y.at_ y.args.length y.cap] 69)).heap.size=w6.heap.size+1 by simp)
   have HO6:=Lib.hid ho6
   clear hk6 hp6 hs6 ho6 hb7 hlow5 hus l1 lf c0 c1 c2 f0 f1 f2
   obtain ⟨c0,c1,c2,f0,f1,f2⟩:=HB7.out.get3
   obtain ⟨d0,d1,d2,d3,g0,g1,g2,g3⟩:=HU7.out.get4
   have hlr:¬w3.heap.size=w6.heap.size:=by omega
   have hrl:¬w6.heap.size=w3.heap.size:=by omega
   have hZl:¬w3.heap.size=w.heap.size:=by omega
   have hZr:¬w6.heap.size=w.heap.size:=by omega
   cases xb
   ·have hrow:=row2_lst (w6.alloc (.cells #[.int .i64 y.kind,.int .i64 y.num,.string y.name,.slice y.at_ y.args.length y.cap] 69)) u y (HS7.out.at_ u (by simp)) (HS7.out.at_ y (by simp))
    rw [HSz7.out] at hrow
    have hb8:=((Below.refl (w6.alloc (.cells #[.int .i64 y.kind,.int .i64 y.num,.string y.name,.slice y.at_ y.args.length y.cap] 69)).heap.size (w6.alloc (.cells #[.int .i64 y.kind,.int .i64 y.num,.string y.name,.slice y.at_ y.args.length y.cap] 69))).alloc (Nat.le_refl _) (.cells #[.int .i64 u.kind,.int .i64 u.num,.string u.name,.slice u.at_ u.args.length u.cap,.int .i64 y.kind,.int .i64 y.num,.string y.name,.slice y.at_ y.args.length y.cap] 69))
    have HS8:=Lib.hid (sit_goal (op:=o) (s:=⟨#[]⟩) HS7.out hb8 hrow (by rw [HSz7.out];omega) (by simp) (by rw [HSz7.out];omega) HFt.out (Nat.zero_le _) (fun j=>by rw [←HSz7.out];exact World.frozen?_alloc_at _ _ _ _ rfl))
    have HK8:=Lib.hid (HK7.out.trans (Below.kp hb8 R Z0))
    have HP8:=Lib.hid (HP7.out.below hb8)
    clear c0 c1 c2 f0 f1 f2
    obtain ⟨c0,c1,c2,f0,f1,f2⟩:=(HB7.out.below hb8).get3
    clear hrow hb8
    go_wp2_with fail
    refine bodyPost_ret (v:=.tuple #[.agg #[.int .i64 o,.string ⟨#[]⟩,.slice (some ⟨w6.heap.size+1,0,none⟩) 2 2],.int .i64 er2]) (by simp [results,Tryz.results180,go_sem,c0,c1,c2]) rfl ?_
    obtain ⟨e1,e2,e3⟩:=end3 hR HK8.out HP8.out HS8.out (Nat.lt_succ_self _) (.int .i64 o) (.string ⟨#[]⟩) (.slice (some ⟨w6.heap.size+1,0,none⟩) 2 2)
    refine ⟨⟨o,⟨#[]⟩,some ⟨w6.heap.size+1,0,none⟩,2,[u,y]⟩,j2,er2,rfl,e1,e2,e3,?_⟩
    rw [HPl.out]
    rcases HO6.out with ⟨rfl,hf,hij,hv⟩|⟨her,hf⟩
    ·rw [HNs.out] at hf
     exact .inl ⟨rfl,by rw [hf];rfl,by have:=HJ.out;omega,HV.out.append hv (by omega) (by have:=HJ.out;omega) (by omega)⟩
    ·rw [HNs.out] at hf
     exact .inr ⟨her,by rw [hf]⟩
   ·have hsw:=HS7.out.swap
    have hn1:w3.heap.size∉elTm.blkL ([y]++[u]):=fun hx=>HNl.out.1 (by rw [Elt.blkL_append] at hx ⊢;exact List.mem_append.2 (List.mem_append.1 hx).symm)
    have hn2:w6.heap.size∉elTm.blkL ([y]++[u]):=fun hx=>HNl.out.2 (by rw [Elt.blkL_append] at hx ⊢;exact List.mem_append.2 (List.mem_append.1 hx).symm)
    obtain ⟨W8,hW8⟩:∃W8,W8=sets4 (sets4 (w6.alloc (.cells #[.int .i64 y.kind,.int .i64 y.num,.string y.name,.slice y.at_ y.args.length y.cap] 69)) w3.heap.size (.int .i64 y.kind) (.int .i64 y.num) (.string y.name) (.slice y.at_ y.args.length y.cap)) w6.heap.size (.int .i64 u.kind) (.int .i64 u.num) (.string u.name) (.slice u.at_ u.args.length u.cap):=⟨_,rfl⟩
    have hS8:SitG elTm (w.heap.size+1) W8 ([y]++[u]):=by rw [hW8];exact (hsw.other4 hn1 _ _ _ _).other4 hn2 _ _ _ _
    have hK8:Kq R w W8:=by rw [hW8];exact (HK7.out.other4 (by omega) _ _ _ _).other4 (by omega) _ _ _ _
    have hP8:Pq W8 R A c l j2:=by rw [hW8];exact (HP7.out.other4 (by omega) _ _ _ _).other4 (by omega) _ _ _ _
    have hB8:BoxL W8 w.heap.size [.int .i64 0,.string ⟨#[]⟩,.slice none 0 0]:=by rw [hW8];exact (HB7.out.other4 hZl _ _ _ _).other4 hZr _ _ _ _
    have hz8:W8.heap.size=w6.heap.size+1:=by rw [hW8];simp [World.setCell]
    have hrow:=row2_lst W8 y u (hS8.at_ y (by simp)) (hS8.at_ u (by simp))
    rw [hz8] at hrow
    have hb8:=((Below.refl W8.heap.size W8).alloc (Nat.le_refl _) (.cells #[.int .i64 y.kind,.int .i64 y.num,.string y.name,.slice y.at_ y.args.length y.cap,.int .i64 u.kind,.int .i64 u.num,.string u.name,.slice u.at_ u.args.length u.cap] 69))
    have HS8:=Lib.hid (sit_goal (op:=o) (s:=⟨#[]⟩) hS8 hb8 hrow (by rw [hz8];omega) (by simp [hz8]) (by rw [hz8];omega) HFt.out (Nat.zero_le _) (fun j=>by rw [←hz8];exact World.frozen?_alloc_at _ _ _ _ rfl))
    have HK8:=Lib.hid (hK8.trans (Below.kp hb8 R Z0))
    have HP8:=Lib.hid (hP8.below hb8)
    have HBz:=Lib.hid (hB8.below hb8)
    rw [hW8] at HS8 HK8 HP8 HBz
    clear hrow hb8 hS8 hK8 hP8 hB8 hz8 hW8 hsw hn1 hn2 c0 c1 c2 f0 f1 f2
    obtain ⟨c0,c1,c2,f0,f1,f2⟩:=HBz.out.get3
    go_wp2_with fail
    refine bodyPost_ret (v:=.tuple #[.agg #[.int .i64 o,.string ⟨#[]⟩,.slice (some ⟨w6.heap.size+1,0,none⟩) 2 2],.int .i64 er2]) (by simp [results,Tryz.results180,go_sem,c0,c1,c2]) rfl ?_
    obtain ⟨e1,e2,e3⟩:=end3 hR HK8.out HP8.out HS8.out (Nat.lt_succ_self _) (.int .i64 o) (.string ⟨#[]⟩) (.slice (some ⟨w6.heap.size+1,0,none⟩) 2 2)
    refine ⟨⟨o,⟨#[]⟩,some ⟨w6.heap.size+1,0,none⟩,2,[y,u]⟩,j2,er2,rfl,e1,e2,e3,?_⟩
    rw [HPl.out]
    rcases HO6.out with ⟨rfl,hf,hij,hv⟩|⟨her,hf⟩
    ·rw [HNs.out] at hf
     exact .inl ⟨rfl,by rw [hf];rfl,by have:=HJ.out;omega,(HV.out.append hv (by omega) (by have:=HJ.out;omega) (by omega)).swap⟩
    ·rw [HNs.out] at hf
     exact .inr ⟨her,by rw [hf]⟩
 ·have hne:(er != 0)=true:=bne_iff_ne.2 her
  have HF:=Lib.hid hf
  have HE:=Lib.hid her
  obtain ⟨c0,c1,c2,f0,f1,f2⟩:=HB4.out.get3
  clear her hf
  go_wp2_with fail
  refine bodyPost_ret (v:=.tuple #[.agg #[.int .i64 0,.string ⟨#[]⟩,.slice none 0 0],.int .i64 er]) (by simp [results,Tryz.results180,go_sem,c0,c1,c2]) rfl ?_
  obtain ⟨e1,e2,e3⟩:=end3 hR HK4.out HP4.out (sit_goal0 (w.heap.size+1) _ (op:=0) (by unfold Fits;omega)) (Nat.lt_succ_self _) (.int .i64 0) (.string ⟨#[]⟩) (.slice none 0 0)
  refine ⟨⟨0,⟨#[]⟩,none,0,[]⟩,j,er,rfl,e1,e2,e3,.inr ⟨HE.out,?_⟩⟩
  simp only [compS,HF.out]
end
end Go.Proofs.YtnghanpmmbcbbaaGreatDoor
namespace Go.Proofs.YtnghanpmmbcbbaaGreatDoor
open Go.RowKit
theorem goal_op (ex:Rd1 Tm) (t:List UInt8) (g:Bool) (r:List Tok) (ns:List (List UInt8)) :
  (t=[116,114,117,101]→goalS ex ((1,t,g) :: r) ns=.ok (1,[],[]) r ns)∧(t=[102,97,105,108]→goalS ex ((1,t,g) :: r) ns=.ok (2,[],[]) r ns) ∧
  (t=[105,110,116]→goalS ex ((1,t,g) :: r) ns=checkS ex 11 r ns)∧(t=[103,114,111,117,110,100]→goalS ex ((1,t,g) :: r) ns=checkS ex 12 r ns):=by
 refine ⟨?_,?_,?_,?_⟩<;>rintro rfl
 ·rfl
 ·rfl
 ·show (if isS [40] r then _ else _)=_
  rfl
 ·show (if isS [40] r then _ else _)=_
  rfl
theorem goal_comp {ex:Rd1 Tm} (hres:∀t g r ns,resB t=true→ex ((1,t,g) :: r) ns=.err ((1,t,g) :: r).length 7) {k:Int} {t:List UInt8} (g:Bool) (r:List Tok) (ns:List (List UInt8))
  (h1:t≠[116,114,117,101]) (h2:t≠[102,97,105,108]) (h3:t≠[105,110,116]) (h4:t≠[103,114,111,117,110,100]):goalS ex ((k,t,g) :: r) ns=compS ex ((k,t,g) :: r) ns:=by
 by_cases hk:k=1∧resB t=true
 ·obtain ⟨rfl,hr⟩:=hk
  rw [compS,hres t g r ns hr]
  simp only [goalS,hr,and_self,if_true,if_neg h1,if_neg h2,h3,h4,or_self,if_false]
 ·simp only [goalS,if_neg hk,compS,List.headD_cons]
  cases ex ((k,t,g) :: r) ns with
  | err n e=>rfl
  | ok x r2 ns2 =>
   simp only
   split
   ·rfl
   ·cases ex r2.tail ns2<;>rfl
section
variable {R:Nat} {A:Option Addr} {c:Nat} {l:List Tk}
set_option maxHeartbeats 8000000 in
set_option maxRecDepth 100000 in
theorem any_goal_at (hg:GoodT l) {a n:Nat} {ex:Rd1 Tm} (hE:ExprQ R A c l a n ex) (hNm:NamesP ex) (hres:∀t g r ns,resB t=true→ex ((1,t,g) :: r) ns=.err ((1,t,g) :: r).length 7) (i:Nat) (w:World) (h:Pq w R A c l i) (ha:a≤i) (hn:(leftT l i).length≤n) :
  Calls Tryz.prog 147 #[.pointer (some ⟨R,0,none⟩)] w (ElR rdGl (goalS ex) R A c l a i w):=by
 have HG:=Lib.hid hg
 have hR:=h.lt
 have hTR:w.heap.size≠R:=by omega
 have HI:=Lib.hid h.ilt
 have HA:=Lib.hid ha
 have HP0:=Lib.hid (h.alloc (.cells #[.int .i64 0,.string ⟨#[]⟩,.slice none 0 0] 59))
 have HK0:=Lib.hid (show Kq R w (w.alloc (.cells #[.int .i64 0,.string ⟨#[]⟩,.slice none 0 0] 59)) from (Kp.refl R Z0 w).alloc _)
 have HB0:=Lib.hid (BoxL.new w [.int .i64 0,.string ⟨#[]⟩,.slice none 0 0] 59)
 have HC:=Lib.hid (left_cons h.ilt)
 have HKd:=Lib.hid (hg.kinds i h.ilt)
 have HNx:=Lib.hid (fun (hx:(l.getD i default).2.2≠[])=>good_next hg h.ilt hx)
 have QK:=Lib.hid (fun (op:Int) (hop:Fits op) W (hW:Pq W R A c l (i+1))=>check_at hg hE op hop (i+1) W hW (by omega) (by rw [left_length] at hn ⊢;have:=h.ilt;omega))
 have QM:=Lib.hid (fun W (hW:Pq W R A c l i)=>comparison_at hg hE hNm i W hW ha hn)
 have QX:=Lib.hid (fun (s:List UInt8) (hs:s≠[]) (b:Bool) (hb:((l.getD i default).2.2==s)=b) W (hW:Pq W R A c l i)=>accept_at hg hW s hs hb)
 have HRes:=Lib.hid hres
 clear h hg hE hNm hn ha hres
 obtain ⟨x,hx⟩:∃x,(l.getD i default).2.2=x:=⟨_,rfl⟩
 have HX:=Lib.hid hx
 clear hx
 by_cases h0:x=[116,114,117,101]
 ·have H0:=Lib.hid h0
  clear h0
  have QA0:=Lib.hid (QX.out [116,114,117,101] (by decide) true (by rw [HX.out];rw [H0.out];rfl))
  have hk1:=HKd.out
  rw [HX.out,H0.out] at hk1
  have HK1k:=Lib.hid (show (l.getD i default).1=1 from hk1)
  clear hk1
  go_enter Tryz.func147,Tryz.ntmps147
  go_wp2_with (first
   | (go_at_call 100;(with_reducible refine (QA0.out _ HP0.out).mono ?_);rintro en w1 ⟨rfl,hk3,hp3⟩;have HP1:=Lib.hid (show Pq w1 R A c l (i+1) from hp3);have HB1:=Lib.hid (HB0.out.kq hk3 hTR);have HK1:=Lib.hid (HK0.out.trans hk3);obtain ⟨c0,c1,c2,f0,f1,f2⟩:=(HB0.out.kq hk3 hTR).get3;clear hk3 hp3))
  refine bodyPost_ret (v:=.tuple #[.agg #[.int .i64 1,.string ⟨#[]⟩,.slice none 0 0],.int .i64 0]) (by simp [results,Tryz.results147,go_sem,c0,c1,c2]) rfl ?_
  obtain ⟨e1,e2,e3⟩:=end3 hR HK1.out HP1.out (sit_goal0 (w.heap.size+1) w1 (op:=1) (by unfold Fits;omega)) (Nat.lt_succ_self _) (.int .i64 1) (.string ⟨#[]⟩) (.slice none 0 0)
  refine ⟨⟨1,⟨#[]⟩,none,0,[]⟩,i+1,0,rfl,e1,e2,e3,.inl ⟨rfl,?_,by omega,OkV.nil _ _ _⟩⟩
  rw [nsL_no (k:=1) HK1k.out (by decide),HC.out,HK1k.out,HX.out,(goal_op ex x _ _ _).1 H0.out]
  rfl
 by_cases h1:x=[102,97,105,108]
 ·have H1:=Lib.hid h1
  clear h1
  have G0:=Lib.hid h0
  clear h0
  have QA0:=Lib.hid (QX.out [116,114,117,101] (by decide) false (by rw [HX.out];exact beq_eq_false_iff_ne.2 G0.out))
  have QA1:=Lib.hid (QX.out [102,97,105,108] (by decide) true (by rw [HX.out];rw [H1.out];rfl))
  have hk1:=HKd.out
  rw [HX.out,H1.out] at hk1
  have HK1k:=Lib.hid (show (l.getD i default).1=1 from hk1)
  clear hk1
  go_enter Tryz.func147,Tryz.ntmps147
  go_wp2_with (first
   | (go_at_call 100;(with_reducible refine (QA0.out _ HP0.out).mono ?_);rintro en w1 ⟨rfl,hk3,hp3⟩;have HP1:=Lib.hid (show Pq w1 R A c l i from hp3);have HB1:=Lib.hid (HB0.out.kq hk3 hTR);have HK1:=Lib.hid (HK0.out.trans hk3);clear hk3 hp3)
   | (go_at_call 100;(with_reducible refine (QA1.out _ HP1.out).mono ?_);rintro en w2 ⟨rfl,hk3,hp3⟩;have HP2:=Lib.hid (show Pq w2 R A c l (i+1) from hp3);have HB2:=Lib.hid (HB1.out.kq hk3 hTR);have HK2:=Lib.hid (HK1.out.trans hk3);obtain ⟨c0,c1,c2,f0,f1,f2⟩:=(HB1.out.kq hk3 hTR).get3;clear hk3 hp3))
  refine bodyPost_ret (v:=.tuple #[.agg #[.int .i64 2,.string ⟨#[]⟩,.slice none 0 0],.int .i64 0]) (by simp [results,Tryz.results147,go_sem,c0,c1,c2]) rfl ?_
  obtain ⟨e1,e2,e3⟩:=end3 hR HK2.out HP2.out (sit_goal0 (w.heap.size+1) w2 (op:=2) (by unfold Fits;omega)) (Nat.lt_succ_self _) (.int .i64 2) (.string ⟨#[]⟩) (.slice none 0 0)
  refine ⟨⟨2,⟨#[]⟩,none,0,[]⟩,i+1,0,rfl,e1,e2,e3,.inl ⟨rfl,?_,by omega,OkV.nil _ _ _⟩⟩
  rw [nsL_no (k:=1) HK1k.out (by decide),HC.out,HK1k.out,HX.out,(goal_op ex x _ _ _).2.1 H1.out]
  rfl
 by_cases h2:x=[105,110,116]
 ·have H2:=Lib.hid h2
  clear h2
  have G0:=Lib.hid h0
  have G1:=Lib.hid h1
  clear h0 h1
  have QA0:=Lib.hid (QX.out [116,114,117,101] (by decide) false (by rw [HX.out];exact beq_eq_false_iff_ne.2 G0.out))
  have QA1:=Lib.hid (QX.out [102,97,105,108] (by decide) false (by rw [HX.out];exact beq_eq_false_iff_ne.2 G1.out))
  have QA2:=Lib.hid (QX.out [105,110,116] (by decide) true (by rw [HX.out];rw [H2.out];rfl))
  have hk1:=HKd.out
  rw [HX.out,H2.out] at hk1
  have HK1k:=Lib.hid (show (l.getD i default).1=1 from hk1)
  clear hk1
  go_enter Tryz.func147,Tryz.ntmps147
  go_wp2_with (first
   | (go_at_call 100;(with_reducible refine (QA0.out _ HP0.out).mono ?_);rintro en w1 ⟨rfl,hk3,hp3⟩;have HP1:=Lib.hid (show Pq w1 R A c l i from hp3);have HB1:=Lib.hid (HB0.out.kq hk3 hTR);have HK1:=Lib.hid (HK0.out.trans hk3);clear hk3 hp3)
   | (go_at_call 100;(with_reducible refine (QA1.out _ HP1.out).mono ?_);rintro en w2 ⟨rfl,hk3,hp3⟩;have HP2:=Lib.hid (show Pq w2 R A c l i from hp3);have HB2:=Lib.hid (HB1.out.kq hk3 hTR);have HK2:=Lib.hid (HK1.out.trans hk3);clear hk3 hp3)
   | (go_at_call 100;(with_reducible refine (QA2.out _ HP2.out).mono ?_);rintro en w3 ⟨rfl,hk3,hp3⟩;have HP3:=Lib.hid (show Pq w3 R A c l (i+1) from hp3);have HB3:=Lib.hid (HB2.out.kq hk3 hTR);have HK3:=Lib.hid (HK2.out.trans hk3);clear hk3 hp3))
  refine (QK.out 11 (by unfold Fits;omega) _ HP3.out).mono ?_
  rintro e w9 ⟨u,j,er,he,hk9,hp9,hs9,ho9⟩
  have he2:e=.returned (.tuple #[.agg #[.int .i64 u.op,.string u.name,.slice u.at_ u.args.length u.cap],.int .i64 er]):=he
  clear he
  subst he2
  obtain ⟨c0,c1,c2,f0,f1,f2⟩:=(HB3.out.kq hk9 hTR).get3
  have HK9:=Lib.hid (HK3.out.trans hk9)
  have HP9:=Lib.hid hp9
  have HS9:=Lib.hid (show SitG elGl (w.heap.size+1) w9 [u] from hs9.low (by have:=HB3.out.lt;omega))
  have HO9:=Lib.hid ho9
  clear hk9 hp9 hs9 ho9
  go_wp2_with fail
  refine bodyPost_ret (v:=.tuple #[.agg #[.int .i64 u.op,.string u.name,.slice u.at_ u.args.length u.cap],.int .i64 er]) (by simp [results,Tryz.results147,go_sem,c0,c1,c2]) rfl ?_
  obtain ⟨e1,e2,e3⟩:=end3 hR HK9.out HP9.out HS9.out (Nat.lt_succ_self _) (.int .i64 u.op) (.string u.name) (.slice u.at_ u.args.length u.cap)
  refine ⟨u,j,er,rfl,e1,e2,e3,?_⟩
  rw [HC.out,HK1k.out,HX.out,(goal_op ex x _ _ _).2.2.1 H2.out,← nsL_no (l:=l) (a:=a) (k:=1) HK1k.out (by decide)]
  rcases HO9.out with ⟨rfl,hf,hij,hv⟩|⟨her,hf⟩
  ·exact .inl ⟨rfl,hf,by omega,hv.wide (by omega) (Nat.le_refl _)⟩
  ·exact .inr ⟨her,hf⟩
 by_cases h3:x=[103,114,111,117,110,100]
 ·have H3:=Lib.hid h3
  clear h3
  have G0:=Lib.hid h0
  have G1:=Lib.hid h1
  have G2:=Lib.hid h2
  clear h0 h1 h2
  have QA0:=Lib.hid (QX.out [116,114,117,101] (by decide) false (by rw [HX.out];exact beq_eq_false_iff_ne.2 G0.out))
  have QA1:=Lib.hid (QX.out [102,97,105,108] (by decide) false (by rw [HX.out];exact beq_eq_false_iff_ne.2 G1.out))
  have QA2:=Lib.hid (QX.out [105,110,116] (by decide) false (by rw [HX.out];exact beq_eq_false_iff_ne.2 G2.out))
  have QA3:=Lib.hid (QX.out [103,114,111,117,110,100] (by decide) true (by rw [HX.out];rw [H3.out];rfl))
  have hk1:=HKd.out
  rw [HX.out,H3.out] at hk1
  have HK1k:=Lib.hid (show (l.getD i default).1=1 from hk1)
  clear hk1
  go_enter Tryz.func147,Tryz.ntmps147
  go_wp2_with (first
   | (go_at_call 100;(with_reducible refine (QA0.out _ HP0.out).mono ?_);rintro en w1 ⟨rfl,hk3,hp3⟩;have HP1:=Lib.hid (show Pq w1 R A c l i from hp3);have HB1:=Lib.hid (HB0.out.kq hk3 hTR);have HK1:=Lib.hid (HK0.out.trans hk3);clear hk3 hp3)
   | (go_at_call 100;(with_reducible refine (QA1.out _ HP1.out).mono ?_);rintro en w2 ⟨rfl,hk3,hp3⟩;have HP2:=Lib.hid (show Pq w2 R A c l i from hp3);have HB2:=Lib.hid (HB1.out.kq hk3 hTR);have HK2:=Lib.hid (HK1.out.trans hk3);clear hk3 hp3)
   | (go_at_call 100;(with_reducible refine (QA2.out _ HP2.out).mono ?_);rintro en w3 ⟨rfl,hk3,hp3⟩;have HP3:=Lib.hid (show Pq w3 R A c l i from hp3);have HB3:=Lib.hid (HB2.out.kq hk3 hTR);have HK3:=Lib.hid (HK2.out.trans hk3);clear hk3 hp3)
   | (go_at_call 100;(with_reducible refine (QA3.out _ HP3.out).mono ?_);rintro en w4 ⟨rfl,hk3,hp3⟩;have HP4:=Lib.hid (show Pq w4 R A c l (i+1) from hp3);have HB4:=Lib.hid (HB3.out.kq hk3 hTR);have HK4:=Lib.hid (HK3.out.trans hk3);clear hk3 hp3))
  refine (QK.out 12 (by unfold Fits;omega) _ HP4.out).mono ?_
  rintro e w9 ⟨u,j,er,he,hk9,hp9,hs9,ho9⟩
  have he2:e=.returned (.tuple #[.agg #[.int .i64 u.op,.string u.name,.slice u.at_ u.args.length u.cap],.int .i64 er]):=he
  clear he
  subst he2
  obtain ⟨c0,c1,c2,f0,f1,f2⟩:=(HB4.out.kq hk9 hTR).get3
  have HK9:=Lib.hid (HK4.out.trans hk9)
  have HP9:=Lib.hid hp9
  have HS9:=Lib.hid (show SitG elGl (w.heap.size+1) w9 [u] from hs9.low (by have:=HB4.out.lt;omega))
  have HO9:=Lib.hid ho9
  clear hk9 hp9 hs9 ho9
  go_wp2_with fail
  refine bodyPost_ret (v:=.tuple #[.agg #[.int .i64 u.op,.string u.name,.slice u.at_ u.args.length u.cap],.int .i64 er]) (by simp [results,Tryz.results147,go_sem,c0,c1,c2]) rfl ?_
  obtain ⟨e1,e2,e3⟩:=end3 hR HK9.out HP9.out HS9.out (Nat.lt_succ_self _) (.int .i64 u.op) (.string u.name) (.slice u.at_ u.args.length u.cap)
  refine ⟨u,j,er,rfl,e1,e2,e3,?_⟩
  rw [HC.out,HK1k.out,HX.out,(goal_op ex x _ _ _).2.2.2 H3.out,← nsL_no (l:=l) (a:=a) (k:=1) HK1k.out (by decide)]
  rcases HO9.out with ⟨rfl,hf,hij,hv⟩|⟨her,hf⟩
  ·exact .inl ⟨rfl,hf,by omega,hv.wide (by omega) (Nat.le_refl _)⟩
  ·exact .inr ⟨her,hf⟩
 have G0:=Lib.hid h0
 have G1:=Lib.hid h1
 have G2:=Lib.hid h2
 have G3:=Lib.hid h3
 clear h0 h1 h2 h3
 have QA0:=Lib.hid (QX.out [116,114,117,101] (by decide) false (by rw [HX.out];exact beq_eq_false_iff_ne.2 G0.out))
 have QA1:=Lib.hid (QX.out [102,97,105,108] (by decide) false (by rw [HX.out];exact beq_eq_false_iff_ne.2 G1.out))
 have QA2:=Lib.hid (QX.out [105,110,116] (by decide) false (by rw [HX.out];exact beq_eq_false_iff_ne.2 G2.out))
 have QA3:=Lib.hid (QX.out [103,114,111,117,110,100] (by decide) false (by rw [HX.out];exact beq_eq_false_iff_ne.2 G3.out))
 go_enter Tryz.func147,Tryz.ntmps147
 go_wp2_with (first
  | (go_at_call 100;(with_reducible refine (QA0.out _ HP0.out).mono ?_);rintro en w1 ⟨rfl,hk3,hp3⟩;have HP1:=Lib.hid (show Pq w1 R A c l i from hp3);have HB1:=Lib.hid (HB0.out.kq hk3 hTR);have HK1:=Lib.hid (HK0.out.trans hk3);clear hk3 hp3)
  | (go_at_call 100;(with_reducible refine (QA1.out _ HP1.out).mono ?_);rintro en w2 ⟨rfl,hk3,hp3⟩;have HP2:=Lib.hid (show Pq w2 R A c l i from hp3);have HB2:=Lib.hid (HB1.out.kq hk3 hTR);have HK2:=Lib.hid (HK1.out.trans hk3);clear hk3 hp3)
  | (go_at_call 100;(with_reducible refine (QA2.out _ HP2.out).mono ?_);rintro en w3 ⟨rfl,hk3,hp3⟩;have HP3:=Lib.hid (show Pq w3 R A c l i from hp3);have HB3:=Lib.hid (HB2.out.kq hk3 hTR);have HK3:=Lib.hid (HK2.out.trans hk3);clear hk3 hp3)
  | (go_at_call 100;(with_reducible refine (QA3.out _ HP3.out).mono ?_);rintro en w4 ⟨rfl,hk3,hp3⟩;have HP4:=Lib.hid (show Pq w4 R A c l i from hp3);have HB4:=Lib.hid (HB3.out.kq hk3 hTR);have HK4:=Lib.hid (HK3.out.trans hk3);clear hk3 hp3))
 refine (QM.out _ HP4.out).mono ?_
 rintro e w9 ⟨u,j,er,he,hk9,hp9,hs9,ho9⟩
 have he2:e=.returned (.tuple #[.agg #[.int .i64 u.op,.string u.name,.slice u.at_ u.args.length u.cap],.int .i64 er]):=he
 clear he
 subst he2
 obtain ⟨c0,c1,c2,f0,f1,f2⟩:=(HB4.out.kq hk9 hTR).get3
 have HK9:=Lib.hid (HK4.out.trans hk9)
 have HP9:=Lib.hid hp9
 have HS9:=Lib.hid (show SitG elGl (w.heap.size+1) w9 [u] from hs9.low (by have:=HB4.out.lt;omega))
 have HO9:=Lib.hid ho9
 clear hk9 hp9 hs9 ho9
 go_wp2_with fail
 refine bodyPost_ret (v:=.tuple #[.agg #[.int .i64 u.op,.string u.name,.slice u.at_ u.args.length u.cap],.int .i64 er]) (by simp [results,Tryz.results147,go_sem,c0,c1,c2]) rfl ?_
 obtain ⟨e1,e2,e3⟩:=end3 hR HK9.out HP9.out HS9.out (Nat.lt_succ_self _) (.int .i64 u.op) (.string u.name) (.slice u.at_ u.args.length u.cap)
 refine ⟨u,j,er,rfl,e1,e2,e3,?_⟩
 rw [HC.out,goal_comp HRes.out _ _ _ (by rw [HX.out];exact G0.out) (by rw [HX.out];exact G1.out) (by rw [HX.out];exact G2.out) (by rw [HX.out];exact G3.out),← HC.out]
 exact HO9.out
end
end Go.Proofs.YtnghanpmmbcbbaaGreatDoor
namespace Go.Proofs.YtnghanpmmbcbbaaGreatDoor
open Go.RowKit
theorem nsU_len {K:Nat→Bool} {X:Nat→List UInt8} {a:Nat}:∀i,(nsU K X a i).length≤i
 | 0=>by simp [nsU]
 | i+1=>by
  have ih:=nsU_len (K:=K) (X:=X) (a:=a) i
  rw [nsU]
  split
  ·unfold nameS
   split
   ·simp only;omega
   ·simp only [List.length_append,List.length_cons,List.length_nil];omega
  ·omega
theorem gL_le {l:List Tk} {a:Nat} {v:Int} (h0:0≤v) (ha:(a:Int)≤v) (hk:kV l v.toNat=true):0≤gL l a v∧gL l a v≤v:=by
 have h1:(gL l a v)=((nameS (xV l v.toNat) (nsU (kV l) (xV l) a v.toNat)).1:Int):=rfl
 have h2:=gU_lt (K:=kV l) (X:=xV l) (a:=a) (i:=v.toNat) ⟨by omega,hk⟩
 have h3:=nsU_len (K:=kV l) (X:=xV l) (a:=a) (v.toNat+1)
 rw [h1]
 omega
theorem form_num2 (f:Int→Int):(∀t:Tm,t.neat→(∀v∈t.occ,(0≤v∧v≤1048576)∧0≤f v∧f v≤1048576)→(t.num2 f).form=t.form)∧(∀l,neatL l→(∀v∈occL l,(0≤v∧v≤1048576)∧0≤f v∧f v≤1048576)→formL (numL2 f l)=formL l):=by
 refine Tm.induct2 (fun k n s A c a ih=>?_) (fun _ _=>rfl) (fun t r h1 h2=>?_)
 ·intro h ho
  rcases h with ⟨rfl,_,rfl⟩|⟨rfl,hs,rfl⟩|⟨rfl,hn,h⟩
  ·rfl
  ·have:=ho n (by simp [Tm.occ])
   simp only [Tm.num2,Tm.form,if_true,numL2,show ¬(1:Int)=0 by omega,if_false]
   have e1:decide (0≤f n)=true:=by simpa using this.2.1
   have e2:decide (f n≤1048576)=true:=by simpa using this.2.2
   have e3:decide (0≤n)=true:=by simpa using this.1.1
   have e4:decide (n≤1048576)=true:=by simpa using this.1.2
   rw [e1,e2,e3,e4]
  ·have e:Tm.occ (.mk 2 n s A c a)=occL a:=by simp [Tm.occ]
   rw [e] at ho
   simp only [Tm.num2,Tm.form,show ¬(2:Int)=0 by omega,show ¬(2:Int)=1 by omega,if_false,num2_len,ih h ho]
 ·intro h ho
  simp only [numL2,formL]
  rw [h1 h.1 fun v hv=>ho v (by simp [occL,hv]),h2 h.2 fun v hv=>ho v (by simp [occL,hv])]
theorem okv_range {l:List Tk} (hg:GoodT l) {a i j:Nat} {us:List Tm} (h:OkV l i j us) (ha:a≤i) (hj:j≤l.length):∀v∈occL us,(0≤v∧v≤1048576)∧0≤gL l a v∧gL l a v≤1048576:=fun v hv=>by
 obtain ⟨h1,h2,h3⟩:=h.2.2 v hv
 have:=gL_le (l:=l) (a:=a) (v:=v) (by omega) (by omega) h3
 have:=hg.small
 omega
theorem rightL_eq {l:List Tk} (hg:GoodT l) {a i j:Nat} {us:List Tm} (h:OkV l i j us) (ha:a≤i) (hj:j≤l.length):rightL us=rightT (numL2 (gL l a) us):=by
 unfold rightL rightT
 rw [(form_num2 _).2 us h.1 (okv_range hg h ha hj),(num2_size _).2,(num2_depth _).2]
theorem atomB_eq {l:List Tk} (hg:GoodT l) {a i j:Nat} (s:ByteArray) {us:List Tm} (h:OkV l i j us) (ha:a≤i) (hj:j≤l.length):atomB s.data.toList us=rightA s.data.toList (numL2 (gL l a) us):=by
 unfold atomB rightA
 rw [rightL_eq hg h ha hj,num2_len]
theorem goalB_eq {l:List Tk} (hg:GoodT l) {a i j:Nat} (op:Int) (s:ByteArray) {us:List Tm} (h:OkV l i j us) (ha:a≤i) (hj:j≤l.length):goalB op s us=rightG (op,s.data.toList,numL2 (gL l a) us):=by
 unfold goalB
 by_cases h0:op=0
 ·rw [if_pos h0,h0,rightG_call,atomB_eq hg s h ha hj]
 ·rw [if_neg h0,rightG_op h0]
  unfold builtinB
  rw [rightL_eq hg h ha hj,num2_len]
  congr 1
  rw [Bool.eq_iff_iff,decide_eq_true_iff,decide_eq_true_iff]
  show s.data.size=0↔_
  rw [←Array.length_toList,List.length_eq_zero_iff]
def chkS {β:Type} (rt:β→Bool) (f:Rd1 β):Rd1 β:=fun ts ns =>
 match f ts ns with
 | .ok x r ns2=>if rt x=false then .err ts.length 6 else .ok x r ns2
 | .err l e=>.err l e
end Go.Proofs.YtnghanpmmbcbbaaGreatDoor
namespace Go.Proofs.YtnghanpmmbcbbaaGreatDoor
open Go.RowKit
section
variable {R:Nat} {A:Option Addr} {c:Nat} {l:List Tk}
set_option maxHeartbeats 8000000 in
set_option maxRecDepth 100000 in
theorem checked_Gl_at (hg:GoodT l) {a n:Nat} {f:Rd1 Gs}
  (hF:∀(i:Nat) (w:World),Pq w R A c l i→a≤i→(leftT l i).length≤n→Calls Tryz.prog 147 #[.pointer (some ⟨R,0,none⟩)] w (ElR rdGl f R A c l a i w))
  (i:Nat) (w:World) (h:Pq w R A c l i) (ha:a≤i) (hn:(leftT l i).length≤n) :
  Calls Tryz.prog 146 #[.pointer (some ⟨R,0,none⟩),.func (.func 147) #[.pointer (some ⟨R,0,none⟩)] #[],.func (.func 90) #[] #[]] w (ElR rdGl (chkS rightG f) R A c l a i w):=by
 have HG:=Lib.hid hg
 have hR:=h.lt
 have hTR:w.heap.size≠R:=by omega
 have HI:=Lib.hid h.ilt
 have HA:=Lib.hid ha
 have HP0:=Lib.hid (h.alloc (.cells #[.int .i64 0,.string ⟨#[]⟩,.slice none 0 0] 59))
 have l1:=HP0.out.l1
 have Q:=Lib.hid (hF i _ HP0.out ha hn)
 have HB0:=Lib.hid (BoxL.new w [.int .i64 0,.string ⟨#[]⟩,.slice none 0 0] 59)
 clear hg hF h ha hn
 go_enter Tryz.func146,Tryz.ntmps146
 go_wp2_with fail
 refine Q.out.mono ?_
 rintro e w2 ⟨u,j,er,he,hk,hp,hs,ho⟩
 have he2:e=.returned (.tuple #[.agg #[.int .i64 u.op,.string u.name,.slice u.at_ u.args.length u.cap],.int .i64 er]):=he
 clear he
 subst he2
 have hsz:w.heap.size+1≤w2.heap.size:=by have:=hk.size;simpa using this
 have hb3:=((Below.refl w2.heap.size w2).alloc (Nat.le_refl _) (.cells #[.int .i64 u.op,.string u.name,.slice u.at_ u.args.length u.cap] 59))
 have HB:=Lib.hid ((HB0.out.kq hk hTR).below hb3)
 have HK:=Lib.hid ((Kq.from_new hk).trans (Below.kp hb3 R Z0))
 have HP:=Lib.hid (hp.below hb3)
 have HS:=Lib.hid ((show SitG elGl (w.heap.size+1) w2 [u] from hs.low (by simp)).below hb3)
 have HSt:=Lib.hid (HS.out.at_ u (List.mem_singleton.2 rfl))
 have HU:=Lib.hid (BoxL.new w2 [.int .i64 u.op,.string u.name,.slice u.at_ u.args.length u.cap] 59)
 clear hk hp hs hb3 l1
 obtain ⟨c0,c1,c2,f0,f1,f2⟩:=HB.out.get3
 rcases ho with ⟨rfl,hf,hij,hv⟩|⟨her,hf⟩
 ·have HF:=Lib.hid hf
  have HJ:=Lib.hid hij
  have HV:=Lib.hid (show OkV l i j u.args from hv)
  obtain ⟨b,hb⟩:∃b,goalB u.op u.name u.args=b:=⟨_,rfl⟩
  have QR:=Lib.hid (fun W (hW:Below (w2.alloc (.cells #[.int .i64 u.op,.string u.name,.slice u.at_ u.args.length u.cap] 59)).heap.size (w2.alloc (.cells #[.int .i64 u.op,.string u.name,.slice u.at_ u.args.length u.cap] 59)) W)=>right_goal_at u W (HSt.out.below hW) hb)
  have HBe:=Lib.hid (show rightG (u.op,u.name.data.toList,numL2 (gL l a) u.args)=b by rw [←hb];exact (goalB_eq HG.out u.op u.name HV.out HA.out (Nat.le_of_lt HP.out.ilt)).symm)
  have HPl:=Lib.hid (show chkS rightG f (leftT l i) (nsL l a i)=if b=false then .err (leftT l i).length 6 else .ok (u.op,u.name.data.toList,numL2 (gL l a) u.args) (leftT l j) (nsL l a j) by
   unfold chkS
   rw [HF.out,← HBe.out]
   rfl)
  clear hf hij hv hb
  cases b
  ·have l1:=HP.out.l1
   have lf:=HP.out.fr 1
   go_wp2_with (go_at_call 90;refine (QR.out _ (Below.refl _ _)).mono ?_;rintro en w5 ⟨rfl,hb5⟩;have HB5:=Lib.hid (HB.out.below hb5);have HK5:=Lib.hid (HK.out.trans (Below.kp hb5 R Z0));have HP5:=Lib.hid (HP.out.below hb5);have HS5:=Lib.hid (HS.out.below hb5);have HU5:=Lib.hid (HU.out.below hb5);have hsz5:w2.heap.size+1≤w5.heap.size:=(by have:=hb5.size;simpa using this);clear c0 c1 c2 f0 f1 f2 l1 lf;have l1:=HP5.out.l1;have lf:=HP5.out.fr 1;have HPs:=Lib.hid (HP5.out.set (q:=i) HI.out);obtain ⟨c0,c1,c2,f0,f1,f2⟩:=(HB5.out.put (p:=⟨R,1,none⟩) hTR.symm (.int .i64 (i:Int))).get3;obtain ⟨d0,d1,d2,_⟩:=(HU5.out.put (p:=⟨R,1,none⟩) (show R≠w2.heap.size by omega) (.int .i64 (i:Int))).get3;clear hb5)
   refine bodyPost_ret (v:=.tuple #[.agg #[.int .i64 u.op,.string u.name,.slice u.at_ u.args.length u.cap],.int .i64 6]) (by simp [results,Tryz.results146,go_sem,c0,c1,c2]) rfl ?_
   obtain ⟨e1,e2,e3⟩:=end3 hR (HK5.out.set 1 none (.int .i64 (i:Int))) HPs.out (HS5.out.put (p:=⟨R,1,none⟩) (fun hx=>by have:=(HS5.out.bd _ hx).1;simp only at this;omega) (.int .i64 (i:Int))) (Nat.lt_succ_self _) (.int .i64 u.op) (.string u.name) (.slice u.at_ u.args.length u.cap)
   refine ⟨u,i,6,rfl,e1,e2,e3,.inr ⟨by omega,?_⟩⟩
   rw [HPl.out];first|exact if_pos rfl|exact if_pos trivial
  ·go_wp2_with (go_at_call 90;refine (QR.out _ (Below.refl _ _)).mono ?_;rintro en w5 ⟨rfl,hb5⟩;have HB5:=Lib.hid (HB.out.below hb5);have HK5:=Lib.hid (HK.out.trans (Below.kp hb5 R Z0));have HP5:=Lib.hid (HP.out.below hb5);have HS5:=Lib.hid (HS.out.below hb5);clear c0 c1 c2 f0 f1 f2;obtain ⟨c0,c1,c2,f0,f1,f2⟩:=HB5.out.get3;obtain ⟨d0,d1,d2,_⟩:=(HU.out.below hb5).get3;clear hb5)
   refine bodyPost_ret (v:=.tuple #[.agg #[.int .i64 u.op,.string u.name,.slice u.at_ u.args.length u.cap],.int .i64 0]) (by simp [results,Tryz.results146,go_sem,c0,c1,c2]) rfl ?_
   obtain ⟨e1,e2,e3⟩:=end3 hR HK5.out HP5.out HS5.out (Nat.lt_succ_self _) (.int .i64 u.op) (.string u.name) (.slice u.at_ u.args.length u.cap)
   refine ⟨u,j,0,rfl,e1,e2,e3,.inl ⟨rfl,?_,HJ.out,HV.out⟩⟩
   rw [HPl.out,if_neg (by decide)]
   rfl
 ·have hne:(er==0)=false:=by simpa using her
  have HF:=Lib.hid hf
  have HE:=Lib.hid her
  clear her hf
  go_wp2_with fail
  refine bodyPost_ret (v:=.tuple #[.agg #[.int .i64 u.op,.string u.name,.slice u.at_ u.args.length u.cap],.int .i64 er]) (by simp [results,Tryz.results146,go_sem,c0,c1,c2]) rfl ?_
  obtain ⟨e1,e2,e3⟩:=end3 hR HK.out HP.out HS.out (Nat.lt_succ_self _) (.int .i64 u.op) (.string u.name) (.slice u.at_ u.args.length u.cap)
  refine ⟨u,j,er,rfl,e1,e2,e3,.inr ⟨HE.out,?_⟩⟩
  simp only [chkS,HF.out]
set_option maxHeartbeats 4000000 in
set_option maxRecDepth 10000 in
theorem one_Gl_at (hg:GoodT l) {a n:Nat} {f:Rd1 Gs}
  (hF:∀(i:Nat) (w:World),Pq w R A c l i→a≤i→(leftT l i).length≤n→Calls Tryz.prog 147 #[.pointer (some ⟨R,0,none⟩)] w (ElR rdGl f R A c l a i w))
  (i:Nat) (w:World) (h:Pq w R A c l i) (ha:a≤i) (hn:(leftT l i).length≤n) :
  Calls Tryz.prog 106 #[.pointer (some ⟨R,0,none⟩)] w (ElR rdGl (chkS rightG f) R A c l a i w):=by
 have hR:=h.lt
 have hTR:w.heap.size≠R:=by omega
 have Q:=Lib.hid (checked_Gl_at hg hF i _ (h.alloc (.cells #[.int .i64 0,.string ⟨#[]⟩,.slice none 0 0] 59)) ha hn)
 clear hF hg h ha hn
 go_enter Tryz.func106,Tryz.ntmps106
 go_wp2_with fail
 refine Q.out.mono ?_
 rintro e w2 ⟨u,j,er,he,hk,hp,hs,ho⟩
 have he2:e=.returned (.tuple #[.agg #[.int .i64 u.op,.string u.name,.slice u.at_ u.args.length u.cap],.int .i64 er]):=he
 clear he
 subst he2
 obtain ⟨c0,c1,c2,f0,f1,f2⟩:=((BoxL.new w [.int .i64 0,.string ⟨#[]⟩,.slice none 0 0] 59).kq hk hTR).get3
 have HK:=Lib.hid (Kq.from_new hk)
 have HP:=Lib.hid hp
 have HS:=Lib.hid (show SitG elGl (w.heap.size+1) w2 [u] from hs.low (by simp))
 have HO:=Lib.hid ho
 clear hk hp hs ho
 go_wp2_with fail
 refine bodyPost_ret (v:=.tuple #[.agg #[.int .i64 u.op,.string u.name,.slice u.at_ u.args.length u.cap],.int .i64 er]) (by simp [results,Tryz.results106,go_sem,c0,c1,c2]) rfl ?_
 obtain ⟨e1,e2,e3⟩:=end3 hR HK.out HP.out HS.out (Nat.lt_succ_self _) (.int .i64 u.op) (.string u.name) (.slice u.at_ u.args.length u.cap)
 exact ⟨u,j,er,rfl,e1,e2,e3,HO.out⟩
end
end Go.Proofs.YtnghanpmmbcbbaaGreatDoor
