/-
  RzParts.
-/
import Derived.Test.YtaojnljppcnhjaaGreatDoorMf25
import Derived.Deep.CutRange
import Derived.Deep.CutBlock
namespace Go.Proofs.YtaojnljppcnhjaaGreatDoor
open Go.RowKit
section
variable {R:Nat} {A:Option Addr} {c:Nat} {l:List Tk}
set_option maxHeartbeats 8000000 in
set_option maxRecDepth 100000 in
theorem parts_z (hg:GoodT l) {n:Nat} {ex:Rd1 Tm} (hE:ExprZ R A c l n ex) (hSz:Sized ex) (i:Nat) (z:Value) (ns:List (List UInt8)) (at_:Nat) (w:World) (h:Pr w R A c l i z ns at_ 0) (hn:(leftT l i).length≤n) (hns:ns.length+(leftT l i).length≤100000) :
  Calls Tryz.prog 52 #[.pointer (some ⟨R,0,none⟩)] w (PartsZ (partsS ex) R A c l i z ns w):=by
 have HG:=Lib.hid hg
 have hR:=h.lt
 have HI:=Lib.hid h.ilt
 obtain ⟨t,ht⟩:∃t,l.getD i default=t:=⟨_,rfl⟩
 obtain ⟨k,p,x⟩:=t
 have HX:=Lib.hid (show x.length≤16384 by have:=hg.texts i h.ilt;rw [ht] at this;exact this)
 have HKd:=Lib.hid (show k=kindO x by have:=hg.kinds i h.ilt;rw [ht] at this;exact this)
 have HC:=Lib.hid (show leftT l i=(k,x,markT l i) :: leftT l (i+1) by rw [left_cons h.ilt,ht])
 have HT:=Lib.hid ht
 have e1:(w.alloc (.cells #[.string ⟨#[]⟩,.slice none 0 0,.slice none 0 0,.slice none 0 0,.slice none 0 0,.int .i64 0] 35)).heap.size=w.heap.size+1:=by simp
 have HP1:=Lib.hid (show PbZ R A c l z w ((w.alloc (.cells #[.string ⟨#[]⟩,.slice none 0 0,.slice none 0 0,.slice none 0 0,.slice none 0 0,.int .i64 0] 35)).alloc (.cells #[.string ⟨#[]⟩,.slice none 0 0,.slice none 0 0,.slice none 0 0,.slice none 0 0,.int .i64 0] 35)) i z ns at_ 0 (.string (S [])) (.slice none 0 0) (.slice none 0 0) (.slice none 0 0) (.slice none 0 0) from
  ⟨((Kp.refl R z w).alloc _).alloc _,(h.alloc _).alloc _,(BoxL.new w Zr 35).alloc _,e1 ▸ BoxL.new (w.alloc (.cells #[.string ⟨#[]⟩,.slice none 0 0,.slice none 0 0,.slice none 0 0,.slice none 0 0,.int .i64 0] 35)) Zr 35,h.znew,fun e=>by have:=(h.zlt _ e).2;omega⟩)
 have HNN:=Lib.hid (And.intro hn hns)
 have QE:=Lib.hid hE
 have HSz:=Lib.hid hSz
 have QT:=Lib.hid (r_tok_of HP1.out.p ht)
 clear h ht hg hE hn hns hSz e1
 go_enter Tryz.func52,Tryz.ntmps52
 go_upto_region 3 with (go_at_call 27;(with_reducible refine QT.out.mono ?_);rintro en w2 ⟨rfl,hb2⟩;have HP2:=Lib.hid (HP1.out.below (hb2.alloc hb2.size (.cells #[.int .i64 k,.int .i64 (p:Int),.string (S x)] 67)));clear hb2)
 obtain ⟨lb,hlb⟩:∃lb,lb=(k==1&&isS [64] (leftT l (i+1))):=⟨_,rfl⟩
 have HLb:=Lib.hid hlb
 clear hlb
 go_cut [45] from 13 to 45 (fun b W=>b=.bool lb∧Hid (PbZ R A c l z w W i z ns at_ 0 (.string (S [])) (.slice none 0 0) (.slice none 0 0) (.slice none 0 0) (.slice none 0 0)))
 case first =>
  by_cases hk:k=1
  ·subst hk
   have hxne:x≠[]:=fun e=>by
    have h2:(1:Int)=kindO []:=by rw [←e];exact HKd.out
    exact absurd h2 (by decide)
   have hi1:i+1 < l.length:=good_next HG.out HI.out (by rw [HT.out];exact hxne)
   obtain ⟨t',ht'⟩:∃t,l.getD (i+1) default=t:=⟨_,rfl⟩
   obtain ⟨k',p',x'⟩:=t'
   obtain ⟨g,hA,c0,-,c2⟩:=HP2.out.p.toks.get hi1
   have hsm:=HG.out.small
   have hlen:=HP2.out.p.toks.1
   have hcap:=HP2.out.p.toks.2.1
   have l0:=HP2.out.p.l0
   have l1:=HP2.out.p.l1
   rw [ht'] at c0 c2
   simp only at c0 c2
   subst hA
   have hil:(i:Int)+1 < (l.length:Int):=by omega
   have hi0:(0:Int)≤(i:Int)+1:=by omega
   have HW:=Lib.hid (show IntKind.i64.wrap ((i:Int)+1)=(i:Int)+1 from IntWalk.i64_in _ (by omega))
   have HL2:=Lib.hid (show lb=(k'==4&&x'==[64]) by rw [HLb.out,left_isS hi1,ht'];rfl)
   have hgR:=HP2.out.p.low g rfl
   clear hxne ht' hsm
   generalize l.length=nl at hil hlen l0
   obtain ⟨b2,hb2⟩:∃b,(k'==4)=b:=⟨_,rfl⟩
   obtain ⟨b3,hb3⟩:∃b,(x'==[64])=b:=⟨_,rfl⟩
   have HL3:=Lib.hid (show lb=(b2&&b3) by rw [HL2.out,hb2,hb3])
   cases b2
   ·have hw:=HW.out
    go_quiet (fail)
    go_wp2_with fail
    go_meet
    exact ⟨by rw [HL3.out];rfl,Lib.hid (HP2.out.drewN _)⟩
   ·have hw:=HW.out
    go_quiet (fail)
    go_wp2_with fail
    go_meet
    exact ⟨by rw [HL3.out];rfl,Lib.hid (HP2.out.drewN _)⟩
  ·have hk1:(k==1)=false:=by simpa using hk
   have HL2:=Lib.hid (show lb=false by rw [HLb.out,hk1];rfl)
   clear hk
   go_quiet (fail)
   go_wp2_with fail
   go_meet
   exact ⟨by rw [HL2.out],Lib.hid (HP2.out.drewN _)⟩
 case rest =>
  obtain ⟨rfl,HPc⟩:=hcut
  clear HP1 HP2 QT
  go_upto_if 45 with (fail)
  go_cut [] from 46 to 57 (fun W=>Hid (LabZ R A c l i z ns w W))
  case first =>
   cases lb
   ·have HLa:=Lib.hid (show labelS (leftT l i) ns=.ok [] (leftT l i) ns by
     rw [HC.out]
     simp only [labelS]
     rw [if_neg (fun e=>by have:=HLb.out;rw [show (k==1)=true by simpa using e.1,e.2] at this;exact absurd this (by decide))])
    go_wp2_with fail
    go_meet
    exact Lib.hid ⟨[],i,at_,HPc.out,HLa.out,Nat.le_refl _,by simp⟩
   ·have hlb:k=1∧isS [64] (leftT l (i+1))=true:=by have:=HLb.out;simp only [Bool.true_eq,Bool.and_eq_true,beq_iff_eq] at this;exact this
    have HLp:=Lib.hid hlb
    have QNm:=Lib.hid (z_name_at HG.out HPc.out.p)
    clear hlb
    go_wp2_with fail
    refine QNm.out.mono ?_
    rintro en w3 ⟨t,b,rfl,htl,hk3,ho⟩
    rcases ho with ⟨rfl,hk1,hf,a3,hp3⟩|⟨rfl,e,he,hf,hp3⟩
    ·have HP3:=Lib.hid (HPc.out.call hR hk3 hp3)
     have HP4:=Lib.hid (HP3.out.set hR (k:=0) (by omega) (.string (S t)) rfl)
     obtain ⟨d0,d1,d2,d3,d4,d5,g0,g1,g2,g3,g4,g5⟩:=HP3.out.box.get6
     have HF:=Lib.hid (hf ns)
     have HTl:=Lib.hid htl
     have QN:=Lib.hid (z_next_at HG.out HP4.out.p (fun e=>by
      have h1:=HLp.out.2
      rw [isS_left HG.out HP3.out.p.ilt (by decide),e] at h1
      exact absurd h1 (by decide)))
     clear hk3 hp3 hf htl hk1
     go_wp2_with fail
     refine QN.out.mono ?_
     rintro en w5 ⟨rfl,hk5,hp5⟩
     have HP5:=Lib.hid (HP4.out.call hR hk5 hp5)
     clear hk5 hp5
     go_wp2_with fail
     go_meet
     refine Lib.hid ⟨t,i+2,a3,HP5.out,?_,by omega,HTl.out⟩
     have h1:=HF.out
     rw [HC.out] at h1 ⊢
     simp only [labelS]
     rw [if_pos ⟨HLp.out.1,HLp.out.2⟩,h1]
     simp only [left_tail]
    ·have HP3:=Lib.hid (HPc.out.call hR hk3 hp3)
     obtain ⟨d0,d1,d2,d3,d4,d5,g0,g1,g2,g3,g4,g5⟩:=HP3.out.box.get6
     obtain ⟨c0,c1,c2,c3,c4,c5,f0,f1,f2,f3,f4,f5⟩:=HP3.out.zero.get6
     have HF:=Lib.hid (And.intro (hf ns) he)
     clear hk3 hp3 hf he htl
     go_wp2_with fail
     refine bodyPost_ret (v:=.tuple #[.agg #[.string (S []),.slice none 0 0,.slice none 0 0,.slice none 0 0,.slice none 0 0,.int .i64 0],.bool false]) (by simp [results,Tryz.results52,go_sem,c0,c1,c2,c3,c4,c5]) rfl ?_
     obtain ⟨e1,e2⟩:=HP3.out.end_ hR (.string (S [])) (.slice none 0 0) (.slice none 0 0) (.slice none 0 0) (.slice none 0 0) (.int .i64 0)
     refine ⟨[],.slice none 0 0,.slice none 0 0,.slice none 0 0,.slice none 0 0,false,rfl,sl4,.inr ⟨rfl,z,ns,i,(leftT l i).length,e,e1,e2,HF.out.2,?_⟩⟩
     have h1:=HF.out.1
     have h2:labelS (leftT l i) ns=.err (leftT l i).length e:=by
      rw [HC.out] at h1 ⊢
      simp only [labelS]
      rw [if_pos ⟨HLp.out.1,HLp.out.2⟩,h1]
     simp only [partsS,h2]
  case rest =>
   obtain ⟨lab,q0,a0,hPb,hla,hq0,hlt⟩:=hcut.out
   have HPb:=Lib.hid hPb
   have HLa:=Lib.hid hla
   have HQ0:=Lib.hid (And.intro hq0 hlt)
   have QH:Hid (Calls Tryz.prog 78 #[.pointer (some ⟨R,0,none⟩),.int .i64 0] wc _):=Lib.hid (heads_z HG.out QE.out HSz.out 0 (by omega) q0 z ns a0 wc hPb.p (by have h1:=HNN.out.1;simp only [left_length] at h1 ⊢;omega) (by have h1:=HNN.out.2;simp only [left_length] at h1 ⊢;omega))
   clear hcut hPb hla hq0 hlt HPc
   go_wp2_with fail
   refine QH.out.mono ?_
   rintro en w2 ⟨ks,b,kv,rfl,ho⟩
   have hwc:w.heap.size+2≤wc.heap.size:=by have:=HPb.out.box.lt;omega
   rcases ho with ⟨rfl,z2,ns2,j,a2,hk2,hp2,hf,hqj,hl2,hrow,hxl⟩|⟨rfl,rfl,z2,ns2,j,n2,er2,hk2,hp2,he2,hf⟩
   ·have HP2:=Lib.hid (HPb.out.call hR hk2 hp2)
    obtain ⟨kA,kc,rfl⟩:=hrow.zform
    have HK:=Lib.hid (hrow.low hwc)
    have HKl:=Lib.hid (fun k hk=>(hrow.lt k hk).2)
    have HF:=Lib.hid (And.intro hf (And.intro hqj hl2))
    have HKn:=Lib.hid hxl
    have hks:ks.length≤9223372036854775807:=by omega
    have HW2:=Lib.hid (show wc.heap.size≤w2.heap.size from hk2.size)
    clear hk2 hp2 hf hqj hl2 hrow hxl QH
    obtain ⟨b1,hb1⟩:∃b,((l.getD j default).2.2==[60,61,62])=b:=⟨_,rfl⟩
    have X1:=Lib.hid (isS_text HG.out HP2.out.p.ilt [60,61,62] (by decide) hb1)
    have HB1:=Lib.hid hb1
    have Q1:=Lib.hid (z_is_at HG.out HP2.out.p [60,61,62] (by decide) hb1)
    clear hb1
    go_upto_block 0 with (fail)
    go_cut [] from 59 to 108 (fun W=>Hid (ArrZ ex R A c l q0 z ns w lab W))
    case first =>
     cases b1
     ·obtain ⟨b2,hb2⟩:∃b,((l.getD j default).2.2==[61,61,62])=b:=⟨_,rfl⟩
      have X2:=Lib.hid (isS_text HG.out HP2.out.p.ilt [61,61,62] (by decide) hb2)
      have HB2:=Lib.hid hb2
      have Q2:=Lib.hid (fun W (hW:Pr W R A c l j z2 ns2 a2 0)=>z_is_at HG.out hW [61,61,62] (by decide) HB2.out)
      clear hb2
      cases b2
      ·obtain ⟨b3,hb3⟩:∃b,((l.getD j default).2.2==[92])=b:=⟨_,rfl⟩
       have X3:=Lib.hid (isS_text HG.out HP2.out.p.ilt [92] (by decide) hb3)
       have HB3:=Lib.hid hb3
       have Q3:=Lib.hid (fun W (hW:Pr W R A c l j z2 ns2 a2 0)=>z_is_at HG.out hW [92] (by decide) HB3.out)
       clear hb3
       cases b3
       ·go_wp2_with (first
         | (go_at_call 47;(with_reducible refine Q1.out.mono ?_);rintro en w3 ⟨rfl,hb⟩;have HP3:=Lib.hid (HP2.out.below hb);clear hb)
         | (go_at_call 47;(with_reducible refine (Q2.out _ HP3.out.p).mono ?_);rintro en w4 ⟨rfl,hb⟩;have HP4:=Lib.hid (HP3.out.below hb);clear hb)
         | (go_at_call 47;(with_reducible refine (Q3.out _ HP4.out.p).mono ?_);rintro en w5 ⟨rfl,hb⟩;have HP5:=Lib.hid (HP4.out.below hb);clear hb))
        obtain ⟨d0,d1,d2,d3,d4,d5,g0,g1,g2,g3,g4,g5⟩:=HP5.out.box.get6
        obtain ⟨c0,c1,c2,c3,c4,c5,f0,f1,f2,f3,f4,f5⟩:=HP5.out.zero.get6
        obtain ⟨tj,htj⟩:∃t,l.getD j default=t:=⟨_,rfl⟩
        obtain ⟨k',p',x'⟩:=tj
        have HTj:=Lib.hid htj
        have HIj:=Lib.hid HP5.out.p.ilt
        have fa:=tok_at k' (p':Int) (S x')
        have QT:=Lib.hid (fun W (hW:Pr W R A c l j z2 ns2 a2 0)=>r_tok_of hW htj)
        have QF:=Lib.hid (fun W (hW:Pr W R A c l j z2 ns2 a2 0)=>r_fail_at hW p' 16)
        clear htj
        go_region_with (first
         | (go_at_call 27;refine (QT.out _ (by first|exact HP5.out.p|exact HP5.out.p.drew)).mono ?_;rintro en w8 ⟨rfl,hb8⟩;have HP8:=Lib.hid (HP5.out.below (by first|exact hb8|exact ⟨hb8.os,hb8.tape,hb8.output,hb8.size,hb8.block⟩));obtain ⟨i0,i1,i2,i3,i4,i5,_,_,_,_,_,_⟩:=HP8.out.box.get6;clear hb8)
         | (go_at_call 31;refine (QF.out _ (by first|exact HP8.out.p|exact HP8.out.p.drew)).mono ?_;rintro en w9 ⟨rfl,hk9,hp9⟩;have HP9:=Lib.hid (HP8.out.call hR (by first|exact hk9|exact ⟨hk9.os,hk9.tape,hk9.output,hk9.size,hk9.block,hk9.own⟩) hp9);obtain ⟨j0,j1,j2,j3,j4,j5,_,_,_,_,_,_⟩:=HP9.out.box.get6;clear c0 c1 c2 c3 c4 c5 f0 f1 f2 f3 f4 f5;obtain ⟨c0,c1,c2,c3,c4,c5,f0,f1,f2,f3,f4,f5⟩:=HP9.out.zero.get6;clear hk9 hp9))
        all_goals
         go_wp2_with fail
         refine bodyPost_ret (v:=.tuple #[.agg #[.string (S lab),.slice none 0 0,.slice none 0 0,.slice none 0 0,.slice none 0 0,.int .i64 0],.bool false]) (by simp [results,Tryz.results52,go_sem,c0,c1,c2,c3,c4,c5]) rfl ?_
         obtain ⟨e1,e2⟩:=HP9.out.end_ hR (.string (S lab)) (.slice none 0 0) (.slice none 0 0) (.slice none 0 0) (.slice none 0 0) (.int .i64 0)
         refine ⟨lab,.slice none 0 0,.slice none 0 0,.slice none 0 0,.slice none 0 0,false,rfl,sl4,.inr ⟨rfl,z2,ns2,j,(leftT l j).length,16,(by first|exact e1|exact e1.drew),(by rw [off_here HIj.out,HTj.out];first|exact e2|exact e2.drew),by decide,?_⟩⟩
         refine parts_err2 HLa.out ?_
         simp only [bothS,HF.out.1,X1.out,X2.out,X3.out]
         rfl
       ·have QN:=Lib.hid (fun W (hW:Pr W R A c l j z2 ns2 a2 0)=>z_next_at HG.out hW (by rw [beq_iff_eq.1 HB3.out];decide))
        obtain ⟨d0,d1,d2,d3,d4,d5,g0,g1,g2,g3,g4,g5⟩:=HP2.out.box.get6
        go_wp2_with (first
         | (go_at_call 47;(with_reducible refine Q1.out.mono ?_);rintro en w3 ⟨rfl,hb⟩;have HP3:=Lib.hid (HP2.out.below hb);have HK3:=Lib.hid (HK.out.below hb);clear hb d0 d1 d2 d3 d4 d5 g0 g1 g2 g3 g4 g5)
         | (go_at_call 47;(with_reducible refine (Q2.out _ HP3.out.p).mono ?_);rintro en w4 ⟨rfl,hb⟩;have HP4:=Lib.hid (HP3.out.below hb);have HK4:=Lib.hid (HK3.out.below hb);clear hb)
         | (go_at_call 47;(with_reducible refine (Q3.out _ HP4.out.p).mono ?_);rintro en w5 ⟨rfl,hb⟩;have HP5:=Lib.hid (HP4.out.below hb);have HK5:=Lib.hid (HK4.out.below hb);have HP6:=Lib.hid ((HP4.out.below hb).set hR (k:=1) (by omega) (.slice kA ks.length kc) rfl);obtain ⟨d0,d1,d2,d3,d4,d5,g0,g1,g2,g3,g4,g5⟩:=(HP4.out.below hb).box.get6;clear hb)
         | (go_at_call 48;(with_reducible refine (QN.out _ HP6.out.p).mono ?_);rintro en w7 ⟨rfl,hk7,hp7⟩;have HP7:=Lib.hid (HP6.out.call hR hk7 hp7);have HK7:=Lib.hid ((HK5.out.put (p:=⟨w.heap.size+1,1,none⟩) (Nat.lt_succ_self _) (.slice kA ks.length kc)).kp hk7 (by omega));clear hk7 hp7 d0 d1 d2 d3 d4 d5 g0 g1 g2 g3 g4 g5))
        have hw7:w.heap.size+2≤w7.heap.size:=by have:=HP7.out.box.lt;omega
        refine (heads_z HG.out QE.out HSz.out ks.length (by have:=headsS_len _ _ (Nat.le_refl _) _ _ _ _ _ (by simp) HF.out.1;rw [List.length_map] at this;omega) (j+1) z2 ns2 a2 w7 HP7.out.p (by have h1:=HNN.out.1;have h3:=HF.out.2.1;have h4:=HQ0.out.1;simp only [left_length] at h1 ⊢;omega) (by have h1:=HNN.out.2;have h2:=HF.out.2.2;have h3:=HF.out.2.1;have h4:=HQ0.out.1;simp only [left_length] at h1 h2 ⊢;omega)).mono ?_
        rintro en w8 ⟨rs,b,rv,rfl,ho⟩
        rcases ho with ⟨rfl,z8,ns8,j8,a8,hk8,hp8,hf8,hq8,hl8,hrow8,hxl8⟩|⟨rfl,rfl,z8,ns8,j8,n8,e8,hk8,hp8,he8,hf8⟩
        ·have HP8:=Lib.hid (HP7.out.call hR hk8 hp8)
         obtain ⟨rA,rc,rfl⟩:=hrow8.zform
         have HKr:=Lib.hid (HK7.out.kp hk8 (by omega))
         have HRr:=Lib.hid hrow8
         have HKl7:=Lib.hid (fun k hk=>(HK7.out.lt k hk).2)
         have HS8:=Lib.hid (show w7.heap.size≤w8.heap.size from hk8.size)
         have HF8:=Lib.hid (And.intro hf8 (And.intro hq8 hl8))
         have HP9:=Lib.hid (HP8.out.set hR (k:=2) (by omega) (.slice rA rs.length rc) rfl)
         obtain ⟨d0,d1,d2,d3,d4,d5,g0,g1,g2,g3,g4,g5⟩:=HP8.out.box.get6
         obtain ⟨b4,hb4⟩:∃b,((l.getD j8 default).2.2==[60,61,62])=b:=⟨_,rfl⟩
         have X4:=Lib.hid (isS_text HG.out HP8.out.p.ilt [60,61,62] (by decide) hb4)
         have HB4:=Lib.hid hb4
         have Q4:=Lib.hid (z_is_at HG.out HP9.out.p [60,61,62] (by decide) hb4)
         clear hk8 hp8 hf8 hq8 hl8 hrow8 hxl8 hb4
         cases b4
         ·go_wp2_with (go_at_call 47;(with_reducible refine Q4.out.mono ?_);rintro en w10 ⟨rfl,hb⟩;have HP10:=Lib.hid (HP9.out.below hb);clear hb d0 d1 d2 d3 d4 d5 g0 g1 g2 g3 g4 g5)
          obtain ⟨d0,d1,d2,d3,d4,d5,g0,g1,g2,g3,g4,g5⟩:=HP10.out.box.get6
          obtain ⟨c0,c1,c2,c3,c4,c5,f0,f1,f2,f3,f4,f5⟩:=HP10.out.zero.get6
          obtain ⟨tj,htj⟩:∃t,l.getD j8 default=t:=⟨_,rfl⟩
          obtain ⟨k',p',x'⟩:=tj
          have HTj:=Lib.hid htj
          have HIj:=Lib.hid HP10.out.p.ilt
          have fa:=tok_at k' (p':Int) (S x')
          have QT:=Lib.hid (fun W (hW:Pr W R A c l j8 z8 ns8 a8 0)=>r_tok_of hW htj)
          have QF:=Lib.hid (fun W (hW:Pr W R A c l j8 z8 ns8 a8 0)=>r_fail_at hW p' 16)
          clear htj
          go_region_with (first
           | (go_at_call 27;refine (QT.out _ (by first|exact HP10.out.p|exact HP10.out.p.drew)).mono ?_;rintro en w8 ⟨rfl,hb8⟩;have HP11:=Lib.hid (HP10.out.below (by first|exact hb8|exact ⟨hb8.os,hb8.tape,hb8.output,hb8.size,hb8.block⟩));obtain ⟨i0,i1,i2,i3,i4,i5,_,_,_,_,_,_⟩:=HP11.out.box.get6;clear hb8)
           | (go_at_call 31;refine (QF.out _ (by first|exact HP11.out.p|exact HP11.out.p.drew)).mono ?_;rintro en w9 ⟨rfl,hk9,hp9⟩;have HP12:=Lib.hid (HP11.out.call hR (by first|exact hk9|exact ⟨hk9.os,hk9.tape,hk9.output,hk9.size,hk9.block,hk9.own⟩) hp9);obtain ⟨j0,j1,j2,j3,j4,j5,_,_,_,_,_,_⟩:=HP12.out.box.get6;clear c0 c1 c2 c3 c4 c5 f0 f1 f2 f3 f4 f5;obtain ⟨c0,c1,c2,c3,c4,c5,f0,f1,f2,f3,f4,f5⟩:=HP12.out.zero.get6;clear hk9 hp9))
          all_goals
           go_wp2_with fail
           refine bodyPost_ret (v:=.tuple #[.agg #[.string (S lab),.slice kA ks.length kc,.slice rA rs.length rc,.slice none 0 0,.slice none 0 0,.int .i64 0],.bool false]) (by simp [results,Tryz.results52,go_sem,c0,c1,c2,c3,c4,c5]) rfl ?_
           obtain ⟨e1,e2⟩:=HP12.out.end_ hR (.string (S lab)) (.slice kA ks.length kc) (.slice rA rs.length rc) (.slice none 0 0) (.slice none 0 0) (.int .i64 0)
           refine ⟨lab,.slice kA ks.length kc,.slice rA rs.length rc,.slice none 0 0,.slice none 0 0,false,rfl,sl4,.inr ⟨rfl,z8,ns8,j8,(leftT l j8).length,16,(by first|exact e1|exact e1.drew),(by rw [off_here HIj.out,HTj.out];first|exact e2|exact e2.drew),by decide,?_⟩⟩
           refine parts_err2 HLa.out ?_
           simp only [bothS,HF.out.1,X1.out,X2.out,X3.out,List.length_map,left_tail,HF8.out.1,X4.out]
           rfl
         ·go_wp2_with (go_at_call 47;(with_reducible refine Q4.out.mono ?_);rintro en w10 ⟨rfl,hb⟩;have HP10:=Lib.hid (HP9.out.below hb);have HS10:=Lib.hid (show w7.heap.size≤w10.heap.size by have h1:=hb.size;have h2:=HS8.out;simp only [World.setCell,Array.size_modify] at h1;omega);have HK10:=Lib.hid ((HKr.out.put (p:=⟨w.heap.size+1,2,none⟩) (Nat.lt_succ_self _) (.slice rA rs.length rc)).below hb);have HR10:=Lib.hid ((HRr.out.put (p:=⟨w.heap.size+1,2,none⟩) (by show w.heap.size+1 < w7.heap.size;omega) (.slice rA rs.length rc)).below hb);clear hb)
          go_meet
          refine Lib.hid ⟨j8,z8,ns8,a8,_,_,ks,rs,w7.heap.size,HP10.out,by rw [beq_iff_eq.1 HB4.out];decide,?_,by have h1:=HF.out.2.1;have h2:=HF8.out.2.1;omega,by have h1:=HF.out.2.2;have h2:=HF8.out.2.2;simp only [left_length] at h1 h2 ⊢;omega,HK10.out,HR10.out,⟨hw7,HS10.out⟩,HKl7.out⟩
          simp only [bothS,HF.out.1,X1.out,X2.out,X3.out,List.length_map,left_tail,HF8.out.1,X4.out]
          rfl
        ·have HP8:=Lib.hid (HP7.out.call hR hk8 hp8)
         have HP9:=Lib.hid (HP8.out.set hR (k:=2) (by omega) (.slice none 0 0) rfl)
         have HF8:=Lib.hid (And.intro hf8 he8)
         clear hk8 hp8 hf8 he8
         obtain ⟨d0,d1,d2,d3,d4,d5,g0,g1,g2,g3,g4,g5⟩:=HP8.out.box.get6
         obtain ⟨c0,c1,c2,c3,c4,c5,f0,f1,f2,f3,f4,f5⟩:=HP8.out.zero.get6
         go_wp2_with fail
         refine bodyPost_ret (v:=.tuple #[.agg #[.string (S lab),.slice kA ks.length kc,.slice none 0 0,.slice none 0 0,.slice none 0 0,.int .i64 0],.bool false]) (by simp [results,Tryz.results52,go_sem,c0,c1,c2,c3,c4,c5]) rfl ?_
         obtain ⟨e1,e2⟩:=HP9.out.end_ hR (.string (S lab)) (.slice kA ks.length kc) (.slice none 0 0) (.slice none 0 0) (.slice none 0 0) (.int .i64 0)
         refine ⟨lab,_,_,_,_,false,rfl,sl4,.inr ⟨rfl,z8,ns8,j8,n8,e8,e1,e2,HF8.out.2,?_⟩⟩
         refine parts_err2 HLa.out ?_
         simp only [bothS,HF.out.1,X1.out,X2.out,X3.out,List.length_map,left_tail,HF8.out.1]
         rfl
      ·go_wp2_with (first
       | (go_at_call 47;(with_reducible refine Q1.out.mono ?_);rintro en w3 ⟨rfl,hb⟩;have HP3:=Lib.hid (HP2.out.below hb);have HS3:=Lib.hid hb.size;have HK3:=Lib.hid (HK.out.below hb);clear hb)
       | (go_at_call 47;(with_reducible refine (Q2.out _ HP3.out.p).mono ?_);rintro en w4 ⟨rfl,hb⟩;have HP4:=Lib.hid (HP3.out.below hb);have HK4:=Lib.hid ((HK3.out.below hb).put (p:=⟨w.heap.size+1,1,none⟩) (Nat.lt_succ_self _) (.slice kA ks.length kc));have HP5:=Lib.hid ((HP3.out.below hb).set hR (k:=1) (by omega) (.slice kA ks.length kc) rfl);have HS4:=Lib.hid (show w2.heap.size≤(w4.setCell ⟨w.heap.size+1,1,none⟩ (.slice kA ks.length kc)).heap.size by have h1:=hb.size;have h2:=HS3.out;simp only [World.setCell,Array.size_modify];omega);obtain ⟨d0,d1,d2,d3,d4,d5,g0,g1,g2,g3,g4,g5⟩:=(HP3.out.below hb).box.get6;clear hb))
       go_meet
       refine Lib.hid ⟨j,z2,ns2,a2,_,_,ks,[],w2.heap.size,HP5.out,by rw [beq_iff_eq.1 HB2.out];decide,?_,by have h1:=HF.out.2.1;omega,HF.out.2.2,HK4.out,RowZ.nil _ _ _ _ _,⟨by have:=HW2.out;omega,HS4.out⟩,HKl.out⟩
       simp only [bothS,HF.out.1,X1.out,X2.out,left_tail]
       rfl
     ·go_wp2_with (go_at_call 47;(with_reducible refine Q1.out.mono ?_);rintro en w3 ⟨rfl,hb⟩;have HP3:=Lib.hid (HP2.out.below hb);have HK3:=Lib.hid ((HK.out.below hb).put (p:=⟨w.heap.size+1,2,none⟩) (Nat.lt_succ_self _) (.slice kA ks.length kc));have HP5:=Lib.hid ((HP2.out.below hb).set hR (k:=2) (by omega) (.slice kA ks.length kc) rfl);obtain ⟨d0,d1,d2,d3,d4,d5,g0,g1,g2,g3,g4,g5⟩:=(HP2.out.below hb).box.get6;clear hb)
      go_meet
      refine Lib.hid ⟨j,z2,ns2,a2,_,_,[],ks,w.heap.size+2,HP5.out,by rw [beq_iff_eq.1 HB1.out];decide,?_,by have h1:=HF.out.2.1;omega,HF.out.2.2,RowZ.nil _ _ _ _ _,HK3.out,⟨Nat.le_refl _,HP5.out.box.lt⟩,fun k hk=>absurd hk (gap_none k)⟩
      simp only [bothS,HF.out.1,X1.out,left_tail]
      rfl
    case rest =>
     obtain ⟨q,z3,ns3,a3,kv,rv,ks,rs,m1,hPc,hne,hbo,hiq,hl3,hrk,hrr,hm1,hk1⟩:=hcut.out
     obtain ⟨kA,kc,rfl⟩:=hrk.zform
     obtain ⟨rA,rc,rfl⟩:=hrr.zform
     have HPd:=Lib.hid hPc
     have HBo:=Lib.hid hbo
     have HIq:=Lib.hid (And.intro hiq hl3)
     have HRk:=Lib.hid hrk
     have HRr:=Lib.hid hrr
     have HM1:=Lib.hid (And.intro hm1 hk1)
     have QN:=Lib.hid (z_next_at HG.out hPc.p hne)
     clear hcut hPc hne hbo hiq hl3 hrk hrr hm1 hk1 Q1 HF HK HKl HKn hks X1 HB1 HP2 HPb HW2 hwc
     go_wp2_with (go_at_call 48;(with_reducible refine QN.out.mono ?_);rintro en w3 ⟨rfl,hk,hp⟩;have HP3:=Lib.hid (HPd.out.call hR hk hp);have HRk3:=Lib.hid (HRk.out.kp hk (by omega));have HRr3:=Lib.hid (HRr.out.kp hk (by have:=HM1.out.1.1;omega));have HS3:=Lib.hid hk.size;clear hk hp)
     have QG:Hid (Calls Tryz.prog 35 #[.pointer (some ⟨R,0,none⟩),.int .i64 12] w3 _):=Lib.hid (goals_z HG.out QE.out HSz.out 12 (by omega) (q+1) z3 ns3 a3 w3 HP3.out.p (by have h1:=HNN.out.1;have h3:=HIq.out.1;have h4:=HQ0.out.1;simp only [left_length] at h1 ⊢;omega) (by have h1:=HNN.out.2;have h2:=HIq.out.2;have h3:=HIq.out.1;have h4:=HQ0.out.1;simp only [left_length] at h1 h2 ⊢;omega))
     refine QG.out.mono ?_
     rintro en w4 ⟨bs,b,bv,rfl,ho⟩
     have hw3:w.heap.size+2≤w3.heap.size:=by have:=HP3.out.box.lt;omega
     rcases ho with ⟨rfl,z4,ns4,j4,a4,hk4,hp4,hf4,hq4,hl4,hrow4,hxl4⟩|⟨rfl,rfl,z4,ns4,j4,n4,er4,hk4,hp4,he4,hf4⟩
     ·have HP4:=Lib.hid (HP3.out.call hR hk4 hp4)
      obtain ⟨bA,bc,rfl⟩:=hrow4.zform
      have HP5:=Lib.hid (HP4.out.set hR (k:=4) (by omega) (.slice bA bs.length bc) rfl)
      obtain ⟨d0,d1,d2,d3,d4,d5,g0,g1,g2,g3,g4,g5⟩:=HP4.out.box.get6
      have HF4:=Lib.hid (And.intro hf4 (And.intro hq4 (And.intro hl4 hxl4)))
      have HRk4:=Lib.hid ((HRk3.out.kp hk4 (by omega)).put (p:=⟨w.heap.size+1,4,none⟩) (Nat.lt_succ_self _) (.slice bA bs.length bc))
      have HRr4:=Lib.hid ((HRr3.out.kp hk4 (by have:=HM1.out.1.1;omega)).put (p:=⟨w.heap.size+1,4,none⟩) (by show w.heap.size+1 < m1;have:=HM1.out.1.1;omega) (.slice bA bs.length bc))
      have HRl3:=Lib.hid (fun k hk=>(HRr3.out.lt k hk).2)
      have HRb4:=Lib.hid (hrow4.put (p:=⟨w.heap.size+1,4,none⟩) (by show w.heap.size+1 < w3.heap.size;omega) (.slice bA bs.length bc))
      have HS4:=Lib.hid (show w3.heap.size≤w4.heap.size from hk4.size)
      have HMs:=Lib.hid (show m1≤w3.heap.size from Nat.le_trans HM1.out.1.2 HS3.out)
      obtain ⟨b1,hb1⟩:∃b,((l.getD j4 default).2.2==[124])=b:=⟨_,rfl⟩
      have X1:=Lib.hid (isS_text HG.out HP4.out.p.ilt [124] (by decide) hb1)
      have HB1:=Lib.hid hb1
      have Q1:=Lib.hid (z_is_at HG.out HP5.out.p [124] (by decide) hb1)
      clear hk4 hp4 hf4 hq4 hl4 hrow4 hxl4 QG hb1
      go_upto_if 121 with (go_at_call 47;(with_reducible refine Q1.out.mono ?_);rintro en w6 ⟨rfl,hb⟩;have HP6:=Lib.hid (HP5.out.below hb);have HRk6:=Lib.hid (HRk4.out.below hb);have HRr6:=Lib.hid (HRr4.out.below hb);have HRb6:=Lib.hid (HRb4.out.below hb);have HS6:=Lib.hid (show w3.heap.size≤w6.heap.size by have h1:=hb.size;have h2:=HS4.out;simp only [World.setCell,Array.size_modify] at h1;omega);clear hb d0 d1 d2 d3 d4 d5 g0 g1 g2 g3 g4 g5)
      go_cut [9] from 122 to 132 (fun okv W=>∃b,okv=.bool b∧Hid (GoZ ex R A c l (q+1) ns3 z w lab kA rA kc rc ks rs m1 b W))
      case first =>
       cases b1
       ·go_wp2_with fail
        go_meet
        refine ⟨true,rfl,Lib.hid (.inl ⟨rfl,j4,z4,ns4,a4,none,0,bA,bc,[],bs,w3.heap.size,w3.heap.size,HP6.out,?_,by have:=HF4.out.2.1;omega,HF4.out.2.2.1,⟨HRk6.out,HRr6.out,RowZ.nil _ _ _ _ _,HRb6.out,⟨HM1.out.1.1,HMs.out,Nat.le_refl _⟩,HM1.out.2,HRl3.out,fun k hk=>absurd hk (gap_none k)⟩,HF4.out.2.2.2⟩)⟩
        simp only [goals1S,HF4.out.1,X1.out]
        rfl
       ·have QN2:=Lib.hid (z_next_at HG.out HP6.out.p (by rw [beq_iff_eq.1 HB1.out];decide))
        go_wp2_with (go_at_call 48;(with_reducible refine QN2.out.mono ?_);rintro en w7 ⟨rfl,hk,hp⟩;have HP7:=Lib.hid (HP6.out.call hR hk hp);have HRk7:=Lib.hid (HRk6.out.kp hk (by omega));have HRr7:=Lib.hid (HRr6.out.kp hk (by have:=HM1.out.1.1;omega));have HRb7:=Lib.hid (HRb6.out.kp hk (by omega));obtain ⟨d0,d1,d2,d3,d4,d5,g0,g1,g2,g3,g4,g5⟩:=HP7.out.box.get6;have HS37:=Lib.hid (show w3.heap.size≤w7.heap.size from Nat.le_trans HS6.out hk.size);clear hk hp)
        have HP8:=Lib.hid (HP7.out.set hR (k:=3) (by omega) (.slice bA bs.length bc) rfl)
        have HRk8:=Lib.hid (HRk7.out.put (p:=⟨w.heap.size+1,3,none⟩) (Nat.lt_succ_self _) (.slice bA bs.length bc))
        have HRr8:=Lib.hid (HRr7.out.put (p:=⟨w.heap.size+1,3,none⟩) (by show w.heap.size+1 < m1;have:=HM1.out.1.1;omega) (.slice bA bs.length bc))
        have HRb8:=Lib.hid (HRb7.out.put (p:=⟨w.heap.size+1,3,none⟩) (by show w.heap.size+1 < w3.heap.size;omega) (.slice bA bs.length bc))
        have HRl8:=Lib.hid (fun k hk=>(HRb8.out.lt k hk).2)
        have HRg8:=Lib.hid (fun k hk=>(HRb8.out.lt k hk).1)
        clear d0 d1 d2 d3 d4 d5 g0 g1 g2 g3 g4 g5
        have QG:Hid (Calls Tryz.prog 35 #[.pointer (some ⟨R,0,none⟩),.int .i64 12] (w7.setCell ⟨w.heap.size+1,3,none⟩ (.slice bA bs.length bc)) _):=Lib.hid (goals_z HG.out QE.out HSz.out 12 (by omega) (j4+1) z4 ns4 a4 _ HP8.out.p (by have h1:=HNN.out.1;have h3:=HIq.out.1;have h4:=HQ0.out.1;have h5:=HF4.out.2.1;simp only [left_length] at h1 ⊢;omega) (by have h1:=HNN.out.2;have h2:=HIq.out.2;have h3:=HIq.out.1;have h4:=HQ0.out.1;have h5:=HF4.out.2.1;have h6:=HF4.out.2.2.1;simp only [left_length] at h1 h2 h6 ⊢;omega))
        refine QG.out.mono ?_
        rintro en w9 ⟨ds,b,dv,rfl,ho⟩
        have hw8:w.heap.size+2≤(w7.setCell ⟨w.heap.size+1,3,none⟩ (.slice bA bs.length bc)).heap.size:=by have:=HP8.out.box.lt;omega
        rcases ho with ⟨rfl,z9,ns9,j9,a9,hk9,hp9,hf9,hq9,hl9,hrow9,hxl9⟩|⟨rfl,rfl,z9,ns9,j9,n9,er9,hk9,hp9,he9,hf9⟩
        ·have HP9:=Lib.hid (HP8.out.call hR hk9 hp9)
         obtain ⟨dA,dc,rfl⟩:=hrow9.zform
         have HPx:=Lib.hid (HP9.out.set hR (k:=4) (by omega) (.slice dA ds.length dc) rfl)
         obtain ⟨d0,d1,d2,d3,d4,d5,g0,g1,g2,g3,g4,g5⟩:=HP9.out.box.get6
         have HF9:=Lib.hid (And.intro hf9 (And.intro hq9 (And.intro hl9 hxl9)))
         have HRk9:=Lib.hid ((HRk8.out.kp hk9 (by omega)).put (p:=⟨w.heap.size+1,4,none⟩) (Nat.lt_succ_self _) (.slice dA ds.length dc))
         have HRr9:=Lib.hid ((HRr8.out.kp hk9 (by have:=HM1.out.1.1;omega)).put (p:=⟨w.heap.size+1,4,none⟩) (by show w.heap.size+1 < m1;have:=HM1.out.1.1;omega) (.slice dA ds.length dc))
         have HRb9:=Lib.hid ((HRb8.out.kp hk9 (by omega)).put (p:=⟨w.heap.size+1,4,none⟩) (by show w.heap.size+1 < w3.heap.size;omega) (.slice dA ds.length dc))
         have HRd9:=Lib.hid (hrow9.put (p:=⟨w.heap.size+1,4,none⟩) (by show w.heap.size+1 < _;omega) (.slice dA ds.length dc))
         have HS38:=Lib.hid (show w3.heap.size≤(w7.setCell ⟨w.heap.size+1,3,none⟩ (.slice bA bs.length bc)).heap.size from by
          have h1:=HS37.out
          simp only [World.setCell,Array.size_modify]
          exact h1)
         clear hk9 hp9 hf9 hq9 hl9 hrow9 hxl9 QG
         go_wp2_with fail
         go_meet
         refine ⟨true,rfl,Lib.hid (.inl ⟨rfl,j9,z9,ns9,a9,bA,bc,dA,dc,bs,ds,w3.heap.size,_,HPx.out,?_,by have h1:=HF4.out.2.1;have h2:=HF9.out.2.1;omega,by have h1:=HF4.out.2.2.1;have h2:=HF9.out.2.2.1;simp only [left_length] at h1 h2 ⊢;omega,⟨HRk9.out,HRr9.out,HRb9.out,HRd9.out,⟨HM1.out.1.1,HMs.out,HS38.out⟩,HM1.out.2,HRl3.out,HRl8.out⟩,HF9.out.2.2.2⟩)⟩
         simp only [goals1S,HF4.out.1,X1.out,if_true,left_tail,HF9.out.1]
        ·have HP9:=Lib.hid (HP8.out.call hR hk9 hp9)
         have HPx:=Lib.hid (HP9.out.set hR (k:=4) (by omega) (.slice none 0 0) rfl)
         obtain ⟨d0,d1,d2,d3,d4,d5,g0,g1,g2,g3,g4,g5⟩:=HP9.out.box.get6
         have HF9:=Lib.hid (And.intro hf9 he9)
         clear hk9 hp9 hf9 he9 QG
         go_wp2_with fail
         go_meet
         refine ⟨false,rfl,Lib.hid (.inr ⟨rfl,j9,z9,ns9,n9,er9,bA,bc,bs.length,none,0,0,HPx.out,HF9.out.2,?_⟩)⟩
         simp only [goals1S,HF4.out.1,X1.out,if_true,left_tail,HF9.out.1]
      case rest =>
       clear HP5 HP6 HRk4 HRr4 HRb4 HRk6 HRr6 HRb6 HP3 HRk3 HRr3 HRk HRr HPd HP4 QN Q1 X1 HB1
       obtain ⟨b,rfl,hGo⟩:=hcut
       rcases hGo.out with ⟨rfl,q5,z5,ns5,a5,gA,gc,bA,bc,gs,bs,m2,m3,hP,hpl,hq5,hl5,hR5,hb5⟩|⟨rfl,q5,z5,ns5,n5,er5,gA,gc,gn,bA,bc,bn,hP,he5,hpl⟩
       ·have HP5:=Lib.hid hP
        have HPl:=Lib.hid hpl
        have HQ5:=Lib.hid (And.intro hq5 (And.intro hl5 hb5))
        have HR5:=Lib.hid hR5
        clear hGo hP hpl hq5 hl5 hR5 hb5
        obtain ⟨b2,hb2⟩:∃b,((l.getD q5 default).2.2==[46])=b:=⟨_,rfl⟩
        have X2:=Lib.hid (isS_text HG.out HP5.out.p.ilt [46] (by decide) hb2)
        have QW:=Lib.hid (z_want_at HG.out HP5.out.p [46] (by decide) hb2)
        clear hb2
        go_wp2_with fail
        refine QW.out.mono ?_
        rintro en w8 ⟨rfl,hk8,ho8⟩
        rcases ho8 with ⟨rfl,a8,hp8⟩|⟨rfl,hp8⟩
        ·have HP8:=Lib.hid (HP5.out.call hR hk8 hp8)
         have HR8:=Lib.hid (HR5.out.kp hk8 (by omega))
         clear hk8 hp8
         have HPp:=Lib.hid (show partsS ex (leftT l i) ns=.ok ⟨lab,ks.map sA,rs.map sA,gs.map sG,bodyS (bs.map sG),0⟩ (leftT l (q5+1)) ns5 by
          rw [parts_plain HLa.out HBo.out HPl.out,X2.out,if_pos rfl,left_tail])
         have HQn:=Lib.hid (show i < q5+1∧ns5.length+(leftT l (q5+1)).length≤ns.length+(leftT l i).length by
          have h1:=HQ0.out.1
          have h2:=HIq.out.1
          have h3:=HIq.out.2
          have h4:=HQ5.out.1
          have h5:=HQ5.out.2.1
          simp only [left_length] at h3 h5 ⊢
          omega)
         obtain ⟨d0,d1,d2,d3,d4,d5,g0,g1,g2,g3,g4,g5⟩:=HP8.out.box.get6
         have hbl:bs.length≤9223372036854775807:=by have:=HQ5.out.2.2;omega
         by_cases h1:bs.length=1
         ·obtain ⟨y,rfl⟩:=List.length_eq_one_iff.1 h1
          obtain ⟨bg,rfl,hcell⟩:=HR8.out.b.first (by simp)
          have y0:=hcell 0 (.int .i64 y.op) rfl
          clear hcell
          have hl1:([y]:List Gl).length=1:=rfl
          obtain ⟨bo,hbo⟩:∃b,(y.op==1)=b:=⟨_,rfl⟩
          have HBO:=Lib.hid hbo
          cases bo
          ·obtain ⟨c0,c1,c2,c3,c4,c5,f0,f1,f2,f3,f4,f5⟩:=HP8.out.zero.get6
           simp only [List.length_cons,List.length_nil,Nat.zero_add] at d4
           go_wp2_with fail
           refine bodyPost_ret (v:=.tuple #[.agg #[.string (S lab),.slice kA ks.length kc,.slice rA rs.length rc,.slice gA gs.length gc,.slice (some ⟨bg,0,none⟩) 1 bc,.int .i64 0],.bool true]) (by simp [results,Tryz.results52,go_sem,c0,c1,c2,c3,c4,c5]) rfl ?_
           obtain ⟨e1,e2⟩:=HP8.out.end_ hR (.string (S lab)) (.slice kA ks.length kc) (.slice rA rs.length rc) (.slice gA gs.length gc) (.slice (some ⟨bg,0,none⟩) 1 bc) (.int .i64 0)
           refine ⟨lab,_,_,_,_,true,rfl,sl4,.inl ⟨rfl,z5,ns5,q5+1,a8,m1,m2,m3,ks,rs,gs,[y],e1,e2,?_,HQn.out.1,HQn.out.2,HQ0.out.2,HR8.out.end_ (by omega) _ _ _ _ _ _⟩⟩
           rw [HPp.out]
           simp only [List.map_cons,List.map_nil,bodyS,sG]
           rw [if_neg (by have:=HBO.out;simpa using this)]
          ·have HP9:=Lib.hid (HP8.out.set hR (k:=4) (by omega) (.slice none 0 0) rfl)
           have HR9:=Lib.hid (HR8.out.put (p:=⟨w.heap.size+1,4,none⟩) (Nat.lt_succ_self _) (.slice none 0 0))
           obtain ⟨c0,c1,c2,c3,c4,c5,f0,f1,f2,f3,f4,f5⟩:=HP8.out.zero.get6
           simp only [List.length_cons,List.length_nil,Nat.zero_add] at d4
           go_wp2_with fail
           refine bodyPost_ret (v:=.tuple #[.agg #[.string (S lab),.slice kA ks.length kc,.slice rA rs.length rc,.slice gA gs.length gc,.slice none 0 0,.int .i64 0],.bool true]) (by simp [results,Tryz.results52,go_sem,c0,c1,c2,c3,c4,c5]) rfl ?_
           obtain ⟨e1,e2⟩:=HP9.out.end_ hR (.string (S lab)) (.slice kA ks.length kc) (.slice rA rs.length rc) (.slice gA gs.length gc) (.slice none 0 0) (.int .i64 0)
           have hE:=HR9.out.end_ (T:=w.heap.size) (by omega) (.string (S lab)) (.slice kA ks.length kc) (.slice rA rs.length rc) (.slice gA gs.length gc) (.slice none 0 0) (.int .i64 0)
           refine ⟨lab,_,_,_,_,true,rfl,sl4,.inl ⟨rfl,z5,ns5,q5+1,a8,m1,m2,m3,ks,rs,gs,[],e1,e2,?_,HQn.out.1,HQn.out.2,HQ0.out.2,⟨hE.k,hE.r,hE.g,RowZ.nil _ _ _ _ _,hE.l1,hE.k1,hE.r1,hE.g1⟩⟩⟩
           rw [HPp.out]
           simp only [List.map_cons,List.map_nil,bodyS,sG]
           rw [if_pos (by have:=HBO.out;simpa using this)]
         ·have hb1:(((bs.length:Nat):Int)==1)=false:=by simp;omega
          have HB1:=Lib.hid h1
          clear h1
          obtain ⟨c0,c1,c2,c3,c4,c5,f0,f1,f2,f3,f4,f5⟩:=HP8.out.zero.get6
          go_wp2_with fail
          refine bodyPost_ret (v:=.tuple #[.agg #[.string (S lab),.slice kA ks.length kc,.slice rA rs.length rc,.slice gA gs.length gc,.slice bA bs.length bc,.int .i64 0],.bool true]) (by simp [results,Tryz.results52,go_sem,c0,c1,c2,c3,c4,c5]) rfl ?_
          obtain ⟨e1,e2⟩:=HP8.out.end_ hR (.string (S lab)) (.slice kA ks.length kc) (.slice rA rs.length rc) (.slice gA gs.length gc) (.slice bA bs.length bc) (.int .i64 0)
          refine ⟨lab,_,_,_,_,true,rfl,sl4,.inl ⟨rfl,z5,ns5,q5+1,a8,m1,m2,m3,ks,rs,gs,bs,e1,e2,?_,HQn.out.1,HQn.out.2,HQ0.out.2,HR8.out.end_ (by omega) _ _ _ _ _ _⟩⟩
          rw [HPp.out]
          congr 1
          congr 1
          rcases bs with _|⟨x1,_|⟨x2,xr⟩⟩
          ·rfl
          ·exact absurd rfl HB1.out
          ·rfl
        ·have HP8:=Lib.hid (HP5.out.call hR hk8 hp8)
         clear hk8 hp8
         obtain ⟨d0,d1,d2,d3,d4,d5,g0,g1,g2,g3,g4,g5⟩:=HP8.out.box.get6
         obtain ⟨c0,c1,c2,c3,c4,c5,f0,f1,f2,f3,f4,f5⟩:=HP8.out.zero.get6
         go_wp2_with fail
         refine bodyPost_ret (v:=.tuple #[.agg #[.string (S lab),.slice kA ks.length kc,.slice rA rs.length rc,.slice gA gs.length gc,.slice bA bs.length bc,.int .i64 0],.bool false]) (by simp [results,Tryz.results52,go_sem,c0,c1,c2,c3,c4,c5]) rfl ?_
         obtain ⟨e1,e2⟩:=HP8.out.end_ hR (.string (S lab)) (.slice kA ks.length kc) (.slice rA rs.length rc) (.slice gA gs.length gc) (.slice bA bs.length bc) (.int .i64 0)
         refine ⟨lab,.slice kA ks.length kc,.slice rA rs.length rc,.slice gA gs.length gc,.slice bA bs.length bc,false,rfl,sl4,.inr ⟨rfl,z5,ns5,q5,(leftT l q5).length,16,e1,e2,(by decide),?_⟩⟩
         rw [parts_plain HLa.out HBo.out HPl.out,X2.out]
         rfl
       ·have HP5:=Lib.hid hP
        have HPl:=Lib.hid (And.intro hpl he5)
        clear hGo hP hpl he5
        obtain ⟨d0,d1,d2,d3,d4,d5,g0,g1,g2,g3,g4,g5⟩:=HP5.out.box.get6
        obtain ⟨c0,c1,c2,c3,c4,c5,f0,f1,f2,f3,f4,f5⟩:=HP5.out.zero.get6
        go_wp2_with fail
        refine bodyPost_ret (v:=.tuple #[.agg #[.string (S lab),.slice kA ks.length kc,.slice rA rs.length rc,.slice gA gn gc,.slice bA bn bc,.int .i64 0],.bool false]) (by simp [results,Tryz.results52,go_sem,c0,c1,c2,c3,c4,c5]) rfl ?_
        obtain ⟨e1,e2⟩:=HP5.out.end_ hR (.string (S lab)) (.slice kA ks.length kc) (.slice rA rs.length rc) (.slice gA gn gc) (.slice bA bn bc) (.int .i64 0)
        refine ⟨lab,.slice kA ks.length kc,.slice rA rs.length rc,.slice gA gn gc,.slice bA bn bc,false,rfl,sl4,.inr ⟨rfl,z5,ns5,q5,n5,er5,e1,e2,HPl.out.2,?_⟩⟩
        exact parts_err3 HLa.out HBo.out HPl.out.1
     ·have HP4:=Lib.hid (HP3.out.call hR hk4 hp4)
      have HP5:=Lib.hid (HP4.out.set hR (k:=4) (by omega) (.slice none 0 0) rfl)
      obtain ⟨d0,d1,d2,d3,d4,d5,g0,g1,g2,g3,g4,g5⟩:=HP4.out.box.get6
      obtain ⟨c0,c1,c2,c3,c4,c5,f0,f1,f2,f3,f4,f5⟩:=HP4.out.zero.get6
      have HF4:=Lib.hid (And.intro hf4 he4)
      clear hk4 hp4 hf4 he4 QG
      go_wp2_with fail
      refine bodyPost_ret (v:=.tuple #[.agg #[.string (S lab),.slice kA ks.length kc,.slice rA rs.length rc,.slice none 0 0,.slice none 0 0,.int .i64 0],.bool false]) (by simp [results,Tryz.results52,go_sem,c0,c1,c2,c3,c4,c5]) rfl ?_
      obtain ⟨e1,e2⟩:=HP5.out.end_ hR (.string (S lab)) (.slice kA ks.length kc) (.slice rA rs.length rc) (.slice none 0 0) (.slice none 0 0) (.int .i64 0)
      refine ⟨lab,_,_,_,_,false,rfl,sl4,.inr ⟨rfl,z4,ns4,j4,n4,er4,e1,e2,HF4.out.2,?_⟩⟩
      refine parts_err3 HLa.out HBo.out ?_
      simp only [goals1S,HF4.out.1]
   ·have HP2:=Lib.hid (HPb.out.call hR hk2 hp2)
    have HF:=Lib.hid (And.intro hf he2)
    clear hk2 hp2 hf he2 QH
    obtain ⟨d0,d1,d2,d3,d4,d5,g0,g1,g2,g3,g4,g5⟩:=HP2.out.box.get6
    obtain ⟨c0,c1,c2,c3,c4,c5,f0,f1,f2,f3,f4,f5⟩:=HP2.out.zero.get6
    go_wp2_with fail
    refine bodyPost_ret (v:=.tuple #[.agg #[.string (S lab),.slice none 0 0,.slice none 0 0,.slice none 0 0,.slice none 0 0,.int .i64 0],.bool false]) (by simp [results,Tryz.results52,go_sem,c0,c1,c2,c3,c4,c5]) rfl ?_
    obtain ⟨e1,e2⟩:=HP2.out.end_ hR (.string (S lab)) (.slice none 0 0) (.slice none 0 0) (.slice none 0 0) (.slice none 0 0) (.int .i64 0)
    refine ⟨lab,.slice none 0 0,.slice none 0 0,.slice none 0 0,.slice none 0 0,false,rfl,sl4,.inr ⟨rfl,z2,ns2,j,n2,er2,e1,e2,HF.out.2,?_⟩⟩
    refine parts_err2 HLa.out ?_
    simp only [bothS,HF.out.1]
end
end Go.Proofs.YtaojnljppcnhjaaGreatDoor
