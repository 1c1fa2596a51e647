/-
  RzProd.
  RzCmp.
  RzPlainP.
-/
import Derived.Test.YtaojnljppcnhjaaGreatDoorMh23
import Derived.Test.YtaojnljppcnhjaaGreatDoorMh17
import Derived.Deep.CutRange
import Derived.Deep.CutBlock
import Derived.Test.YtaojnljppcnhjaaGreatDoorMh9
namespace Go.Proofs.YtaojnljppcnhjaaGreatDoor
open Go.RowKit
set_option maxHeartbeats 40000000 in
set_option maxRecDepth 100000 in
theorem product_z {R:Nat} {A:Option Addr} {c:Nat} {l:List Tk} (hg:GoodT l) {n:Nat} {O:Rd1 Tm}
  (hO:∀(i:Nat) (z:Value) (ns:List (List UInt8)) (at_:Nat) (w:World),Pr w R A c l i z ns at_ 0→(leftT l i).length≤n→ns.length+(leftT l i).length≤100000→Calls Tryz.prog 135 #[.pointer (some ⟨R,0,none⟩)] w (ElZ elTm Tm.val Tm.strip O R A c l i z ns w))
  (i:Nat) (z:Value) (ns:List (List UInt8)) (at_:Nat) (w:World) (h:Pr w R A c l i z ns at_ 0) (hn:(leftT l i).length≤n) (hns:ns.length+(leftT l i).length≤100000) :
  Calls Tryz.prog 110 #[.pointer (some ⟨R,0,none⟩)] w (ElZ elTm Tm.val Tm.strip (levelS mulS O) R A c l i z ns w):=by
 have HG:=Lib.hid hg
 have hR:=h.lt
 have hTR:w.heap.size≠R:=by omega
 have HNn:=Lib.hid (And.intro hn hns)
 have H:=Lib.hid h
 have Q:=Lib.hid hO
 have Q0:=Lib.hid (hO i z ns at_ _ (h.alloc (.cells #[.int .i64 0,.int .i64 0,.string ⟨#[]⟩,.slice none 0 0] 56)) hn hns)
 clear hO h hn hns hg
 go_enter Tryz.func110,Tryz.ntmps110
 go_wp2_with fail
 refine Q0.out.mono ?_
 rintro e w1 ⟨u,b,he,ho⟩
 have he2:e=.returned (.tuple #[.agg #[.int .i64 u.kind,.int .i64 u.num,.string u.name,.slice u.at_ u.args.length u.cap],.bool b]):=he
 clear he
 subst he2
 obtain ⟨hsz,q,z1,ns1,a1,er,hC⟩:=chainz_start (ops:=mulS) hR H.out ho
 have H0:=Lib.hid hC
 obtain ⟨T,hT⟩:∃T,T=w1.heap.size:=⟨_,rfl⟩
 rw [←hT] at H0
 have HTw:=Lib.hid (show w.heap.size < T by omega)
 have HT:=Lib.hid hT
 clear Q0 ho hC hsz hT
 go_wp2_with fail
 rw [←HT.out]
 go_loopg [5] (l.length - q) (fun gk ok wr=>∃(b:Bool) (q:Nat) (u:Tm) (z1:Value) (ns1:List (List UInt8)) (a1:Nat) (er:Int),ok=.bool b∧Hid (ChainZ mulS O R A c l i ns z w T gk b wr q u z1 ns1 a1 er))
 case atStart=>exact ⟨b,q,u,z1,ns1,a1,er,rfl,H0⟩
 case round =>
  clear H0 HT
  obtain ⟨b,q,u,z1,ns1,a1,er,rfl,hI⟩:=hrel
  have hTw:=HTw.out
  have hTR2:¬T=R:=by omega
  have hRT2:¬R=T:=by omega
  obtain ⟨c0,c1,c2,c3,f0,f1,f2,f3⟩:=hI.out.b.zero.get4
  obtain ⟨t0,t1,t2,t3,g0,g1,g2,g3⟩:=hI.out.b.box.get4
  rcases hI.out.res with ⟨rfl,rfl,hS,hgk,hV,hiq,hl⟩|⟨rfl,her,m,ha,hV⟩
  ·obtain ⟨t,ht⟩:∃t,l.getD q default=t:=⟨_,rfl⟩
   obtain ⟨k,p,x⟩:=t
   have hqi:=hI.out.b.p.ilt
   have HK:=Lib.hid (And.intro hgk (And.intro hV (And.intro hiq (And.intro hl hqi))))
   have HM:=Lib.hid (show MidZ R A c l z w T wr q u z1 ns1 a1 from ⟨hI.out.b,hS⟩)
   have HTk:=Lib.hid ht
   have HX:=Lib.hid (show x.length≤16384 by have:=HG.out.texts q hqi;rw [ht] at this;exact this)
   have ft:=tok_text k (p:Int) (S x)
   have QT:=Lib.hid (fun W (hW:Pr W R A c l q z1 ns1 a1 0)=>r_tok_of hW ht)
   have QN:=Lib.hid (fun W (hW:Pr W R A c l q z1 ns1 a1 0) (hne:x≠[])=>z_next_at HG.out hW (by rw [ht];exact hne))
   have QO:=Lib.hid (fun W (hW:Pr W R A c l (q+1) z1 ns1 a1 0)=>Q.out (q+1) z1 ns1 a1 W hW (by have h1:=HNn.out.1;have h2:=HK.out.2.2.1;simp only [left_length] at h1 ⊢;omega) (by have h1:=HNn.out.2;have h2:=HK.out.2.2.2.1;simp only [left_length] at h1 h2 ⊢;omega))
   obtain ⟨b1,hb1⟩:∃b,(x==[42])=b:=⟨_,rfl⟩
   have Q1:=Lib.hid (fun W (hW:Pr W R A c l q z1 ns1 a1 0)=>z_is_at (b:=b1) HG.out hW [42] (by decide) (by rw [ht];exact hb1))
   have X1:=Lib.hid hb1
   obtain ⟨b2,hb2⟩:∃b,(x==[47])=b:=⟨_,rfl⟩
   have Q2:=Lib.hid (fun W (hW:Pr W R A c l q z1 ns1 a1 0)=>z_is_at (b:=b2) HG.out hW [47] (by decide) (by rw [ht];exact hb2))
   have X2:=Lib.hid hb2
   obtain ⟨b3,hb3⟩:∃b,(x==[37])=b:=⟨_,rfl⟩
   have Q3:=Lib.hid (fun W (hW:Pr W R A c l q z1 ns1 a1 0)=>z_is_at (b:=b3) HG.out hW [37] (by decide) (by rw [ht];exact hb3))
   have X3:=Lib.hid hb3
   clear ht hS hgk hV hiq hl hqi hb1 hb2 hb3
   cases b1
   ·skip
    cases b2
    ·skip
     cases b3
     ·go_wp2_with (first
       | (go_at_call 47;(with_reducible refine (Q1.out _ HM.out.b.p).mono ?_);rintro en w11 ⟨rfl,hb⟩;have HM1:=Lib.hid (HM.out.below hb);clear hb)
       | (go_at_call 47;(with_reducible refine (Q2.out _ HM1.out.b.p).mono ?_);rintro en w12 ⟨rfl,hb⟩;have HM2:=Lib.hid (HM1.out.below hb);clear hb)
       | (go_at_call 47;(with_reducible refine (Q3.out _ HM2.out.b.p).mono ?_);rintro en w13 ⟨rfl,hb⟩;have HM3:=Lib.hid (HM2.out.below hb);clear c0 c1 c2 c3 f0 f1 f2 f3 t0 t1 t2 t3 g0 g1 g2 g3;obtain ⟨c0,c1,c2,c3,f0,f1,f2,f3⟩:=HM3.out.b.zero.get4;obtain ⟨t0,t1,t2,t3,g0,g1,g2,g3⟩:=HM3.out.b.box.get4;clear hb))
      refine bodyPost_ret (v:=.tuple #[.agg #[.int .i64 u.kind,.int .i64 u.num,.string u.name,.slice u.at_ u.args.length u.cap],.bool true]) (by simp [results,Tryz.results110,go_sem,c0,c1,c2,c3]) rfl ?_
      obtain ⟨e1,e2⟩:=endz4 hR HM3.out.b.k HM3.out.b.p HM3.out.b.zw (.int .i64 u.kind) (.int .i64 u.num) (.string u.name) (.slice u.at_ u.args.length u.cap)
      refine ⟨u,true,rfl,.inl ⟨rfl,z1,ns1,q,a1,e1,e2,?_,HK.out.2.2.1,HK.out.2.2.2.1,HM3.out.s.sit.end4 (Nat.lt_succ_self _) _ _ _ _⟩⟩
      rw [HK.out.2.1]
      refine chain_stop (fun hx=>?_) HK.out.2.2.2.2
      rw [HTk.out] at hx
      simp only [mulS,List.mem_cons,List.not_mem_nil,or_false] at hx
      rcases hx with hx|hx|hx
      ·have:=X1.out;rw [show x=[42] from hx] at this;exact absurd this (by decide)
      ·have:=X2.out;rw [show x=[47] from hx] at this;exact absurd this (by decide)
      ·have:=X3.out;rw [show x=[37] from hx] at this;exact absurd this (by decide)
     ·have hxe:x=[37]:=by simpa using X3.out
      have HXm:=Lib.hid (show x∈mulS∧k=4∧x≠[] by
       have hx:x∈mulS:=by rw [hxe];simp [mulS]
       have hk4:k=4:=by
        have:=HG.out.kinds q HK.out.2.2.2.2
        rw [HTk.out] at this
        exact this.trans (mul_kind hx)
       exact ⟨hx,hk4,by rw [hxe];decide⟩)
      clear hxe
      go_wp2_with (first
       | (go_at_call 47;(with_reducible refine (Q1.out _ HM.out.b.p).mono ?_);rintro en w11 ⟨rfl,hb⟩;have HM1:=Lib.hid (HM.out.below hb);clear hb)
       | (go_at_call 47;(with_reducible refine (Q2.out _ HM1.out.b.p).mono ?_);rintro en w12 ⟨rfl,hb⟩;have HM2:=Lib.hid (HM1.out.below hb);clear hb)
       | (go_at_call 47;(with_reducible refine (Q3.out _ HM2.out.b.p).mono ?_);rintro en w13 ⟨rfl,hb⟩;have HM3:=Lib.hid (HM2.out.below hb);clear hb)
       | (go_at_call 27;(with_reducible refine (QT.out _ HM3.out.b.p).mono ?_);rintro en w18 ⟨rfl,hb⟩;have HM8:=Lib.hid (HM3.out.below hb);clear hb)
       | (go_at_call 48;(with_reducible refine (QN.out _ HM8.out.b.p HXm.out.2.2).mono ?_);rintro en w19 ⟨rfl,hk9,hp9⟩;have HM9:=Lib.hid (HM8.out.next hTw hR hk9 hp9);clear hk9 hp9))
      refine (QO.out _ (HM9.out.b.p.alloc _)).mono ?_
      rintro e w6 ⟨y,b,he,ho⟩
      have he2:e=.returned (.tuple #[.agg #[.int .i64 y.kind,.int .i64 y.num,.string y.name,.slice y.at_ y.args.length y.cap],.bool b]):=he
      clear he
      subst he2
      rcases ho with ⟨rfl,z6,ns6,j,a6,hk6,hp6,hf,hij,hl6,hs6⟩|⟨rfl,z6,ns6,j,m,e6,hk6,hp6,he6,hf⟩
      ·obtain ⟨bT,bF,bZ,hTF,hwF,hF6,n1,n2,n3⟩:=HM9.out.b.boxes hTw hR hk6
       have HNx:Hid (ChainZ mulS O R A c l i ns z w T (gk - 1) true (nextW (sets4 w6 w19.heap.size (.int .i64 y.kind) (.int .i64 y.num) (.string y.name) (.slice y.at_ y.args.length y.cap)) T u y x) j (.mk 2 0 (S x) (some ⟨(sets4 w6 w19.heap.size (.int .i64 y.kind) (.int .i64 y.num) (.string y.name) (.slice y.at_ y.args.length y.cap)).heap.size,0,none⟩) 2 [u,y]) z6 ns6 a6 0):=Lib.hid ⟨HM9.out.b.call hTw hR hk6 hp6 x,.inl ⟨rfl,rfl,SideZ.call HM9.out hTw hR hk6 hp6 hs6 HX.out,by have:=HK.out.1;have:=HK.out.2.2.2.2;omega,by
        have e:=(chain_go (ops:=mulS) (O:=O) (x:=u.strip) (ns:=ns1) (show (l.getD q default).2.2∈mulS by rw [HTk.out];exact HXm.out.1) (by rw [HTk.out];exact HXm.out.2.1) HK.out.2.2.2.2).1 _ _ _ hf hij
        rw [HK.out.2.1,e,HTk.out]
        rfl,by have:=HK.out.2.2.1;omega,by have h1:=HK.out.2.2.2.1;simp only [left_length] at h1 hl6 ⊢;omega⟩⟩
       obtain ⟨W7,hW7⟩:∃W7,W7=sets4 w6 w19.heap.size (.int .i64 y.kind) (.int .i64 y.num) (.string y.name) (.slice y.at_ y.args.length y.cap):=⟨_,rfl⟩
       rw [←hW7] at HNx
       have HBT:BoxL W7 T [.int .i64 u.kind,.int .i64 u.num,.string u.name,.slice u.at_ u.args.length u.cap]:=hW7 ▸ bT.other4 (T:=w19.heap.size) (by omega) _ _ _ _
       obtain ⟨m0,m1,m2,m3,_,_,_,_⟩:=HBT.get4
       have o0:=fun o=>(HBT.alloc o).get4.2.2.2.2.1
       have o1:=fun o=>(HBT.alloc o).get4.2.2.2.2.2.1
       have o2:=fun o=>(HBT.alloc o).get4.2.2.2.2.2.2.1
       have o3:=fun o=>(HBT.alloc o).get4.2.2.2.2.2.2.2
       have v0:=fun o=>(HBT.alloc o).get4.1
       have v1:=fun o=>(HBT.alloc o).get4.2.1
       have v2:=fun o=>(HBT.alloc o).get4.2.2.1
       have v3:=fun o=>(HBT.alloc o).get4.2.2.2.1
       clear HBT
       obtain ⟨l0,l1,l2,l3,_,_,_,_⟩:=(hW7 ▸ bF.set4 _ _ _ _:BoxL W7 w19.heap.size [.int .i64 y.kind,.int .i64 y.num,.string y.name,.slice y.at_ y.args.length y.cap]).get4
       have hT7:¬T=W7.heap.size:=by rw [hW7,sets4_size];omega
       clear c0 c1 c2 c3 f0 f1 f2 f3 t0 t1 t2 t3 g0 g1 g2 g3
       obtain ⟨d0,d1,d2,d3,h0,h1,h2,h3⟩:=bF.get4
       have hTF1:¬T=w19.heap.size:=by omega
       have hTF2:¬w19.heap.size=T:=by omega
       have HGk:=Lib.hid (show gk - 1 < gk by have:=HK.out.1;have:=HK.out.2.2.2.2;omega)
       clear bT bF bZ hTF hwF hF6 n1 n2 n3 hk6 hp6 hf hij hl6 hs6
       go_upto_region 7 with (fail)
       have hW8:((((w6.setCell ⟨w19.heap.size,0,none⟩ (.int .i64 y.kind)).setCell ⟨w19.heap.size,1,none⟩ (.int .i64 y.num)).setCell ⟨w19.heap.size,2,none⟩ (.string y.name)).setCell ⟨w19.heap.size,3,none⟩ (.slice y.at_ y.args.length y.cap))=W7:=hW7.symm
       rw [hW8]
       clear hW7 hW8
       go_wp2_with fail
       go_roundg (gk - 1)
       case measure=>exact HGk.out
       case rel=>exact ⟨_,j,_,z6,ns6,_,_,rfl,HNx⟩
      ·obtain ⟨bT,bF,bZ,hTF,hwF,hF6,n1,n2,n3⟩:=HM9.out.b.boxes hTw hR hk6
       have HNx:Hid (ChainZ mulS O R A c l i ns z w T (gk - 1) false (nextW (sets4 w6 w19.heap.size (.int .i64 y.kind) (.int .i64 y.num) (.string y.name) (.slice y.at_ y.args.length y.cap)) T u y x) j (.mk 2 0 (S x) (some ⟨(sets4 w6 w19.heap.size (.int .i64 y.kind) (.int .i64 y.num) (.string y.name) (.slice y.at_ y.args.length y.cap)).heap.size,0,none⟩) 2 [u,y]) z6 ns6 (offT l m) e6):=Lib.hid ⟨HM9.out.b.call hTw hR hk6 hp6 x,.inr ⟨rfl,he6,m,rfl,by
        have e:=(chain_go (ops:=mulS) (O:=O) (x:=u.strip) (ns:=ns1) (show (l.getD q default).2.2∈mulS by rw [HTk.out];exact HXm.out.1) (by rw [HTk.out];exact HXm.out.2.1) HK.out.2.2.2.2).2 _ _ hf
        rw [HK.out.2.1,e]⟩⟩
       obtain ⟨W7,hW7⟩:∃W7,W7=sets4 w6 w19.heap.size (.int .i64 y.kind) (.int .i64 y.num) (.string y.name) (.slice y.at_ y.args.length y.cap):=⟨_,rfl⟩
       rw [←hW7] at HNx
       have HBT:BoxL W7 T [.int .i64 u.kind,.int .i64 u.num,.string u.name,.slice u.at_ u.args.length u.cap]:=hW7 ▸ bT.other4 (T:=w19.heap.size) (by omega) _ _ _ _
       obtain ⟨m0,m1,m2,m3,_,_,_,_⟩:=HBT.get4
       have o0:=fun o=>(HBT.alloc o).get4.2.2.2.2.1
       have o1:=fun o=>(HBT.alloc o).get4.2.2.2.2.2.1
       have o2:=fun o=>(HBT.alloc o).get4.2.2.2.2.2.2.1
       have o3:=fun o=>(HBT.alloc o).get4.2.2.2.2.2.2.2
       have v0:=fun o=>(HBT.alloc o).get4.1
       have v1:=fun o=>(HBT.alloc o).get4.2.1
       have v2:=fun o=>(HBT.alloc o).get4.2.2.1
       have v3:=fun o=>(HBT.alloc o).get4.2.2.2.1
       clear HBT
       obtain ⟨l0,l1,l2,l3,_,_,_,_⟩:=(hW7 ▸ bF.set4 _ _ _ _:BoxL W7 w19.heap.size [.int .i64 y.kind,.int .i64 y.num,.string y.name,.slice y.at_ y.args.length y.cap]).get4
       have hT7:¬T=W7.heap.size:=by rw [hW7,sets4_size];omega
       clear c0 c1 c2 c3 f0 f1 f2 f3 t0 t1 t2 t3 g0 g1 g2 g3
       obtain ⟨d0,d1,d2,d3,h0,h1,h2,h3⟩:=bF.get4
       have hTF1:¬T=w19.heap.size:=by omega
       have hTF2:¬w19.heap.size=T:=by omega
       have HGk:=Lib.hid (show gk - 1 < gk by have:=HK.out.1;have:=HK.out.2.2.2.2;omega)
       clear bT bF bZ hTF hwF hF6 n1 n2 n3 hk6 hp6 hf he6
       go_upto_region 7 with (fail)
       have hW8:((((w6.setCell ⟨w19.heap.size,0,none⟩ (.int .i64 y.kind)).setCell ⟨w19.heap.size,1,none⟩ (.int .i64 y.num)).setCell ⟨w19.heap.size,2,none⟩ (.string y.name)).setCell ⟨w19.heap.size,3,none⟩ (.slice y.at_ y.args.length y.cap))=W7:=hW7.symm
       rw [hW8]
       clear hW7 hW8
       go_wp2_with fail
       go_roundg (gk - 1)
       case measure=>exact HGk.out
       case rel=>exact ⟨_,j,_,z6,ns6,_,_,rfl,HNx⟩
    ·have hxe:x=[47]:=by simpa using X2.out
     have HXm:=Lib.hid (show x∈mulS∧k=4∧x≠[] by
      have hx:x∈mulS:=by rw [hxe];simp [mulS]
      have hk4:k=4:=by
       have:=HG.out.kinds q HK.out.2.2.2.2
       rw [HTk.out] at this
       exact this.trans (mul_kind hx)
      exact ⟨hx,hk4,by rw [hxe];decide⟩)
     clear hxe
     go_wp2_with (first
      | (go_at_call 47;(with_reducible refine (Q1.out _ HM.out.b.p).mono ?_);rintro en w11 ⟨rfl,hb⟩;have HM1:=Lib.hid (HM.out.below hb);clear hb)
      | (go_at_call 47;(with_reducible refine (Q2.out _ HM1.out.b.p).mono ?_);rintro en w12 ⟨rfl,hb⟩;have HM2:=Lib.hid (HM1.out.below hb);clear hb)
      | (go_at_call 27;(with_reducible refine (QT.out _ HM2.out.b.p).mono ?_);rintro en w18 ⟨rfl,hb⟩;have HM8:=Lib.hid (HM2.out.below hb);clear hb)
      | (go_at_call 48;(with_reducible refine (QN.out _ HM8.out.b.p HXm.out.2.2).mono ?_);rintro en w19 ⟨rfl,hk9,hp9⟩;have HM9:=Lib.hid (HM8.out.next hTw hR hk9 hp9);clear hk9 hp9))
     refine (QO.out _ (HM9.out.b.p.alloc _)).mono ?_
     rintro e w6 ⟨y,b,he,ho⟩
     have he2:e=.returned (.tuple #[.agg #[.int .i64 y.kind,.int .i64 y.num,.string y.name,.slice y.at_ y.args.length y.cap],.bool b]):=he
     clear he
     subst he2
     rcases ho with ⟨rfl,z6,ns6,j,a6,hk6,hp6,hf,hij,hl6,hs6⟩|⟨rfl,z6,ns6,j,m,e6,hk6,hp6,he6,hf⟩
     ·obtain ⟨bT,bF,bZ,hTF,hwF,hF6,n1,n2,n3⟩:=HM9.out.b.boxes hTw hR hk6
      have HNx:Hid (ChainZ mulS O R A c l i ns z w T (gk - 1) true (nextW (sets4 w6 w19.heap.size (.int .i64 y.kind) (.int .i64 y.num) (.string y.name) (.slice y.at_ y.args.length y.cap)) T u y x) j (.mk 2 0 (S x) (some ⟨(sets4 w6 w19.heap.size (.int .i64 y.kind) (.int .i64 y.num) (.string y.name) (.slice y.at_ y.args.length y.cap)).heap.size,0,none⟩) 2 [u,y]) z6 ns6 a6 0):=Lib.hid ⟨HM9.out.b.call hTw hR hk6 hp6 x,.inl ⟨rfl,rfl,SideZ.call HM9.out hTw hR hk6 hp6 hs6 HX.out,by have:=HK.out.1;have:=HK.out.2.2.2.2;omega,by
       have e:=(chain_go (ops:=mulS) (O:=O) (x:=u.strip) (ns:=ns1) (show (l.getD q default).2.2∈mulS by rw [HTk.out];exact HXm.out.1) (by rw [HTk.out];exact HXm.out.2.1) HK.out.2.2.2.2).1 _ _ _ hf hij
       rw [HK.out.2.1,e,HTk.out]
       rfl,by have:=HK.out.2.2.1;omega,by have h1:=HK.out.2.2.2.1;simp only [left_length] at h1 hl6 ⊢;omega⟩⟩
      obtain ⟨W7,hW7⟩:∃W7,W7=sets4 w6 w19.heap.size (.int .i64 y.kind) (.int .i64 y.num) (.string y.name) (.slice y.at_ y.args.length y.cap):=⟨_,rfl⟩
      rw [←hW7] at HNx
      have HBT:BoxL W7 T [.int .i64 u.kind,.int .i64 u.num,.string u.name,.slice u.at_ u.args.length u.cap]:=hW7 ▸ bT.other4 (T:=w19.heap.size) (by omega) _ _ _ _
      obtain ⟨m0,m1,m2,m3,_,_,_,_⟩:=HBT.get4
      have o0:=fun o=>(HBT.alloc o).get4.2.2.2.2.1
      have o1:=fun o=>(HBT.alloc o).get4.2.2.2.2.2.1
      have o2:=fun o=>(HBT.alloc o).get4.2.2.2.2.2.2.1
      have o3:=fun o=>(HBT.alloc o).get4.2.2.2.2.2.2.2
      have v0:=fun o=>(HBT.alloc o).get4.1
      have v1:=fun o=>(HBT.alloc o).get4.2.1
      have v2:=fun o=>(HBT.alloc o).get4.2.2.1
      have v3:=fun o=>(HBT.alloc o).get4.2.2.2.1
      clear HBT
      obtain ⟨l0,l1,l2,l3,_,_,_,_⟩:=(hW7 ▸ bF.set4 _ _ _ _:BoxL W7 w19.heap.size [.int .i64 y.kind,.int .i64 y.num,.string y.name,.slice y.at_ y.args.length y.cap]).get4
      have hT7:¬T=W7.heap.size:=by rw [hW7,sets4_size];omega
      clear c0 c1 c2 c3 f0 f1 f2 f3 t0 t1 t2 t3 g0 g1 g2 g3
      obtain ⟨d0,d1,d2,d3,h0,h1,h2,h3⟩:=bF.get4
      have hTF1:¬T=w19.heap.size:=by omega
      have hTF2:¬w19.heap.size=T:=by omega
      have HGk:=Lib.hid (show gk - 1 < gk by have:=HK.out.1;have:=HK.out.2.2.2.2;omega)
      clear bT bF bZ hTF hwF hF6 n1 n2 n3 hk6 hp6 hf hij hl6 hs6
      go_upto_region 7 with (fail)
      have hW8:((((w6.setCell ⟨w19.heap.size,0,none⟩ (.int .i64 y.kind)).setCell ⟨w19.heap.size,1,none⟩ (.int .i64 y.num)).setCell ⟨w19.heap.size,2,none⟩ (.string y.name)).setCell ⟨w19.heap.size,3,none⟩ (.slice y.at_ y.args.length y.cap))=W7:=hW7.symm
      rw [hW8]
      clear hW7 hW8
      go_wp2_with fail
      go_roundg (gk - 1)
      case measure=>exact HGk.out
      case rel=>exact ⟨_,j,_,z6,ns6,_,_,rfl,HNx⟩
     ·obtain ⟨bT,bF,bZ,hTF,hwF,hF6,n1,n2,n3⟩:=HM9.out.b.boxes hTw hR hk6
      have HNx:Hid (ChainZ mulS O R A c l i ns z w T (gk - 1) false (nextW (sets4 w6 w19.heap.size (.int .i64 y.kind) (.int .i64 y.num) (.string y.name) (.slice y.at_ y.args.length y.cap)) T u y x) j (.mk 2 0 (S x) (some ⟨(sets4 w6 w19.heap.size (.int .i64 y.kind) (.int .i64 y.num) (.string y.name) (.slice y.at_ y.args.length y.cap)).heap.size,0,none⟩) 2 [u,y]) z6 ns6 (offT l m) e6):=Lib.hid ⟨HM9.out.b.call hTw hR hk6 hp6 x,.inr ⟨rfl,he6,m,rfl,by
       have e:=(chain_go (ops:=mulS) (O:=O) (x:=u.strip) (ns:=ns1) (show (l.getD q default).2.2∈mulS by rw [HTk.out];exact HXm.out.1) (by rw [HTk.out];exact HXm.out.2.1) HK.out.2.2.2.2).2 _ _ hf
       rw [HK.out.2.1,e]⟩⟩
      obtain ⟨W7,hW7⟩:∃W7,W7=sets4 w6 w19.heap.size (.int .i64 y.kind) (.int .i64 y.num) (.string y.name) (.slice y.at_ y.args.length y.cap):=⟨_,rfl⟩
      rw [←hW7] at HNx
      have HBT:BoxL W7 T [.int .i64 u.kind,.int .i64 u.num,.string u.name,.slice u.at_ u.args.length u.cap]:=hW7 ▸ bT.other4 (T:=w19.heap.size) (by omega) _ _ _ _
      obtain ⟨m0,m1,m2,m3,_,_,_,_⟩:=HBT.get4
      have o0:=fun o=>(HBT.alloc o).get4.2.2.2.2.1
      have o1:=fun o=>(HBT.alloc o).get4.2.2.2.2.2.1
      have o2:=fun o=>(HBT.alloc o).get4.2.2.2.2.2.2.1
      have o3:=fun o=>(HBT.alloc o).get4.2.2.2.2.2.2.2
      have v0:=fun o=>(HBT.alloc o).get4.1
      have v1:=fun o=>(HBT.alloc o).get4.2.1
      have v2:=fun o=>(HBT.alloc o).get4.2.2.1
      have v3:=fun o=>(HBT.alloc o).get4.2.2.2.1
      clear HBT
      obtain ⟨l0,l1,l2,l3,_,_,_,_⟩:=(hW7 ▸ bF.set4 _ _ _ _:BoxL W7 w19.heap.size [.int .i64 y.kind,.int .i64 y.num,.string y.name,.slice y.at_ y.args.length y.cap]).get4
      have hT7:¬T=W7.heap.size:=by rw [hW7,sets4_size];omega
      clear c0 c1 c2 c3 f0 f1 f2 f3 t0 t1 t2 t3 g0 g1 g2 g3
      obtain ⟨d0,d1,d2,d3,h0,h1,h2,h3⟩:=bF.get4
      have hTF1:¬T=w19.heap.size:=by omega
      have hTF2:¬w19.heap.size=T:=by omega
      have HGk:=Lib.hid (show gk - 1 < gk by have:=HK.out.1;have:=HK.out.2.2.2.2;omega)
      clear bT bF bZ hTF hwF hF6 n1 n2 n3 hk6 hp6 hf he6
      go_upto_region 7 with (fail)
      have hW8:((((w6.setCell ⟨w19.heap.size,0,none⟩ (.int .i64 y.kind)).setCell ⟨w19.heap.size,1,none⟩ (.int .i64 y.num)).setCell ⟨w19.heap.size,2,none⟩ (.string y.name)).setCell ⟨w19.heap.size,3,none⟩ (.slice y.at_ y.args.length y.cap))=W7:=hW7.symm
      rw [hW8]
      clear hW7 hW8
      go_wp2_with fail
      go_roundg (gk - 1)
      case measure=>exact HGk.out
      case rel=>exact ⟨_,j,_,z6,ns6,_,_,rfl,HNx⟩
   ·have hxe:x=[42]:=by simpa using X1.out
    have HXm:=Lib.hid (show x∈mulS∧k=4∧x≠[] by
     have hx:x∈mulS:=by rw [hxe];simp [mulS]
     have hk4:k=4:=by
      have:=HG.out.kinds q HK.out.2.2.2.2
      rw [HTk.out] at this
      exact this.trans (mul_kind hx)
     exact ⟨hx,hk4,by rw [hxe];decide⟩)
    clear hxe
    go_wp2_with (first
     | (go_at_call 47;(with_reducible refine (Q1.out _ HM.out.b.p).mono ?_);rintro en w11 ⟨rfl,hb⟩;have HM1:=Lib.hid (HM.out.below hb);clear hb)
     | (go_at_call 27;(with_reducible refine (QT.out _ HM1.out.b.p).mono ?_);rintro en w18 ⟨rfl,hb⟩;have HM8:=Lib.hid (HM1.out.below hb);clear hb)
     | (go_at_call 48;(with_reducible refine (QN.out _ HM8.out.b.p HXm.out.2.2).mono ?_);rintro en w19 ⟨rfl,hk9,hp9⟩;have HM9:=Lib.hid (HM8.out.next hTw hR hk9 hp9);clear hk9 hp9))
    refine (QO.out _ (HM9.out.b.p.alloc _)).mono ?_
    rintro e w6 ⟨y,b,he,ho⟩
    have he2:e=.returned (.tuple #[.agg #[.int .i64 y.kind,.int .i64 y.num,.string y.name,.slice y.at_ y.args.length y.cap],.bool b]):=he
    clear he
    subst he2
    rcases ho with ⟨rfl,z6,ns6,j,a6,hk6,hp6,hf,hij,hl6,hs6⟩|⟨rfl,z6,ns6,j,m,e6,hk6,hp6,he6,hf⟩
    ·obtain ⟨bT,bF,bZ,hTF,hwF,hF6,n1,n2,n3⟩:=HM9.out.b.boxes hTw hR hk6
     have HNx:Hid (ChainZ mulS O R A c l i ns z w T (gk - 1) true (nextW (sets4 w6 w19.heap.size (.int .i64 y.kind) (.int .i64 y.num) (.string y.name) (.slice y.at_ y.args.length y.cap)) T u y x) j (.mk 2 0 (S x) (some ⟨(sets4 w6 w19.heap.size (.int .i64 y.kind) (.int .i64 y.num) (.string y.name) (.slice y.at_ y.args.length y.cap)).heap.size,0,none⟩) 2 [u,y]) z6 ns6 a6 0):=Lib.hid ⟨HM9.out.b.call hTw hR hk6 hp6 x,.inl ⟨rfl,rfl,SideZ.call HM9.out hTw hR hk6 hp6 hs6 HX.out,by have:=HK.out.1;have:=HK.out.2.2.2.2;omega,by
      have e:=(chain_go (ops:=mulS) (O:=O) (x:=u.strip) (ns:=ns1) (show (l.getD q default).2.2∈mulS by rw [HTk.out];exact HXm.out.1) (by rw [HTk.out];exact HXm.out.2.1) HK.out.2.2.2.2).1 _ _ _ hf hij
      rw [HK.out.2.1,e,HTk.out]
      rfl,by have:=HK.out.2.2.1;omega,by have h1:=HK.out.2.2.2.1;simp only [left_length] at h1 hl6 ⊢;omega⟩⟩
     obtain ⟨W7,hW7⟩:∃W7,W7=sets4 w6 w19.heap.size (.int .i64 y.kind) (.int .i64 y.num) (.string y.name) (.slice y.at_ y.args.length y.cap):=⟨_,rfl⟩
     rw [←hW7] at HNx
     have HBT:BoxL W7 T [.int .i64 u.kind,.int .i64 u.num,.string u.name,.slice u.at_ u.args.length u.cap]:=hW7 ▸ bT.other4 (T:=w19.heap.size) (by omega) _ _ _ _
     obtain ⟨m0,m1,m2,m3,_,_,_,_⟩:=HBT.get4
     have o0:=fun o=>(HBT.alloc o).get4.2.2.2.2.1
     have o1:=fun o=>(HBT.alloc o).get4.2.2.2.2.2.1
     have o2:=fun o=>(HBT.alloc o).get4.2.2.2.2.2.2.1
     have o3:=fun o=>(HBT.alloc o).get4.2.2.2.2.2.2.2
     have v0:=fun o=>(HBT.alloc o).get4.1
     have v1:=fun o=>(HBT.alloc o).get4.2.1
     have v2:=fun o=>(HBT.alloc o).get4.2.2.1
     have v3:=fun o=>(HBT.alloc o).get4.2.2.2.1
     clear HBT
     obtain ⟨l0,l1,l2,l3,_,_,_,_⟩:=(hW7 ▸ bF.set4 _ _ _ _:BoxL W7 w19.heap.size [.int .i64 y.kind,.int .i64 y.num,.string y.name,.slice y.at_ y.args.length y.cap]).get4
     have hT7:¬T=W7.heap.size:=by rw [hW7,sets4_size];omega
     clear c0 c1 c2 c3 f0 f1 f2 f3 t0 t1 t2 t3 g0 g1 g2 g3
     obtain ⟨d0,d1,d2,d3,h0,h1,h2,h3⟩:=bF.get4
     have hTF1:¬T=w19.heap.size:=by omega
     have hTF2:¬w19.heap.size=T:=by omega
     have HGk:=Lib.hid (show gk - 1 < gk by have:=HK.out.1;have:=HK.out.2.2.2.2;omega)
     clear bT bF bZ hTF hwF hF6 n1 n2 n3 hk6 hp6 hf hij hl6 hs6
     go_upto_region 7 with (fail)
     have hW8:((((w6.setCell ⟨w19.heap.size,0,none⟩ (.int .i64 y.kind)).setCell ⟨w19.heap.size,1,none⟩ (.int .i64 y.num)).setCell ⟨w19.heap.size,2,none⟩ (.string y.name)).setCell ⟨w19.heap.size,3,none⟩ (.slice y.at_ y.args.length y.cap))=W7:=hW7.symm
     rw [hW8]
     clear hW7 hW8
     go_wp2_with fail
     go_roundg (gk - 1)
     case measure=>exact HGk.out
     case rel=>exact ⟨_,j,_,z6,ns6,_,_,rfl,HNx⟩
    ·obtain ⟨bT,bF,bZ,hTF,hwF,hF6,n1,n2,n3⟩:=HM9.out.b.boxes hTw hR hk6
     have HNx:Hid (ChainZ mulS O R A c l i ns z w T (gk - 1) false (nextW (sets4 w6 w19.heap.size (.int .i64 y.kind) (.int .i64 y.num) (.string y.name) (.slice y.at_ y.args.length y.cap)) T u y x) j (.mk 2 0 (S x) (some ⟨(sets4 w6 w19.heap.size (.int .i64 y.kind) (.int .i64 y.num) (.string y.name) (.slice y.at_ y.args.length y.cap)).heap.size,0,none⟩) 2 [u,y]) z6 ns6 (offT l m) e6):=Lib.hid ⟨HM9.out.b.call hTw hR hk6 hp6 x,.inr ⟨rfl,he6,m,rfl,by
      have e:=(chain_go (ops:=mulS) (O:=O) (x:=u.strip) (ns:=ns1) (show (l.getD q default).2.2∈mulS by rw [HTk.out];exact HXm.out.1) (by rw [HTk.out];exact HXm.out.2.1) HK.out.2.2.2.2).2 _ _ hf
      rw [HK.out.2.1,e]⟩⟩
     obtain ⟨W7,hW7⟩:∃W7,W7=sets4 w6 w19.heap.size (.int .i64 y.kind) (.int .i64 y.num) (.string y.name) (.slice y.at_ y.args.length y.cap):=⟨_,rfl⟩
     rw [←hW7] at HNx
     have HBT:BoxL W7 T [.int .i64 u.kind,.int .i64 u.num,.string u.name,.slice u.at_ u.args.length u.cap]:=hW7 ▸ bT.other4 (T:=w19.heap.size) (by omega) _ _ _ _
     obtain ⟨m0,m1,m2,m3,_,_,_,_⟩:=HBT.get4
     have o0:=fun o=>(HBT.alloc o).get4.2.2.2.2.1
     have o1:=fun o=>(HBT.alloc o).get4.2.2.2.2.2.1
     have o2:=fun o=>(HBT.alloc o).get4.2.2.2.2.2.2.1
     have o3:=fun o=>(HBT.alloc o).get4.2.2.2.2.2.2.2
     have v0:=fun o=>(HBT.alloc o).get4.1
     have v1:=fun o=>(HBT.alloc o).get4.2.1
     have v2:=fun o=>(HBT.alloc o).get4.2.2.1
     have v3:=fun o=>(HBT.alloc o).get4.2.2.2.1
     clear HBT
     obtain ⟨l0,l1,l2,l3,_,_,_,_⟩:=(hW7 ▸ bF.set4 _ _ _ _:BoxL W7 w19.heap.size [.int .i64 y.kind,.int .i64 y.num,.string y.name,.slice y.at_ y.args.length y.cap]).get4
     have hT7:¬T=W7.heap.size:=by rw [hW7,sets4_size];omega
     clear c0 c1 c2 c3 f0 f1 f2 f3 t0 t1 t2 t3 g0 g1 g2 g3
     obtain ⟨d0,d1,d2,d3,h0,h1,h2,h3⟩:=bF.get4
     have hTF1:¬T=w19.heap.size:=by omega
     have hTF2:¬w19.heap.size=T:=by omega
     have HGk:=Lib.hid (show gk - 1 < gk by have:=HK.out.1;have:=HK.out.2.2.2.2;omega)
     clear bT bF bZ hTF hwF hF6 n1 n2 n3 hk6 hp6 hf he6
     go_upto_region 7 with (fail)
     have hW8:((((w6.setCell ⟨w19.heap.size,0,none⟩ (.int .i64 y.kind)).setCell ⟨w19.heap.size,1,none⟩ (.int .i64 y.num)).setCell ⟨w19.heap.size,2,none⟩ (.string y.name)).setCell ⟨w19.heap.size,3,none⟩ (.slice y.at_ y.args.length y.cap))=W7:=hW7.symm
     rw [hW8]
     clear hW7 hW8
     go_wp2_with fail
     go_roundg (gk - 1)
     case measure=>exact HGk.out
     case rel=>exact ⟨_,j,_,z6,ns6,_,_,rfl,HNx⟩
  ·have HV:=Lib.hid (And.intro her (And.intro ha hV))
   clear her ha hV
   go_wp2_with fail
   refine bodyPost_ret (v:=.tuple #[.agg #[.int .i64 u.kind,.int .i64 u.num,.string u.name,.slice u.at_ u.args.length u.cap],.bool false]) (by simp [results,Tryz.results110,go_sem,c0,c1,c2,c3]) rfl ?_
   obtain ⟨e1,e2⟩:=endz4 hR hI.out.b.k hI.out.b.p hI.out.b.zw (.int .i64 u.kind) (.int .i64 u.num) (.string u.name) (.slice u.at_ u.args.length u.cap)
   exact ⟨u,false,rfl,.inr ⟨rfl,z1,ns1,q,m,er,e1,by rw [←HV.out.2.1];exact e2,HV.out.1,HV.out.2.2⟩⟩
end Go.Proofs.YtaojnljppcnhjaaGreatDoor
namespace Go.Proofs.YtaojnljppcnhjaaGreatDoor
open Go.RowKit
section
variable {w:World} {R:Nat} {A:Option Addr} {c:Nat} {l:List Tk} {i:Nat} {z:Value} {ns:List (List UInt8)} {at_:Nat} {er:Int}
set_option maxHeartbeats 4000000 in
set_option maxRecDepth 10000 in
theorem cmp_z (hg:GoodT l) (h:Pr w R A c l i z ns at_ er) :
  Calls Tryz.prog 89 #[.pointer (some ⟨R,0,none⟩)] w fun en w'=>en=.returned (.tuple #[.int .i64 (opT (l.getD i default).2.2).1,.bool (opT (l.getD i default).2.2).2])∧Below w.heap.size w w':=by
 obtain ⟨t,ht⟩:∃t,l.getD i default=t:=⟨_,rfl⟩
 obtain ⟨k,p,x⟩:=t
 have HKd:=Lib.hid (show k=kindO x by have:=hg.kinds i h.ilt;rw [ht] at this;exact this)
 have QW:=Lib.hid (fun b (hb:isT 1 [105,115] (l.getD i default)=b)=>(hb ▸ r_word_at h [105,115]:Calls Tryz.prog 25 #[.pointer (some ⟨R,0,none⟩),.string (S [105,115])] w fun en w'=>en=.returned (.bool b)∧Below w.heap.size w w'))
 have QT:=Lib.hid (fun W (hb:Below w.heap.size w W)=>r_tok_of (h.below hb) ht)
 have fk:=tok_kind k (p:Int) (S x)
 have ft:=tok_text k (p:Int) (S x)
 have HT:=Lib.hid ht
 clear h hg
 rw [ht]
 clear ht
 by_cases hi:x=[105,115]
 ·have hk1:k=1:=by rw [HKd.out,hi];rfl
  subst hi
  subst hk1
  have Q:=Lib.hid (QW.out true (by rw [HT.out];rfl))
  clear QW
  go_enter Tryz.func89,Tryz.ntmps89
  go_wp2_with (go_at_call 25;(with_reducible refine Q.out.mono ?_);rintro en w1 ⟨rfl,hb1⟩;have H1:=Lib.hid hb1;clear hb1)
  refine bodyPost_ret (v:=.tuple #[.int .i64 4,.bool false]) (by simp [results,Tryz.results89,go_sem]) rfl ⟨rfl,H1.out⟩
 have Q:=Lib.hid (QW.out false (by rw [HT.out];simp [isT,hi]))
 clear QW
 have HI:=Lib.hid hi
 by_cases hk:k=4
 ·subst hk
  by_cases h0:x=[61]
  ·subst h0
   clear hi
   go_enter Tryz.func89,Tryz.ntmps89
   go_wp2_with (first
     | (go_at_call 25;(with_reducible refine Q.out.mono ?_);rintro en w1 ⟨rfl,hb1⟩;have H1:=Lib.hid hb1;clear hb1 Q)
     | (go_at_call 27;(with_reducible refine (QT.out _ H1.out).mono ?_);rintro en w2 ⟨rfl,hb2⟩;have H2:=Lib.hid (H1.out.trans (hb2.mono H1.out.size));clear hb2 H1)
     | (go_at_call 27;(with_reducible refine (QT.out _ H2.out).mono ?_);rintro en w3 ⟨rfl,hb3⟩;have H3:=Lib.hid (H2.out.trans (hb3.mono H2.out.size));clear hb3 H2))
   refine bodyPost_ret (v:=.tuple #[.int .i64 3,.bool false]) (by simp [results,Tryz.results89,go_sem]) rfl ⟨rfl,H3.out⟩
  have d0:(x==[61])=false:=by simpa using h0
  by_cases h1:x=[61,61]
  ·subst h1
   clear hi
   go_enter Tryz.func89,Tryz.ntmps89
   go_wp2_with (first
     | (go_at_call 25;(with_reducible refine Q.out.mono ?_);rintro en w1 ⟨rfl,hb1⟩;have H1:=Lib.hid hb1;clear hb1 Q)
     | (go_at_call 27;(with_reducible refine (QT.out _ H1.out).mono ?_);rintro en w2 ⟨rfl,hb2⟩;have H2:=Lib.hid (H1.out.trans (hb2.mono H1.out.size));clear hb2 H1)
     | (go_at_call 27;(with_reducible refine (QT.out _ H2.out).mono ?_);rintro en w3 ⟨rfl,hb3⟩;have H3:=Lib.hid (H2.out.trans (hb3.mono H2.out.size));clear hb3 H2))
   refine bodyPost_ret (v:=.tuple #[.int .i64 5,.bool false]) (by simp [results,Tryz.results89,go_sem]) rfl ⟨rfl,H3.out⟩
  have d1:(x==[61,61])=false:=by simpa using h1
  by_cases h2:x=[92,61]
  ·subst h2
   clear hi
   go_enter Tryz.func89,Tryz.ntmps89
   go_wp2_with (first
     | (go_at_call 25;(with_reducible refine Q.out.mono ?_);rintro en w1 ⟨rfl,hb1⟩;have H1:=Lib.hid hb1;clear hb1 Q)
     | (go_at_call 27;(with_reducible refine (QT.out _ H1.out).mono ?_);rintro en w2 ⟨rfl,hb2⟩;have H2:=Lib.hid (H1.out.trans (hb2.mono H1.out.size));clear hb2 H1)
     | (go_at_call 27;(with_reducible refine (QT.out _ H2.out).mono ?_);rintro en w3 ⟨rfl,hb3⟩;have H3:=Lib.hid (H2.out.trans (hb3.mono H2.out.size));clear hb3 H2))
   refine bodyPost_ret (v:=.tuple #[.int .i64 6,.bool false]) (by simp [results,Tryz.results89,go_sem]) rfl ⟨rfl,H3.out⟩
  have d2:(x==[92,61])=false:=by simpa using h2
  by_cases h3:x=[60]
  ·subst h3
   clear hi
   go_enter Tryz.func89,Tryz.ntmps89
   go_wp2_with (first
     | (go_at_call 25;(with_reducible refine Q.out.mono ?_);rintro en w1 ⟨rfl,hb1⟩;have H1:=Lib.hid hb1;clear hb1 Q)
     | (go_at_call 27;(with_reducible refine (QT.out _ H1.out).mono ?_);rintro en w2 ⟨rfl,hb2⟩;have H2:=Lib.hid (H1.out.trans (hb2.mono H1.out.size));clear hb2 H1)
     | (go_at_call 27;(with_reducible refine (QT.out _ H2.out).mono ?_);rintro en w3 ⟨rfl,hb3⟩;have H3:=Lib.hid (H2.out.trans (hb3.mono H2.out.size));clear hb3 H2))
   refine bodyPost_ret (v:=.tuple #[.int .i64 7,.bool false]) (by simp [results,Tryz.results89,go_sem]) rfl ⟨rfl,H3.out⟩
  have d3:(x==[60])=false:=by simpa using h3
  by_cases h4:x=[61,60]
  ·subst h4
   clear hi
   go_enter Tryz.func89,Tryz.ntmps89
   go_wp2_with (first
     | (go_at_call 25;(with_reducible refine Q.out.mono ?_);rintro en w1 ⟨rfl,hb1⟩;have H1:=Lib.hid hb1;clear hb1 Q)
     | (go_at_call 27;(with_reducible refine (QT.out _ H1.out).mono ?_);rintro en w2 ⟨rfl,hb2⟩;have H2:=Lib.hid (H1.out.trans (hb2.mono H1.out.size));clear hb2 H1)
     | (go_at_call 27;(with_reducible refine (QT.out _ H2.out).mono ?_);rintro en w3 ⟨rfl,hb3⟩;have H3:=Lib.hid (H2.out.trans (hb3.mono H2.out.size));clear hb3 H2))
   refine bodyPost_ret (v:=.tuple #[.int .i64 8,.bool false]) (by simp [results,Tryz.results89,go_sem]) rfl ⟨rfl,H3.out⟩
  have d4:(x==[61,60])=false:=by simpa using h4
  by_cases h5:x=[62]
  ·subst h5
   clear hi
   go_enter Tryz.func89,Tryz.ntmps89
   go_wp2_with (first
     | (go_at_call 25;(with_reducible refine Q.out.mono ?_);rintro en w1 ⟨rfl,hb1⟩;have H1:=Lib.hid hb1;clear hb1 Q)
     | (go_at_call 27;(with_reducible refine (QT.out _ H1.out).mono ?_);rintro en w2 ⟨rfl,hb2⟩;have H2:=Lib.hid (H1.out.trans (hb2.mono H1.out.size));clear hb2 H1)
     | (go_at_call 27;(with_reducible refine (QT.out _ H2.out).mono ?_);rintro en w3 ⟨rfl,hb3⟩;have H3:=Lib.hid (H2.out.trans (hb3.mono H2.out.size));clear hb3 H2))
   refine bodyPost_ret (v:=.tuple #[.int .i64 7,.bool true]) (by simp [results,Tryz.results89,go_sem]) rfl ⟨rfl,H3.out⟩
  have d5:(x==[62])=false:=by simpa using h5
  by_cases h6:x=[62,61]
  ·subst h6
   clear hi
   go_enter Tryz.func89,Tryz.ntmps89
   go_wp2_with (first
     | (go_at_call 25;(with_reducible refine Q.out.mono ?_);rintro en w1 ⟨rfl,hb1⟩;have H1:=Lib.hid hb1;clear hb1 Q)
     | (go_at_call 27;(with_reducible refine (QT.out _ H1.out).mono ?_);rintro en w2 ⟨rfl,hb2⟩;have H2:=Lib.hid (H1.out.trans (hb2.mono H1.out.size));clear hb2 H1)
     | (go_at_call 27;(with_reducible refine (QT.out _ H2.out).mono ?_);rintro en w3 ⟨rfl,hb3⟩;have H3:=Lib.hid (H2.out.trans (hb3.mono H2.out.size));clear hb3 H2))
   refine bodyPost_ret (v:=.tuple #[.int .i64 8,.bool true]) (by simp [results,Tryz.results89,go_sem]) rfl ⟨rfl,H3.out⟩
  have d6:(x==[62,61])=false:=by simpa using h6
  by_cases h7:x=[61,58,61]
  ·subst h7
   clear hi
   go_enter Tryz.func89,Tryz.ntmps89
   go_wp2_with (first
     | (go_at_call 25;(with_reducible refine Q.out.mono ?_);rintro en w1 ⟨rfl,hb1⟩;have H1:=Lib.hid hb1;clear hb1 Q)
     | (go_at_call 27;(with_reducible refine (QT.out _ H1.out).mono ?_);rintro en w2 ⟨rfl,hb2⟩;have H2:=Lib.hid (H1.out.trans (hb2.mono H1.out.size));clear hb2 H1)
     | (go_at_call 27;(with_reducible refine (QT.out _ H2.out).mono ?_);rintro en w3 ⟨rfl,hb3⟩;have H3:=Lib.hid (H2.out.trans (hb3.mono H2.out.size));clear hb3 H2))
   refine bodyPost_ret (v:=.tuple #[.int .i64 9,.bool false]) (by simp [results,Tryz.results89,go_sem]) rfl ⟨rfl,H3.out⟩
  have d7:(x==[61,58,61])=false:=by simpa using h7
  by_cases h8:x=[61,92,61]
  ·subst h8
   clear hi
   go_enter Tryz.func89,Tryz.ntmps89
   go_wp2_with (first
     | (go_at_call 25;(with_reducible refine Q.out.mono ?_);rintro en w1 ⟨rfl,hb1⟩;have H1:=Lib.hid hb1;clear hb1 Q)
     | (go_at_call 27;(with_reducible refine (QT.out _ H1.out).mono ?_);rintro en w2 ⟨rfl,hb2⟩;have H2:=Lib.hid (H1.out.trans (hb2.mono H1.out.size));clear hb2 H1)
     | (go_at_call 27;(with_reducible refine (QT.out _ H2.out).mono ?_);rintro en w3 ⟨rfl,hb3⟩;have H3:=Lib.hid (H2.out.trans (hb3.mono H2.out.size));clear hb3 H2))
   refine bodyPost_ret (v:=.tuple #[.int .i64 10,.bool false]) (by simp [results,Tryz.results89,go_sem]) rfl ⟨rfl,H3.out⟩
  have d8:(x==[61,92,61])=false:=by simpa using h8
  have HOp:=Lib.hid (show opT x=(0,false) by unfold opT;simp [hi,h0,h1,h2,h3,h4,h5,h6,h7,h8])
  clear hi h0 h1 h2 h3 h4 h5 h6 h7 h8
  have hop:=HOp.out
  generalize opT x=y at *
  subst hop
  go_enter Tryz.func89,Tryz.ntmps89
  go_wp2_with (first
    | (go_at_call 25;(with_reducible refine Q.out.mono ?_);rintro en w1 ⟨rfl,hb1⟩;have H1:=Lib.hid hb1;clear hb1 Q)
    | (go_at_call 27;(with_reducible refine (QT.out _ H1.out).mono ?_);rintro en w2 ⟨rfl,hb2⟩;have H2:=Lib.hid (H1.out.trans (hb2.mono H1.out.size));clear hb2 H1)
    | (go_at_call 27;(with_reducible refine (QT.out _ H2.out).mono ?_);rintro en w3 ⟨rfl,hb3⟩;have H3:=Lib.hid (H2.out.trans (hb3.mono H2.out.size));clear hb3 H2))
  refine bodyPost_ret (v:=.tuple #[.int .i64 0,.bool false]) (by simp [results,Tryz.results89,go_sem]) rfl ⟨rfl,H3.out⟩
 ·have hk2:(k != 4)=true:=by simpa using hk
  have HOp:=Lib.hid (show opT x=(0,false) by
   unfold opT
   rw [HKd.out] at hk
   rw [if_neg (fun e=>hk (by rw [e];rfl)),if_neg HI.out]
   iterate 8 rw [if_neg (fun e=>hk (by rw [e];rfl))])
  clear hi hk
  have hop:=HOp.out
  generalize opT x=y at *
  subst hop
  go_enter Tryz.func89,Tryz.ntmps89
  go_wp2_with (first
    | (go_at_call 25;(with_reducible refine Q.out.mono ?_);rintro en w1 ⟨rfl,hb1⟩;have H1:=Lib.hid hb1;clear hb1 Q)
    | (go_at_call 27;(with_reducible refine (QT.out _ H1.out).mono ?_);rintro en w2 ⟨rfl,hb2⟩;have H2:=Lib.hid (H1.out.trans (hb2.mono H1.out.size));clear hb2 H1)
    | (go_at_call 27;(with_reducible refine (QT.out _ H2.out).mono ?_);rintro en w3 ⟨rfl,hb3⟩;have H3:=Lib.hid (H2.out.trans (hb3.mono H2.out.size));clear hb3 H2))
  refine bodyPost_ret (v:=.tuple #[.int .i64 0,.bool false]) (by simp [results,Tryz.results89,go_sem]) rfl ⟨rfl,H2.out⟩
end
end Go.Proofs.YtaojnljppcnhjaaGreatDoor
namespace Go.Proofs.YtaojnljppcnhjaaGreatDoor
open Go.RowKit
section
variable {R:Nat} {A:Option Addr} {c:Nat} {l:List Tk}
theorem exprs_z (hg:GoodT l):∀n,ExprZ R A c l n (exprS n)
 | 0=>fun i z ns at_ w h hn=>absurd hn (by rw [left_length];have:=h.ilt;omega)
 | n+1=>fun i z ns at_ w h hn hns=>expr_z hg (n:=n+1) (fun i z ns at_ w h hn hns=>product_z hg (n:=n+1) (fun i z ns at_ w h hn hns=>opnd_z hg (exprs_z hg n) i z ns at_ w h hn hns) i z ns at_ w h hn hns) i z ns at_ w h hn hns
end
section
variable {w W w':World} {R:Nat} {A:Option Addr} {c:Nat} {l:List Tk} {i j:Nat} {z z':Value} {ns:List (List UInt8)} {at_:Nat} {er:Int} {T:Nat} {vs:List Value}
abbrev sets3 (w:World) (T:Nat) (v0 v1 v2:Value):World:=((w.setCell ⟨T,0,none⟩ v0).setCell ⟨T,1,none⟩ v1).setCell ⟨T,2,none⟩ v2
theorem endz3 (hR:R < w.heap.size) (hk:Kp R z z' w W) (hp:Pr W R A c l j z' ns at_ er) (hz:z'.ownBlock≠some w.heap.size) (v0 v1 v2:Value) :
  Kp R z z' w (sets3 W w.heap.size v0 v1 v2)∧Pr (sets3 W w.heap.size v0 v1 v2) R A c l j z' ns at_ er :=
 ⟨((hk.put (p:=⟨w.heap.size,0,none⟩) (Nat.le_refl _) _).put (p:=⟨w.heap.size,1,none⟩) (Nat.le_refl _) _).put (p:=⟨w.heap.size,2,none⟩) (Nat.le_refl _) _,
  ((hp.store (p:=⟨w.heap.size,0,none⟩) hR hz _).store (p:=⟨w.heap.size,1,none⟩) hR hz _).store (p:=⟨w.heap.size,2,none⟩) hR hz _⟩
theorem SitZ.end3 {α:Type} {E:Elt α} {lo T:Nat} {L:List α} (h:SitZ E lo z W L) (hlo:T < lo) (v0 v1 v2:Value):SitZ E T z (sets3 W T v0 v1 v2) L :=
 have hT:T∉E.blkL L:=fun hx=>by have:=(h.bd _ hx).1;omega
 (((h.low (Nat.le_of_lt hlo)).put (p:=⟨T,0,none⟩) hT _).put (p:=⟨T,1,none⟩) hT _).put (p:=⟨T,2,none⟩) hT _
theorem sitz_goal {lo b c:Nat} {op:Int} {s:ByteArray} {L:List Tm} (h:SitZ elTm lo z W L) (hb:Below W.heap.size W w') (hl:Lst w' (some ⟨b,0,none⟩) L c) (hb1:lo≤b) (hb2:b < w'.heap.size) (hz:z.ownBlock≠some b) (ho:Fits op) (hs:s.size≤maxLen) :
  SitZ elGl lo z w' [⟨op,s,some ⟨b,0,none⟩,c,L⟩]:=by
 refine ⟨fun x hx=>by rw [List.mem_singleton.1 hx];exact ⟨ho,hs,hl⟩,fun k hk=>?_,fun k hk=>?_⟩
 ·rw [gl_blk] at hk
  rcases List.mem_append.1 hk with hk|hk
  ·by_cases h0:L.length=0
   ·rw [blkA,if_pos h0] at hk;cases hk
   ·rw [blkA,if_neg h0,blkO,List.mem_singleton] at hk
    simp only at hk
    subst hk
    exact ⟨hb1,hb2⟩
  ·have:=h.bd k hk
   exact ⟨this.1,Nat.lt_of_lt_of_le this.2 hb.size⟩
 ·rw [gl_blk] at hk
  rcases List.mem_append.1 hk with hk|hk
  ·by_cases h0:L.length=0
   ·rw [blkA,if_pos h0] at hk;cases hk
   ·rw [blkA,if_neg h0,blkO,List.mem_singleton] at hk
    simp only at hk
    subst hk
    exact hz
  ·exact h.out k hk
theorem sitz_goal0 (lo:Nat) (z:Value) (w:World) {op:Int} (ho:Fits op):SitZ elGl lo z w [⟨op,⟨#[]⟩,none,0,[]⟩] :=
 ⟨fun x hx=>by rw [List.mem_singleton.1 hx];exact ⟨ho,Nat.zero_le _,Lst.nil w⟩,fun k hk=>(by rw [gl_blk] at hk;simp [blkA,Elt.blkL] at hk),fun k hk=>(by rw [gl_blk] at hk;simp [blkA,Elt.blkL] at hk)⟩
theorem sitz_call {lo:Nat} {u:Tm} (h:SitZ elTm lo z w [u]):SitZ elGl lo z w [⟨0,u.name,u.at_,u.cap,u.args⟩]:=by
 have hat:=(At_iff _ _).1 (h.at_ u (List.mem_singleton.2 rfl))
 have e:elGl.blkL [⟨0,u.name,u.at_,u.cap,u.args⟩]=elTm.blkL [u]:=by
  rw [gl_blk,Elt.blkL_one]
  obtain ⟨k,n,s,A,c,a⟩:=u
  show blkA A a.length++elTm.blkL a=(Tm.mk k n s A c a).blk
  rw [Tm.blk,blkL_flat];rfl
 exact ⟨fun x hx=>by rw [List.mem_singleton.1 hx];exact ⟨by unfold Fits;simp,hat.1.2.2,hat.2⟩,fun b hb=>h.bd b (by rw [e] at hb;exact hb),fun b hb=>h.out b (by rw [e] at hb;exact hb)⟩
theorem goalS_check (ex:Rd1 Tm) {x:List UInt8} {op:Int} (hx:(x=[105,110,116]∧op=11)∨(x=[103,114,111,117,110,100]∧op=12)) (g:Bool) (r:List Tok) (ns:List (List UInt8)) :
  goalS ex ((1, x, g) :: r) ns = if isS [40] r then (match ex r.tail ns with
        | .ok y r2 ns2 => wantS [41] (op, [], [y]) r2 ns2
        | .err l e => .err l e) else .err r.length 16 := by
 rcases hx with ⟨rfl,rfl⟩|⟨rfl,rfl⟩
 ·rfl
 ·rfl
theorem goalS_expr (ex:Rd1 Tm) {k:Int} {x:List UInt8} (hx:¬(k=1∧resB x=true)) (g:Bool) (r:List Tok) (ns:List (List UInt8)) :
  goalS ex ((k,x,g) :: r) ns=match ex ((k,x,g) :: r) ns with
   | .err l e=>.err l e
   | .ok y r2 ns2 =>
    if (cmpS r2).1=0 then (if k=1∧y.name.data.toList=x then .ok (0,x,y.args) r2 ns2 else .err r2.length 16)
    else (match ex r2.tail ns2 with
     | .ok y2 r3 ns3=>.ok ((cmpS r2).1,[],if (cmpS r2).2 then [y2,y] else [y,y2]) r3 ns3
     | .err l e=>.err l e):=by
 simp only [goalS,if_neg hx]
 generalize ex ((k,x,g) :: r) ns=q
 cases q<;>rfl
end
end Go.Proofs.YtaojnljppcnhjaaGreatDoor
