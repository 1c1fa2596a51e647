/-
  PgChainP.
  PgChainA.
  PgChainM.
 PgExpr.
 PgCmp.
 PgGoalP.
-/
import Derived.Test.YtnghanpmmbcbbaaGreatDoorMq21
namespace Go.Proofs.YtnghanpmmbcbbaaGreatDoor
open Go.RowKit
theorem add_kind {x:List UInt8} (h:x∈addS):kindO x=4:=by
 simp only [addS,List.mem_cons,List.not_mem_nil,or_false] at h
 rcases h with rfl|rfl<;>rfl
theorem mul_kind {x:List UInt8} (h:x∈mulS):kindO x=4:=by
 simp only [mulS,List.mem_cons,List.not_mem_nil,or_false] at h
 rcases h with rfl|rfl|rfl<;>rfl
theorem chain_stop {ops:List (List UInt8)} {O:Rd1 Tm} {x:Tm} {l:List Tk} {q:Nat} {ns:List (List UInt8)} (h:(l.getD q default).2.2∉ops) (hq:q < l.length):chainS ops O x (leftT l q) ns=.ok x (leftT l q) ns:=by
 rw [left_cons hq,chainS,if_neg (fun e=>h e.2)]
theorem chain_go {ops:List (List UInt8)} {O:Rd1 Tm} {x:Tm} {l:List Tk} {q:Nat} {ns:List (List UInt8)} (h:(l.getD q default).2.2∈ops) (hk:(l.getD q default).1=4) (hq:q < l.length) :
  (∀y j ns2,O (leftT l (q+1)) ns=.ok y (leftT l j) ns2→q+1 < j→chainS ops O x (leftT l q) ns=chainS ops O (funS (l.getD q default).2.2 [x,y]) (leftT l j) ns2)∧(∀n e,O (leftT l (q+1)) ns=.err n e→chainS ops O x (leftT l q) ns=.err n e):=by
 constructor
 ·intro y j ns2 hO hj
  conv=>lhs;rw [left_cons hq,chainS,if_pos ⟨hk,h⟩,hO]
  simp only
  rw [dif_pos (by rw [List.length_cons,left_length,left_length];omega)]
 ·intro n e hO
  rw [left_cons hq,chainS,if_pos ⟨hk,h⟩,hO]
structure ChainQ (ops:List (List UInt8)) (O:Rd1 Tm) (R:Nat) (A:Option Addr) (c:Nat) (l:List Tk) (a i:Nat) (w:World) (T gk:Nat) (er:Int) (wr:World) (q:Nat) (u:Tm):Prop where
 kq:Kq R w wr
 pq:Pq wr R A c l q
 box:BoxL wr T [.int .i64 u.kind,.int .i64 u.num,.string u.name,.slice u.at_ u.args.length u.cap]
 zero:BoxL wr w.heap.size [.int .i64 0,.int .i64 0,.string ⟨#[]⟩,.slice none 0 0]
 sit:SitG elTm (w.heap.size+1) wr [u]
 out:T∉elTm.blkL [u]
 gk_:er=0→l.length - q≤gk
 res:(er=0∧levelS ops O (leftT l i) (nsL l a i)=chainS ops O (u.num2 (gL l a)) (leftT l q) (nsL l a q)∧i < q∧OkV l i q [u]∧True)∨(er≠0∧levelS ops O (leftT l i) (nsL l a i)=.err (leftT l q).length er)
section
variable {ops:List (List UInt8)} {O:Rd1 Tm} {R:Nat} {A:Option Addr} {c:Nat} {l:List Tk} {a i:Nat} {w wr w':World} {T gk:Nat} {er:Int} {q:Nat} {u:Tm}
theorem ChainQ.below (h:ChainQ ops O R A c l a i w T gk er wr q u) (_hT:w.heap.size < T) (hb:Below wr.heap.size wr w'):ChainQ ops O R A c l a i w T gk er w' q u :=
 ⟨h.kq.trans (Below.kp hb R Z0),h.pq.below hb,h.box.below hb,h.zero.below hb,h.sit.below hb,h.out,h.gk_,h.res⟩
structure ChainM (R:Nat) (A:Option Addr) (c:Nat) (l:List Tk) (w:World) (T:Nat) (wr:World) (q:Nat) (u:Tm):Prop where
 kq:Kq R w wr
 pq:Pq wr R A c l q
 box:BoxL wr T [.int .i64 u.kind,.int .i64 u.num,.string u.name,.slice u.at_ u.args.length u.cap]
 zero:BoxL wr w.heap.size [.int .i64 0,.int .i64 0,.string ⟨#[]⟩,.slice none 0 0]
 sit:SitG elTm (w.heap.size+1) wr [u]
 out:T∉elTm.blkL [u]
theorem ChainQ.set1 (h:ChainQ ops O R A c l a i w T gk er wr q u) (hT:w.heap.size < T) (hR:R < w.heap.size) (hq:q+1 < l.length):ChainM R A c l w T (wr.setCell ⟨R,1,none⟩ (.int .i64 ((q+1:Nat):Int))) (q+1) u :=
 ⟨h.kq.set 1 none _,h.pq.set (q:=q+1) hq,h.box.put (p:=⟨R,1,none⟩) (by show R≠T;omega) _,h.zero.put (p:=⟨R,1,none⟩) (by show R≠w.heap.size;omega) _,h.sit.put (p:=⟨R,1,none⟩) (fun hx=>by have:=(h.sit.bd _ hx).1;simp only at this;omega) _,h.out⟩
theorem chain_start {w1:World} (hR:R < w.heap.size) (hk:Kq R (w.alloc (.cells #[.int .i64 0,.int .i64 0,.string ⟨#[]⟩,.slice none 0 0] 69)) w1) (hp:Pq w1 R A c l q)
  (hs:SitG rdTm.E (w.alloc (.cells #[.int .i64 0,.int .i64 0,.string ⟨#[]⟩,.slice none 0 0] 69)).heap.size w1 [u])
  (ho:(er=0∧O (leftT l i) (nsL l a i)=.ok (rdTm.h (gL l a) u) (leftT l q) (nsL l a q)∧i < q∧OkV l i q (rdTm.tms u))∨(er≠0∧O (leftT l i) (nsL l a i)=.err (leftT l q).length er)) :
  Hid (ChainQ ops O R A c l a i w w1.heap.size (l.length - q) er (w1.alloc (.cells #[.int .i64 u.kind,.int .i64 u.num,.string u.name,.slice u.at_ u.args.length u.cap] 69)) q u):=by
 have hb:=(Below.refl w1.heap.size w1).alloc (Nat.le_refl _) (.cells #[.int .i64 u.kind,.int .i64 u.num,.string u.name,.slice u.at_ u.args.length u.cap] 69)
 refine Lib.hid ⟨(Kq.from_new hk).alloc _,hp.below hb,BoxL.new w1 _ _,((BoxL.new w [.int .i64 0,.int .i64 0,.string ⟨#[]⟩,.slice none 0 0] 69).kq hk (by omega)).below hb,(hs.low (by simp)).below hb,fun hx=>?_,fun _=>Nat.le_refl _,?_⟩
 ·exact absurd (hs.bd _ hx).2 (Nat.lt_irrefl _)
 ·rcases ho with ⟨rfl,hf,hij,hv⟩|⟨her,hf⟩
  ·exact .inl ⟨rfl,by simp only [levelS,hf];rfl,hij,hv,trivial⟩
  ·exact .inr ⟨her,by simp only [levelS,hf]⟩
structure ChainN (R:Nat) (A:Option Addr) (c:Nat) (l:List Tk) (w:World) (T F:Nat) (wr:World) (j:Nat) (u y:Tm):Prop where
 kq:Kq R w wr
 pq:Pq wr R A c l j
 box:BoxL wr T [.int .i64 y.kind,.int .i64 y.num,.string y.name,.slice y.at_ y.args.length y.cap]
 first:BoxL wr F [.int .i64 u.kind,.int .i64 u.num,.string u.name,.slice u.at_ u.args.length u.cap]
 zero:BoxL wr w.heap.size [.int .i64 0,.int .i64 0,.string ⟨#[]⟩,.slice none 0 0]
 sit:SitG elTm (w.heap.size+1) wr [u,y]
 out:T∉elTm.blkL [u,y]
abbrev sets4 (w:World) (T:Nat) (v0 v1 v2 v3:Value):World:=(((w.setCell ⟨T,0,none⟩ v0).setCell ⟨T,1,none⟩ v1).setCell ⟨T,2,none⟩ v2).setCell ⟨T,3,none⟩ v3
theorem BoxL.other4 {B:Nat} {vs:List Value} (h:BoxL w B vs) (hT:T≠B) (v0 v1 v2 v3:Value):BoxL (sets4 w T v0 v1 v2 v3) B vs :=
 (((h.put (p:=⟨T,0,none⟩) hT _).put (p:=⟨T,1,none⟩) hT _).put (p:=⟨T,2,none⟩) hT _).put (p:=⟨T,3,none⟩) hT _
theorem SitG.other4 {α:Type} {E:Elt α} {lo:Nat} {L:List α} (h:SitG E lo w L) (hT:T∉E.blkL L) (v0 v1 v2 v3:Value):SitG E lo (sets4 w T v0 v1 v2 v3) L :=
 (((h.put (p:=⟨T,0,none⟩) hT _).put (p:=⟨T,1,none⟩) hT _).put (p:=⟨T,2,none⟩) hT _).put (p:=⟨T,3,none⟩) hT _
theorem Pq.other4 {i:Nat} (h:Pq w R A c l i) (hT:R < T) (v0 v1 v2 v3:Value):Pq (sets4 w T v0 v1 v2 v3) R A c l i :=
 (((h.put (p:=⟨T,0,none⟩) hT _).put (p:=⟨T,1,none⟩) hT _).put (p:=⟨T,2,none⟩) hT _).put (p:=⟨T,3,none⟩) hT _
theorem Kp.other4 {w0:World} (h:Kq R w0 w) (hT:w0.heap.size≤T) (v0 v1 v2 v3:Value):Kq R w0 (sets4 w T v0 v1 v2 v3) :=
 (((h.put (p:=⟨T,0,none⟩) hT _).put (p:=⟨T,1,none⟩) hT _).put (p:=⟨T,2,none⟩) hT _).put (p:=⟨T,3,none⟩) hT _
theorem ChainM.next {w4 w5:World} {j:Nat} {y:Tm} (h:ChainM R A c l w T w4 q u) (hT:w.heap.size < T) (hR:R < w.heap.size)
  (hk:Kq R (w4.alloc (.cells #[.int .i64 u.kind,.int .i64 u.num,.string u.name,.slice u.at_ u.args.length u.cap] 69)) w5) (hp:Pq w5 R A c l j)
  (hs:SitG elTm (w4.alloc (.cells #[.int .i64 u.kind,.int .i64 u.num,.string u.name,.slice u.at_ u.args.length u.cap] 69)).heap.size w5 [y]) :
  (BoxL w5 T [.int .i64 u.kind,.int .i64 u.num,.string u.name,.slice u.at_ u.args.length u.cap]∧BoxL w5 w4.heap.size [.int .i64 u.kind,.int .i64 u.num,.string u.name,.slice u.at_ u.args.length u.cap]∧T < w4.heap.size) ∧
  ChainN R A c l w T w4.heap.size (sets4 w5 T (.int .i64 y.kind) (.int .i64 y.num) (.string y.name) (.slice y.at_ y.args.length y.cap)) j u y:=by
 have hb:=(Below.refl w4.heap.size w4).alloc (Nat.le_refl _) (.cells #[.int .i64 u.kind,.int .i64 u.num,.string u.name,.slice u.at_ u.args.length u.cap] 69)
 have hTw:T < w4.heap.size:=h.box.lt
 have hsz:w.heap.size≤w4.heap.size:=h.kq.size
 have hRT:T≠R:=by omega
 have bT:=(h.box.below hb).kq hk hRT
 have bF:=(BoxL.new w4 [.int .i64 u.kind,.int .i64 u.num,.string u.name,.slice u.at_ u.args.length u.cap] 69).kq hk (by omega)
 have bZ:=(h.zero.below hb).kq hk (by omega)
 have hsu:=(h.sit.below hb).kq hk (by omega)
 have hall:=hsu.append hs (by simp;omega) (fun b hx=>by have:=(h.sit.bd b hx).2;simp;omega)
 have hout:T∉elTm.blkL ([u]++[y]):=by
  rw [Elt.blkL_append]
  intro hx
  rcases List.mem_append.1 hx with hx|hx
  ·exact h.out hx
  ·have:=(hs.bd _ hx).1
   simp at this
   omega
 exact ⟨⟨bT,bF,hTw⟩,(h.kq.trans ((Below.kp hb R Z0).trans hk)).other4 (by omega) _ _ _ _,hp.other4 (by omega) _ _ _ _,bT.set4 _ _ _ _,bF.other4 (by omega) _ _ _ _,bZ.other4 (by omega) _ _ _ _,hall.other4 hout _ _ _ _,hout⟩
theorem row2_lst (w:World) (u y:Tm) (hu:u.At w) (hy:y.At w) :
  Lst (w.alloc (.cells #[.int .i64 u.kind,.int .i64 u.num,.string u.name,.slice u.at_ u.args.length u.cap,.int .i64 y.kind,.int .i64 y.num,.string y.name,.slice y.at_ y.args.length y.cap] 69)) (some ⟨w.heap.size,0,none⟩) [u,y] 2:=by
 have hb:=(Below.refl w.heap.size w).alloc (Nat.le_refl _) (.cells #[.int .i64 u.kind,.int .i64 u.num,.string u.name,.slice u.at_ u.args.length u.cap,.int .i64 y.kind,.int .i64 y.num,.string y.name,.slice y.at_ y.args.length y.cap] 69)
 have hc:=(BoxL.new w [.int .i64 u.kind,.int .i64 u.num,.string u.name,.slice u.at_ u.args.length u.cap,.int .i64 y.kind,.int .i64 y.num,.string y.name,.slice y.at_ y.args.length y.cap] 69).cells
 refine ⟨Nat.le_refl _,by unfold maxLen;omega,fun _=>⟨w.heap.size,0,rfl,?_⟩⟩
 simp only [RowAt]
 exact ⟨⟨hc 0 _ rfl,hc 1 _ rfl,hc 2 _ rfl,hc 3 _ rfl⟩,hu.below hb,⟨hc 4 _ rfl,hc 5 _ rfl,hc 6 _ rfl,hc 7 _ rfl⟩,hy.below hb,trivial⟩
theorem ChainN.again {W w7:World} {F j gk0:Nat} {y:Tm} {er2:Int} {A7:Option Addr} {x:List UInt8} (h:ChainN R A c l w T F W j u y) (hT:w.heap.size < T) (hR:R < w.heap.size) (hb:Below W.heap.size W w7) (hs:SitG elTm (w.heap.size+1) w7 [.mk 2 0 (S x) A7 2 [u,y]])
  (hA:∀b∈blkA A7 2,W.heap.size≤b) (hgk0:er2=0→l.length - j≤gk0) (hq:q < l.length)
  (hx:(l.getD q default).2.2=x∧x∈ops∧(l.getD q default).1=4)
  (hV:levelS ops O (leftT l i) (nsL l a i)=chainS ops O (u.num2 (gL l a)) (leftT l q) (nsL l a q)∧i < q∧OkV l i q [u]∧True)
  (ho:(er2=0∧O (leftT l (q+1)) (nsL l a (q+1))=.ok (rdTm.h (gL l a) y) (leftT l j) (nsL l a j)∧q+1 < j∧OkV l (q+1) j (rdTm.tms y))∨(er2≠0∧O (leftT l (q+1)) (nsL l a (q+1))=.err (leftT l j).length er2)) :
  ChainQ ops O R A c l a i w T gk0 er2 (sets4 w7 T (.int .i64 2) (.int .i64 0) (.string (S x)) (.slice A7 2 2)) j (.mk 2 0 (S x) A7 2 [u,y]):=by
 have hout:T∉elTm.blkL [Tm.mk 2 0 (S x) A7 2 [u,y]]:=by
  rw [Elt.blkL_one]
  show T∉(Tm.mk 2 0 (S x) A7 2 [u,y]).blk
  rw [Tm.blk,blkL_flat]
  intro hx
  rcases List.mem_append.1 hx with hx|hx
  ·have:=hA T hx
   have:=h.box.lt
   omega
  ·exact h.out hx
 have e:=chain_go (O:=O) (x:=u.num2 (gL l a)) (ns:=nsL l a q) (show (l.getD q default).2.2∈ops by rw [hx.1];exact hx.2.1) hx.2.2 hq
 have hns:nsL l a (q+1)=nsL l a q:=nsL_no hx.2.2 (by decide)
 refine ⟨(h.kq.trans (Below.kp hb R Z0)).other4 (by omega) _ _ _ _,(h.pq.below hb).other4 (by omega) _ _ _ _,(h.box.below hb).set4 _ _ _ _,(h.zero.below hb).other4 (by omega) _ _ _ _,hs.other4 hout _ _ _ _,hout,hgk0,?_⟩
 rw [hns] at ho
 rcases ho with ⟨rfl,hf,hij,hv⟩|⟨her,hf⟩
 ·refine .inl ⟨rfl,?_,by omega,OkV.fun_ (hV.2.2.1.append hv (by omega) (by omega) (by omega)) _ _ _,trivial⟩
  rw [hV.1,e.1 _ _ _ hf hij,hx.1]
  simp only [rdTm,Tm.num2,numL2,funS,show ¬(2:Int)=1 by omega,if_false]
 ·exact .inr ⟨her,by rw [hV.1,e.2 _ _ hf]⟩
end
end Go.Proofs.YtnghanpmmbcbbaaGreatDoor
namespace Go.Proofs.YtnghanpmmbcbbaaGreatDoor
open Go.RowKit
set_option maxHeartbeats 40000000 in
set_option maxRecDepth 100000 in
theorem chainA_at {R:Nat} {A:Option Addr} {c:Nat} {l:List Tk} (hg:GoodT l) {a n:Nat} {O:Rd1 Tm}
  (hO:∀(i:Nat) (w:World),Pq w R A c l i→a≤i→(leftT l i).length≤n→Calls Tryz.prog 219 #[.pointer (some ⟨R,0,none⟩)] w (ElR rdTm O R A c l a i w))
  (i:Nat) (w:World) (h:Pq w R A c l i) (ha:a≤i) (hn:(leftT l i).length≤n) :
  Calls Tryz.prog 217 #[.pointer (some ⟨R,0,none⟩),.func (.func 218) #[] #[],.func (.func 219) #[.pointer (some ⟨R,0,none⟩)] #[]] w (ElR rdTm (levelS addS O) R A c l a i w):=by
 have HG:=Lib.hid hg
 have hR:=h.lt
 have hTR:w.heap.size≠R:=by omega
 have HA:=Lib.hid ha
 have HNn:=Lib.hid hn
 have Q:=Lib.hid hO
 have Q0:=Lib.hid (hO i _ (h.alloc (.cells #[.int .i64 0,.int .i64 0,.string ⟨#[]⟩,.slice none 0 0] 69)) ha hn)
 clear hO h ha hn hg
 go_enter Tryz.func217,Tryz.ntmps217
 go_wp2_with fail
 refine Q0.out.mono ?_
 rintro e w1 ⟨u,q,er,he,hk,hp,hs,ho⟩
 have he2:e=.returned (.tuple #[.agg #[.int .i64 u.kind,.int .i64 u.num,.string u.name,.slice u.at_ u.args.length u.cap],.int .i64 er]):=he
 clear he
 subst he2
 have hsz:w.heap.size+1≤w1.heap.size:=by have:=hk.size;simpa using this
 have H0:Hid (ChainQ addS O R A c l a i w w1.heap.size (l.length - q) er (w1.alloc (.cells #[.int .i64 u.kind,.int .i64 u.num,.string u.name,.slice u.at_ u.args.length u.cap] 69)) q u):=chain_start hR hk hp hs ho
 obtain ⟨T,hT⟩:∃T,T=w1.heap.size:=⟨_,rfl⟩
 rw [←hT] at H0
 have HTw:=Lib.hid (show w.heap.size < T by omega)
 have HT:=Lib.hid hT
 clear Q0 hk hp hs ho hsz hT
 go_wp2_with fail
 rw [←HT.out]
 go_loopg [9] (l.length - q) (fun gk z wr=>∃(er:Int) (q:Nat) (u:Tm),z=.int .i64 er∧Hid (ChainQ addS O R A c l a i w T gk er wr q u))
 case atStart=>exact ⟨er,q,u,rfl,H0⟩
 case round =>
  clear H0 HT
  obtain ⟨er,q,u,rfl,hI⟩:=hrel
  have hTw:=HTw.out
  have hTR2:¬T=R:=by omega
  have hRT2:¬R=T:=by omega
  obtain ⟨c0,c1,c2,c3,f0,f1,f2,f3⟩:=hI.out.zero.get4
  obtain ⟨t0,t1,t2,t3,g0,g1,g2,g3⟩:=hI.out.box.get4
  rcases hI.out.res with ⟨rfl,hV⟩|⟨her,hV⟩
  ·obtain ⟨t,ht⟩:∃t,l.getD q default=t:=⟨_,rfl⟩
   obtain ⟨k,p,x⟩:=t
   have HV:=Lib.hid hV
   have HTk:=Lib.hid ht
   have ft:=tok_text k (p:Int) (S x)
   obtain ⟨b,hb⟩:∃b,decide (x∈addS)=b:=⟨_,rfl⟩
   have HBx:=Lib.hid hb
   have QL:=Lib.hid (fun W=>adds_at x W hb)
   have QT:=Lib.hid (fun W (hW:Pq W R A c l q)=>p_next_of hW ht)
   clear hV hb ht
   cases b
   ·go_wp2_with (first
     | (go_at_call 94;refine (QT.out _ hI.out.pq).mono ?_;rintro en w2 ⟨rfl,hb2⟩;have HL2:=Lib.hid (hI.out.below hTw hb2);clear c0 c1 c2 c3 f0 f1 f2 f3 t0 t1 t2 t3 g0 g1 g2 g3;obtain ⟨c0,c1,c2,c3,f0,f1,f2,f3⟩:=HL2.out.zero.get4;obtain ⟨t0,t1,t2,t3,g0,g1,g2,g3⟩:=HL2.out.box.get4;clear hb2)
     | (go_at_call 218;refine (QL.out _).mono ?_;rintro en w3 ⟨rfl,rfl⟩))
    refine bodyPost_ret (v:=.tuple #[.agg #[.int .i64 u.kind,.int .i64 u.num,.string u.name,.slice u.at_ u.args.length u.cap],.int .i64 0]) (by simp [results,Tryz.results217,go_sem,c0,c1,c2,c3]) rfl ?_
    obtain ⟨e1,e2,e3⟩:=end4 hR HL2.out.kq HL2.out.pq HL2.out.sit (Nat.lt_succ_self _) (.int .i64 u.kind) (.int .i64 u.num) (.string u.name) (.slice u.at_ u.args.length u.cap)
    refine ⟨u,q,0,rfl,e1,e2,e3,.inl ⟨rfl,?_,HV.out.2.1,HV.out.2.2.1⟩⟩
    rw [HV.out.1]
    exact chain_stop (by rw [HTk.out];exact of_decide_eq_false HBx.out) HL2.out.pq.ilt
   ·have hx:x∈addS:=of_decide_eq_true HBx.out
    have hk4:k=4:=by
     have:=HG.out.kinds q hI.out.pq.ilt
     rw [HTk.out] at this
     exact this.trans (add_kind hx)
    have hN1:q+1 < l.length:=good_next HG.out hI.out.pq.ilt (by rw [HTk.out];rintro rfl;exact absurd hx (by decide))
    have HX:=Lib.hid (And.intro hx (And.intro hk4 hN1))
    have HI6:=Lib.hid (show (q:Int)+1≤16386 by have:=HG.out.small;omega)
    have hi1:(q:Int)+1≤9223372036854775807:=by have:=HI6.out;omega
    have HSx:=Lib.hid (show (S x).size≤maxLen by have:=HG.out.texts q hI.out.pq.ilt;rw [HTk.out] at this;rw [S_size];unfold maxLen;exact Nat.le_trans this (by omega))
    have QO:=Lib.hid (fun W (hW:Pq W R A c l (q+1))=>Q.out (q+1) W hW (by have:=HA.out;have:=HV.out.2.1;omega) (by have hn:=HNn.out;have hv:=HV.out.2.1;rw [left_length] at hn ⊢;omega))
    have HK:=Lib.hid (And.intro (hI.out.gk_ rfl) hI.out.pq.ilt)
    clear hx hk4 hN1
    go_wp2_with (first
     | (go_at_call 94;refine (QT.out _ hI.out.pq).mono ?_;rintro en w2 ⟨rfl,hb2⟩;have HL2:=Lib.hid (hI.out.below hTw hb2);clear c0 c1 c2 c3 f0 f1 f2 f3 t0 t1 t2 t3 g0 g1 g2 g3 hI;obtain ⟨c0,c1,c2,c3,f0,f1,f2,f3⟩:=HL2.out.zero.get4;obtain ⟨t0,t1,t2,t3,g0,g1,g2,g3⟩:=HL2.out.box.get4;clear hb2)
     | (go_at_call 218;refine (QL.out _).mono ?_;rintro en w3 ⟨rfl,rfl⟩)
     | (go_at_call 94;refine (QT.out _ HL2.out.pq).mono ?_;rintro en w4 ⟨rfl,hb2⟩;have HL4:=Lib.hid ((HL2.out.below hTw hb2).set1 hTw hR HX.out.2.2);have l1:=(HL2.out.below hTw hb2).pq.l1;have lf:=(HL2.out.below hTw hb2).pq.fr 1;clear c0 c1 c2 c3 f0 f1 f2 f3 t0 t1 t2 t3 g0 g1 g2 g3;obtain ⟨t0,t1,t2,t3,g0,g1,g2,g3⟩:=(HL2.out.below hTw hb2).box.get4;clear hb2 HL2))
    refine (QO.out _ (HL4.out.pq.alloc _)).mono ?_
    rintro e w5 ⟨y,j,er2,he,hk5,hp5,hs5,ho5⟩
    have he2:e=.returned (.tuple #[.agg #[.int .i64 y.kind,.int .i64 y.num,.string y.name,.slice y.at_ y.args.length y.cap],.int .i64 er2]):=he
    clear he
    subst he2
    obtain ⟨⟨bT,bF,hTF⟩,hN5⟩:=HL4.out.next hTw hR hk5 hp5 hs5
    have hsF:(w4.setCell ⟨R,1,none⟩ (.int .i64 ((q+1:Nat):Int))).heap.size=w4.heap.size:=by simp [World.setCell]
    rw [hsF] at bF hTF hN5
    have HN5:=Lib.hid hN5
    have HO5:=Lib.hid ho5
    have HJ5:=Lib.hid (show j≤l.length from Nat.le_of_lt hp5.ilt)
    obtain ⟨t0,t1,t2,t3,g0,g1,g2,g3⟩:=bT.get4
    obtain ⟨d0,d1,d2,d3,_⟩:=bF.get4
    have hTF1:¬T=w4.heap.size:=by omega
    have hTF2:¬w4.heap.size=T:=by omega
    clear hk5 hp5 hs5 ho5 hN5 bT bF hTF hsF
    have hs6:(sets4 w5 T (.int .i64 y.kind) (.int .i64 y.num) (.string y.name) (.slice y.at_ y.args.length y.cap)).heap.size=w5.heap.size:=by simp [World.setCell]
    have HRow:=Lib.hid (row2_lst (sets4 w5 T (.int .i64 y.kind) (.int .i64 y.num) (.string y.name) (.slice y.at_ y.args.length y.cap)) u y (HN5.out.sit.at_ u (by simp)) (HN5.out.sit.at_ y (by simp)))
    rw [hs6] at HRow
    have HB6:=Lib.hid ((Below.refl (sets4 w5 T (.int .i64 y.kind) (.int .i64 y.num) (.string y.name) (.slice y.at_ y.args.length y.cap)).heap.size (sets4 w5 T (.int .i64 y.kind) (.int .i64 y.num) (.string y.name) (.slice y.at_ y.args.length y.cap))).alloc (Nat.le_refl _) (.cells #[.int .i64 u.kind,.int .i64 u.num,.string u.name,.slice u.at_ u.args.length u.cap,.int .i64 y.kind,.int .i64 y.num,.string y.name,.slice y.at_ y.args.length y.cap] 69))
    have HZ6:=Lib.hid (show w.heap.size+1≤((sets4 w5 T (.int .i64 y.kind) (.int .i64 y.num) (.string y.name) (.slice y.at_ y.args.length y.cap)).alloc (.cells #[.int .i64 u.kind,.int .i64 u.num,.string u.name,.slice u.at_ u.args.length u.cap,.int .i64 y.kind,.int .i64 y.num,.string y.name,.slice y.at_ y.args.length y.cap] 69)).heap.size by have:=HN5.out.box.lt;have:=HB6.out.size;omega)
    clear hs6
    go_wp2_with (go_at_call 227;refine (fun_q (w.heap.size+1) (S x) [u,y] (some ⟨w5.heap.size,0,none⟩) 2 _ HRow.out (fun h=>by cases h) (by simp) HSx.out HZ6.out (HN5.out.sit.below HB6.out)).mono ?_;rintro en w7 ⟨A7,he7,hb7,hs7,hA7⟩;have he8:en=.returned (.agg #[.int .i64 2,.int .i64 0,.string (S x),.slice A7 2 2]):=he7;clear he7;subst he8;clear t0 t1 t2 t3 g0 g1 g2 g3 d0 d1 d2 d3;obtain ⟨t0,t1,t2,t3,g0,g1,g2,g3⟩:=((HN5.out.box.below HB6.out).below hb7).get4;have HB7:=Lib.hid (HB6.out.trans (hb7.mono HB6.out.size));have HS7:=Lib.hid hs7;have HA7:=Lib.hid (show ∀b∈blkA A7 2,(sets4 w5 T (.int .i64 y.kind) (.int .i64 y.num) (.string y.name) (.slice y.at_ y.args.length y.cap)).heap.size≤b from fun b hb=>Nat.le_trans HB6.out.size (hA7 b hb));clear hb7 hs7 hA7)
    have HGk:=Lib.hid (show gk - 1 < gk by have:=HK.out.1;have:=HK.out.2;omega)
    have HNx:=Lib.hid (HN5.out.again (gk0:=gk - 1) (ops:=addS) (O:=O) hTw hR HB7.out HS7.out HA7.out (fun e0=>by
     have:=HK.out.1
     have:=HK.out.2
     rcases HO5.out with ⟨_,_,h3,_⟩|⟨h3,_⟩
     ·omega
     ·exact absurd e0 h3) HK.out.2 (by rw [HTk.out];exact ⟨rfl,HX.out.1,HX.out.2.1⟩) HV.out HO5.out)
    go_roundg (gk - 1)
    case measure=>exact HGk.out
    case rel=>exact ⟨er2,j,_,rfl,HNx.out⟩
  ·have hne:(er==0)=false:=by simpa using her
   have HV:=Lib.hid hV
   have HE:=Lib.hid her
   clear her hV
   go_wp2_with fail
   refine bodyPost_ret (v:=.tuple #[.agg #[.int .i64 u.kind,.int .i64 u.num,.string u.name,.slice u.at_ u.args.length u.cap],.int .i64 er]) (by simp [results,Tryz.results217,go_sem,c0,c1,c2,c3]) rfl ?_
   obtain ⟨e1,e2,e3⟩:=end4 hR hI.out.kq hI.out.pq hI.out.sit (Nat.lt_succ_self _) (.int .i64 u.kind) (.int .i64 u.num) (.string u.name) (.slice u.at_ u.args.length u.cap)
   exact ⟨u,q,er,rfl,e1,e2,e3,.inr ⟨HE.out,HV.out⟩⟩
end Go.Proofs.YtnghanpmmbcbbaaGreatDoor
namespace Go.Proofs.YtnghanpmmbcbbaaGreatDoor
open Go.RowKit
set_option maxHeartbeats 40000000 in
set_option maxRecDepth 100000 in
theorem chainM_at {R:Nat} {A:Option Addr} {c:Nat} {l:List Tk} (hg:GoodT l) {a n:Nat} {O:Rd1 Tm}
  (hO:∀(i:Nat) (w:World),Pq w R A c l i→a≤i→(leftT l i).length≤n→Calls Tryz.prog 229 #[.pointer (some ⟨R,0,none⟩)] w (ElR rdTm O R A c l a i w))
  (i:Nat) (w:World) (h:Pq w R A c l i) (ha:a≤i) (hn:(leftT l i).length≤n) :
  Calls Tryz.prog 217 #[.pointer (some ⟨R,0,none⟩),.func (.func 228) #[] #[],.func (.func 229) #[.pointer (some ⟨R,0,none⟩)] #[]] w (ElR rdTm (levelS mulS O) R A c l a i w):=by
 have HG:=Lib.hid hg
 have hR:=h.lt
 have hTR:w.heap.size≠R:=by omega
 have HA:=Lib.hid ha
 have HNn:=Lib.hid hn
 have Q:=Lib.hid hO
 have Q0:=Lib.hid (hO i _ (h.alloc (.cells #[.int .i64 0,.int .i64 0,.string ⟨#[]⟩,.slice none 0 0] 69)) ha hn)
 clear hO h ha hn hg
 go_enter Tryz.func217,Tryz.ntmps217
 go_wp2_with fail
 refine Q0.out.mono ?_
 rintro e w1 ⟨u,q,er,he,hk,hp,hs,ho⟩
 have he2:e=.returned (.tuple #[.agg #[.int .i64 u.kind,.int .i64 u.num,.string u.name,.slice u.at_ u.args.length u.cap],.int .i64 er]):=he
 clear he
 subst he2
 have hsz:w.heap.size+1≤w1.heap.size:=by have:=hk.size;simpa using this
 have H0:Hid (ChainQ mulS O R A c l a i w w1.heap.size (l.length - q) er (w1.alloc (.cells #[.int .i64 u.kind,.int .i64 u.num,.string u.name,.slice u.at_ u.args.length u.cap] 69)) q u):=chain_start hR hk hp hs ho
 obtain ⟨T,hT⟩:∃T,T=w1.heap.size:=⟨_,rfl⟩
 rw [←hT] at H0
 have HTw:=Lib.hid (show w.heap.size < T by omega)
 have HT:=Lib.hid hT
 clear Q0 hk hp hs ho hsz hT
 go_wp2_with fail
 rw [←HT.out]
 go_loopg [9] (l.length - q) (fun gk z wr=>∃(er:Int) (q:Nat) (u:Tm),z=.int .i64 er∧Hid (ChainQ mulS O R A c l a i w T gk er wr q u))
 case atStart=>exact ⟨er,q,u,rfl,H0⟩
 case round =>
  clear H0 HT
  obtain ⟨er,q,u,rfl,hI⟩:=hrel
  have hTw:=HTw.out
  have hTR2:¬T=R:=by omega
  have hRT2:¬R=T:=by omega
  obtain ⟨c0,c1,c2,c3,f0,f1,f2,f3⟩:=hI.out.zero.get4
  obtain ⟨t0,t1,t2,t3,g0,g1,g2,g3⟩:=hI.out.box.get4
  rcases hI.out.res with ⟨rfl,hV⟩|⟨her,hV⟩
  ·obtain ⟨t,ht⟩:∃t,l.getD q default=t:=⟨_,rfl⟩
   obtain ⟨k,p,x⟩:=t
   have HV:=Lib.hid hV
   have HTk:=Lib.hid ht
   have ft:=tok_text k (p:Int) (S x)
   obtain ⟨b,hb⟩:∃b,decide (x∈mulS)=b:=⟨_,rfl⟩
   have HBx:=Lib.hid hb
   have QL:=Lib.hid (fun W=>multiplies_at x W hb)
   have QT:=Lib.hid (fun W (hW:Pq W R A c l q)=>p_next_of hW ht)
   clear hV hb ht
   cases b
   ·go_wp2_with (first
     | (go_at_call 94;refine (QT.out _ hI.out.pq).mono ?_;rintro en w2 ⟨rfl,hb2⟩;have HL2:=Lib.hid (hI.out.below hTw hb2);clear c0 c1 c2 c3 f0 f1 f2 f3 t0 t1 t2 t3 g0 g1 g2 g3;obtain ⟨c0,c1,c2,c3,f0,f1,f2,f3⟩:=HL2.out.zero.get4;obtain ⟨t0,t1,t2,t3,g0,g1,g2,g3⟩:=HL2.out.box.get4;clear hb2)
     | (go_at_call 228;refine (QL.out _).mono ?_;rintro en w3 ⟨rfl,rfl⟩))
    refine bodyPost_ret (v:=.tuple #[.agg #[.int .i64 u.kind,.int .i64 u.num,.string u.name,.slice u.at_ u.args.length u.cap],.int .i64 0]) (by simp [results,Tryz.results217,go_sem,c0,c1,c2,c3]) rfl ?_
    obtain ⟨e1,e2,e3⟩:=end4 hR HL2.out.kq HL2.out.pq HL2.out.sit (Nat.lt_succ_self _) (.int .i64 u.kind) (.int .i64 u.num) (.string u.name) (.slice u.at_ u.args.length u.cap)
    refine ⟨u,q,0,rfl,e1,e2,e3,.inl ⟨rfl,?_,HV.out.2.1,HV.out.2.2.1⟩⟩
    rw [HV.out.1]
    exact chain_stop (by rw [HTk.out];exact of_decide_eq_false HBx.out) HL2.out.pq.ilt
   ·have hx:x∈mulS:=of_decide_eq_true HBx.out
    have hk4:k=4:=by
     have:=HG.out.kinds q hI.out.pq.ilt
     rw [HTk.out] at this
     exact this.trans (mul_kind hx)
    have hN1:q+1 < l.length:=good_next HG.out hI.out.pq.ilt (by rw [HTk.out];rintro rfl;exact absurd hx (by decide))
    have HX:=Lib.hid (And.intro hx (And.intro hk4 hN1))
    have HI6:=Lib.hid (show (q:Int)+1≤16386 by have:=HG.out.small;omega)
    have hi1:(q:Int)+1≤9223372036854775807:=by have:=HI6.out;omega
    have HSx:=Lib.hid (show (S x).size≤maxLen by have:=HG.out.texts q hI.out.pq.ilt;rw [HTk.out] at this;rw [S_size];unfold maxLen;exact Nat.le_trans this (by omega))
    have QO:=Lib.hid (fun W (hW:Pq W R A c l (q+1))=>Q.out (q+1) W hW (by have:=HA.out;have:=HV.out.2.1;omega) (by have hn:=HNn.out;have hv:=HV.out.2.1;rw [left_length] at hn ⊢;omega))
    have HK:=Lib.hid (And.intro (hI.out.gk_ rfl) hI.out.pq.ilt)
    clear hx hk4 hN1
    go_wp2_with (first
     | (go_at_call 94;refine (QT.out _ hI.out.pq).mono ?_;rintro en w2 ⟨rfl,hb2⟩;have HL2:=Lib.hid (hI.out.below hTw hb2);clear c0 c1 c2 c3 f0 f1 f2 f3 t0 t1 t2 t3 g0 g1 g2 g3 hI;obtain ⟨c0,c1,c2,c3,f0,f1,f2,f3⟩:=HL2.out.zero.get4;obtain ⟨t0,t1,t2,t3,g0,g1,g2,g3⟩:=HL2.out.box.get4;clear hb2)
     | (go_at_call 228;refine (QL.out _).mono ?_;rintro en w3 ⟨rfl,rfl⟩)
     | (go_at_call 94;refine (QT.out _ HL2.out.pq).mono ?_;rintro en w4 ⟨rfl,hb2⟩;have HL4:=Lib.hid ((HL2.out.below hTw hb2).set1 hTw hR HX.out.2.2);have l1:=(HL2.out.below hTw hb2).pq.l1;have lf:=(HL2.out.below hTw hb2).pq.fr 1;clear c0 c1 c2 c3 f0 f1 f2 f3 t0 t1 t2 t3 g0 g1 g2 g3;obtain ⟨t0,t1,t2,t3,g0,g1,g2,g3⟩:=(HL2.out.below hTw hb2).box.get4;clear hb2 HL2))
    refine (QO.out _ (HL4.out.pq.alloc _)).mono ?_
    rintro e w5 ⟨y,j,er2,he,hk5,hp5,hs5,ho5⟩
    have he2:e=.returned (.tuple #[.agg #[.int .i64 y.kind,.int .i64 y.num,.string y.name,.slice y.at_ y.args.length y.cap],.int .i64 er2]):=he
    clear he
    subst he2
    obtain ⟨⟨bT,bF,hTF⟩,hN5⟩:=HL4.out.next hTw hR hk5 hp5 hs5
    have hsF:(w4.setCell ⟨R,1,none⟩ (.int .i64 ((q+1:Nat):Int))).heap.size=w4.heap.size:=by simp [World.setCell]
    rw [hsF] at bF hTF hN5
    have HN5:=Lib.hid hN5
    have HO5:=Lib.hid ho5
    have HJ5:=Lib.hid (show j≤l.length from Nat.le_of_lt hp5.ilt)
    obtain ⟨t0,t1,t2,t3,g0,g1,g2,g3⟩:=bT.get4
    obtain ⟨d0,d1,d2,d3,_⟩:=bF.get4
    have hTF1:¬T=w4.heap.size:=by omega
    have hTF2:¬w4.heap.size=T:=by omega
    clear hk5 hp5 hs5 ho5 hN5 bT bF hTF hsF
    have hs6:(sets4 w5 T (.int .i64 y.kind) (.int .i64 y.num) (.string y.name) (.slice y.at_ y.args.length y.cap)).heap.size=w5.heap.size:=by simp [World.setCell]
    have HRow:=Lib.hid (row2_lst (sets4 w5 T (.int .i64 y.kind) (.int .i64 y.num) (.string y.name) (.slice y.at_ y.args.length y.cap)) u y (HN5.out.sit.at_ u (by simp)) (HN5.out.sit.at_ y (by simp)))
    rw [hs6] at HRow
    have HB6:=Lib.hid ((Below.refl (sets4 w5 T (.int .i64 y.kind) (.int .i64 y.num) (.string y.name) (.slice y.at_ y.args.length y.cap)).heap.size (sets4 w5 T (.int .i64 y.kind) (.int .i64 y.num) (.string y.name) (.slice y.at_ y.args.length y.cap))).alloc (Nat.le_refl _) (.cells #[.int .i64 u.kind,.int .i64 u.num,.string u.name,.slice u.at_ u.args.length u.cap,.int .i64 y.kind,.int .i64 y.num,.string y.name,.slice y.at_ y.args.length y.cap] 69))
    have HZ6:=Lib.hid (show w.heap.size+1≤((sets4 w5 T (.int .i64 y.kind) (.int .i64 y.num) (.string y.name) (.slice y.at_ y.args.length y.cap)).alloc (.cells #[.int .i64 u.kind,.int .i64 u.num,.string u.name,.slice u.at_ u.args.length u.cap,.int .i64 y.kind,.int .i64 y.num,.string y.name,.slice y.at_ y.args.length y.cap] 69)).heap.size by have:=HN5.out.box.lt;have:=HB6.out.size;omega)
    clear hs6
    go_wp2_with (go_at_call 227;refine (fun_q (w.heap.size+1) (S x) [u,y] (some ⟨w5.heap.size,0,none⟩) 2 _ HRow.out (fun h=>by cases h) (by simp) HSx.out HZ6.out (HN5.out.sit.below HB6.out)).mono ?_;rintro en w7 ⟨A7,he7,hb7,hs7,hA7⟩;have he8:en=.returned (.agg #[.int .i64 2,.int .i64 0,.string (S x),.slice A7 2 2]):=he7;clear he7;subst he8;clear t0 t1 t2 t3 g0 g1 g2 g3 d0 d1 d2 d3;obtain ⟨t0,t1,t2,t3,g0,g1,g2,g3⟩:=((HN5.out.box.below HB6.out).below hb7).get4;have HB7:=Lib.hid (HB6.out.trans (hb7.mono HB6.out.size));have HS7:=Lib.hid hs7;have HA7:=Lib.hid (show ∀b∈blkA A7 2,(sets4 w5 T (.int .i64 y.kind) (.int .i64 y.num) (.string y.name) (.slice y.at_ y.args.length y.cap)).heap.size≤b from fun b hb=>Nat.le_trans HB6.out.size (hA7 b hb));clear hb7 hs7 hA7)
    have HGk:=Lib.hid (show gk - 1 < gk by have:=HK.out.1;have:=HK.out.2;omega)
    have HNx:=Lib.hid (HN5.out.again (gk0:=gk - 1) (ops:=mulS) (O:=O) hTw hR HB7.out HS7.out HA7.out (fun e0=>by
     have:=HK.out.1
     have:=HK.out.2
     rcases HO5.out with ⟨_,_,h3,_⟩|⟨h3,_⟩
     ·omega
     ·exact absurd e0 h3) HK.out.2 (by rw [HTk.out];exact ⟨rfl,HX.out.1,HX.out.2.1⟩) HV.out HO5.out)
    go_roundg (gk - 1)
    case measure=>exact HGk.out
    case rel=>exact ⟨er2,j,_,rfl,HNx.out⟩
  ·have hne:(er==0)=false:=by simpa using her
   have HV:=Lib.hid hV
   have HE:=Lib.hid her
   clear her hV
   go_wp2_with fail
   refine bodyPost_ret (v:=.tuple #[.agg #[.int .i64 u.kind,.int .i64 u.num,.string u.name,.slice u.at_ u.args.length u.cap],.int .i64 er]) (by simp [results,Tryz.results217,go_sem,c0,c1,c2,c3]) rfl ?_
   obtain ⟨e1,e2,e3⟩:=end4 hR hI.out.kq hI.out.pq hI.out.sit (Nat.lt_succ_self _) (.int .i64 u.kind) (.int .i64 u.num) (.string u.name) (.slice u.at_ u.args.length u.cap)
   exact ⟨u,q,er,rfl,e1,e2,e3,.inr ⟨HE.out,HV.out⟩⟩
end Go.Proofs.YtnghanpmmbcbbaaGreatDoor
namespace Go.Proofs.YtnghanpmmbcbbaaGreatDoor
open Go.RowKit
section
variable {R:Nat} {A:Option Addr} {c:Nat} {l:List Tk}
set_option maxHeartbeats 4000000 in
set_option maxRecDepth 10000 in
theorem product_at (hg:GoodT l) {a n:Nat} {O:Rd1 Tm}
  (hO:∀(i:Nat) (w:World),Pq w R A c l i→a≤i→(leftT l i).length≤n→Calls Tryz.prog 229 #[.pointer (some ⟨R,0,none⟩)] w (ElR rdTm O R A c l a i w))
  (i:Nat) (w:World) (h:Pq w R A c l i) (ha:a≤i) (hn:(leftT l i).length≤n) :
  Calls Tryz.prog 219 #[.pointer (some ⟨R,0,none⟩)] w (ElR rdTm (levelS mulS O) R A c l a i w):=by
 have hR:=h.lt
 have hTR:w.heap.size≠R:=by omega
 have Q:=Lib.hid (chainM_at hg hO i _ (h.alloc (.cells #[.int .i64 0,.int .i64 0,.string ⟨#[]⟩,.slice none 0 0] 69)) ha hn)
 clear hO hg h ha hn
 go_enter Tryz.func219,Tryz.ntmps219
 go_wp2_with fail
 refine Q.out.mono ?_
 rintro e w2 ⟨u,j,er,he,hk,hp,hs,ho⟩
 have he2:e=.returned (.tuple #[.agg #[.int .i64 u.kind,.int .i64 u.num,.string u.name,.slice u.at_ u.args.length u.cap],.int .i64 er]):=he
 clear he
 subst he2
 obtain ⟨c0,c1,c2,c3,f0,f1,f2,f3⟩:=((BoxL.new w [.int .i64 0,.int .i64 0,.string ⟨#[]⟩,.slice none 0 0] 69).kq hk hTR).get4
 have HK:=Lib.hid (Kq.from_new hk)
 have HP:=Lib.hid hp
 have HS:=Lib.hid (show SitG elTm (w.heap.size+1) w2 [u] from hs.low (by simp))
 have HO:=Lib.hid ho
 clear hk hp hs ho
 go_wp2_with fail
 refine bodyPost_ret (v:=.tuple #[.agg #[.int .i64 u.kind,.int .i64 u.num,.string u.name,.slice u.at_ u.args.length u.cap],.int .i64 er]) (by simp [results,Tryz.results219,go_sem,c0,c1,c2,c3]) rfl ?_
 obtain ⟨e1,e2,e3⟩:=end4 hR HK.out HP.out HS.out (Nat.lt_succ_self _) (.int .i64 u.kind) (.int .i64 u.num) (.string u.name) (.slice u.at_ u.args.length u.cap)
 exact ⟨u,j,er,rfl,e1,e2,e3,HO.out⟩
set_option maxHeartbeats 4000000 in
set_option maxRecDepth 10000 in
theorem expr_at (hg:GoodT l) {a n:Nat} {O:Rd1 Tm}
  (hO:∀(i:Nat) (w:World),Pq w R A c l i→a≤i→(leftT l i).length≤n→Calls Tryz.prog 219 #[.pointer (some ⟨R,0,none⟩)] w (ElR rdTm O R A c l a i w))
  (i:Nat) (w:World) (h:Pq w R A c l i) (ha:a≤i) (hn:(leftT l i).length≤n) :
  Calls Tryz.prog 203 #[.pointer (some ⟨R,0,none⟩)] w (ElR rdTm (levelS addS O) R A c l a i w):=by
 have hR:=h.lt
 have hTR:w.heap.size≠R:=by omega
 have Q:=Lib.hid (chainA_at hg hO i _ (h.alloc (.cells #[.int .i64 0,.int .i64 0,.string ⟨#[]⟩,.slice none 0 0] 69)) ha hn)
 clear hO hg h ha hn
 go_enter Tryz.func203,Tryz.ntmps203
 go_wp2_with fail
 refine Q.out.mono ?_
 rintro e w2 ⟨u,j,er,he,hk,hp,hs,ho⟩
 have he2:e=.returned (.tuple #[.agg #[.int .i64 u.kind,.int .i64 u.num,.string u.name,.slice u.at_ u.args.length u.cap],.int .i64 er]):=he
 clear he
 subst he2
 obtain ⟨c0,c1,c2,c3,f0,f1,f2,f3⟩:=((BoxL.new w [.int .i64 0,.int .i64 0,.string ⟨#[]⟩,.slice none 0 0] 69).kq hk hTR).get4
 have HK:=Lib.hid (Kq.from_new hk)
 have HP:=Lib.hid hp
 have HS:=Lib.hid (show SitG elTm (w.heap.size+1) w2 [u] from hs.low (by simp))
 have HO:=Lib.hid ho
 clear hk hp hs ho
 go_wp2_with fail
 refine bodyPost_ret (v:=.tuple #[.agg #[.int .i64 u.kind,.int .i64 u.num,.string u.name,.slice u.at_ u.args.length u.cap],.int .i64 er]) (by simp [results,Tryz.results203,go_sem,c0,c1,c2,c3]) rfl ?_
 obtain ⟨e1,e2,e3⟩:=end4 hR HK.out HP.out HS.out (Nat.lt_succ_self _) (.int .i64 u.kind) (.int .i64 u.num) (.string u.name) (.slice u.at_ u.args.length u.cap)
 exact ⟨u,j,er,rfl,e1,e2,e3,HO.out⟩
theorem exprs_at (hg:GoodT l) (a:Nat):∀n,ExprQ R A c l a n (exprS n)
 | 0=>fun i w h _ hn=>absurd hn (by rw [left_length];have:=h.ilt;omega)
 | n+1=>fun i w h ha hn=>expr_at hg (fun i w h ha hn=>product_at hg (fun i w h ha hn=>opnd_at hg (exprs_at hg a n) i w h ha hn) i w h ha hn) i w h ha hn
end
end Go.Proofs.YtnghanpmmbcbbaaGreatDoor
namespace Go.Proofs.YtnghanpmmbcbbaaGreatDoor
open Go.RowKit
def opT (x:List UInt8):Int×Bool :=
 if x=[61] then (3,false) else
 if x=[105,115] then (4,false) else
 if x=[61,61] then (5,false) else
 if x=[92,61] then (6,false) else
 if x=[60] then (7,false) else
 if x=[61,60] then (8,false) else
 if x=[62] then (7,true) else
 if x=[62,61] then (8,true) else
 if x=[61,58,61] then (9,false) else
 if x=[61,92,61] then (10,false) else
 (0,false)
theorem cmp_left {l:List Tk} (hg:GoodT l) {i:Nat} (hi:i < l.length):cmpS (leftT l i)=opT (l.getD i default).2.2:=by
 have hk:=hg.kinds i hi
 rw [left_cons hi]
 generalize (l.getD i default).2.2=x at hk ⊢
 rw [hk]
 by_cases h0:x=[61]
 ·subst h0;rfl
 by_cases h1:x=[105,115]
 ·subst h1;rfl
 by_cases h2:x=[61,61]
 ·subst h2;rfl
 by_cases h3:x=[92,61]
 ·subst h3;rfl
 by_cases h4:x=[60]
 ·subst h4;rfl
 by_cases h5:x=[61,60]
 ·subst h5;rfl
 by_cases h6:x=[62]
 ·subst h6;rfl
 by_cases h7:x=[62,61]
 ·subst h7;rfl
 by_cases h8:x=[61,58,61]
 ·subst h8;rfl
 by_cases h9:x=[61,92,61]
 ·subst h9;rfl
 have e1:opT x=(0,false):=by simp only [opT,h0,h1,h2,h3,h4,h5,h6,h7,h8,h9,if_false]
 rw [e1]
 simp only [cmpS,h0,h1,h2,h3,h4,h5,h6,h7,h8,h9,and_false,if_false]
 split<;>rfl
set_option maxHeartbeats 4000000 in
set_option maxRecDepth 100000 in
theorem cmpop_at (x:List UInt8) (w:World):Calls Tryz.prog 207 #[.string (S x)] w fun e w'=>e=.returned (.tuple #[.int .i64 (opT x).1,.bool (opT x).2])∧w=w':=by
 by_cases h0:x=[61]
 ·subst h0
  go_enter Tryz.func207,Tryz.ntmps207
  go_wp2_with fail
  exact bodyPost_ret (v:=.tuple #[.int .i64 3,.bool false]) (by simp [results,Tryz.results207,go_sem]) rfl ⟨rfl,rfl⟩
 have g0:(x==[61])=false:=beq_eq_false_iff_ne.2 h0
 by_cases h1:x=[105,115]
 ·subst h1
  go_enter Tryz.func207,Tryz.ntmps207
  go_wp2_with fail
  exact bodyPost_ret (v:=.tuple #[.int .i64 4,.bool false]) (by simp [results,Tryz.results207,go_sem]) rfl ⟨rfl,rfl⟩
 have g1:(x==[105,115])=false:=beq_eq_false_iff_ne.2 h1
 by_cases h2:x=[61,61]
 ·subst h2
  go_enter Tryz.func207,Tryz.ntmps207
  go_wp2_with fail
  exact bodyPost_ret (v:=.tuple #[.int .i64 5,.bool false]) (by simp [results,Tryz.results207,go_sem]) rfl ⟨rfl,rfl⟩
 have g2:(x==[61,61])=false:=beq_eq_false_iff_ne.2 h2
 by_cases h3:x=[92,61]
 ·subst h3
  go_enter Tryz.func207,Tryz.ntmps207
  go_wp2_with fail
  exact bodyPost_ret (v:=.tuple #[.int .i64 6,.bool false]) (by simp [results,Tryz.results207,go_sem]) rfl ⟨rfl,rfl⟩
 have g3:(x==[92,61])=false:=beq_eq_false_iff_ne.2 h3
 by_cases h4:x=[60]
 ·subst h4
  go_enter Tryz.func207,Tryz.ntmps207
  go_wp2_with fail
  exact bodyPost_ret (v:=.tuple #[.int .i64 7,.bool false]) (by simp [results,Tryz.results207,go_sem]) rfl ⟨rfl,rfl⟩
 have g4:(x==[60])=false:=beq_eq_false_iff_ne.2 h4
 by_cases h5:x=[61,60]
 ·subst h5
  go_enter Tryz.func207,Tryz.ntmps207
  go_wp2_with fail
  exact bodyPost_ret (v:=.tuple #[.int .i64 8,.bool false]) (by simp [results,Tryz.results207,go_sem]) rfl ⟨rfl,rfl⟩
 have g5:(x==[61,60])=false:=beq_eq_false_iff_ne.2 h5
 by_cases h6:x=[62]
 ·subst h6
  go_enter Tryz.func207,Tryz.ntmps207
  go_wp2_with fail
  exact bodyPost_ret (v:=.tuple #[.int .i64 7,.bool true]) (by simp [results,Tryz.results207,go_sem]) rfl ⟨rfl,rfl⟩
 have g6:(x==[62])=false:=beq_eq_false_iff_ne.2 h6
 by_cases h7:x=[62,61]
 ·subst h7
  go_enter Tryz.func207,Tryz.ntmps207
  go_wp2_with fail
  exact bodyPost_ret (v:=.tuple #[.int .i64 8,.bool true]) (by simp [results,Tryz.results207,go_sem]) rfl ⟨rfl,rfl⟩
 have g7:(x==[62,61])=false:=beq_eq_false_iff_ne.2 h7
 by_cases h8:x=[61,58,61]
 ·subst h8
  go_enter Tryz.func207,Tryz.ntmps207
  go_wp2_with fail
  exact bodyPost_ret (v:=.tuple #[.int .i64 9,.bool false]) (by simp [results,Tryz.results207,go_sem]) rfl ⟨rfl,rfl⟩
 have g8:(x==[61,58,61])=false:=beq_eq_false_iff_ne.2 h8
 by_cases h9:x=[61,92,61]
 ·subst h9
  go_enter Tryz.func207,Tryz.ntmps207
  go_wp2_with fail
  exact bodyPost_ret (v:=.tuple #[.int .i64 10,.bool false]) (by simp [results,Tryz.results207,go_sem]) rfl ⟨rfl,rfl⟩
 have g9:(x==[61,92,61])=false:=beq_eq_false_iff_ne.2 h9
 have e1:opT x=(0,false):=by simp only [opT,h0,h1,h2,h3,h4,h5,h6,h7,h8,h9,if_false]
 rw [e1]
 clear h0 h1 h2 h3 h4 h5 h6 h7 h8 h9 e1
 go_enter Tryz.func207,Tryz.ntmps207
 go_wp2_with fail
 exact bodyPost_ret (v:=.tuple #[.int .i64 0,.bool false]) (by simp [results,Tryz.results207,go_sem]) rfl ⟨rfl,rfl⟩
def NameP (ts:List Tok) (x:Tm):Prop:=∀t g r,ts=(1,t,g) :: r→x.name.data.toList=t∨opB x.name.data.toList=true
def NamesP (O:Rd1 Tm):Prop:=∀ts ns x r ns2,O ts ns=.ok x r ns2→NameP ts x
theorem chain_name {ops:List (List UInt8)} (hops:∀t∈ops,opB t=true) {O:Rd1 Tm}:∀(n:Nat) (ts:List Tok),ts.length≤n→∀(T:List Tok) y ns x r ns2,chainS ops O y ts ns=.ok x r ns2→NameP T y→NameP T x
 | n,[],_,T,y,ns,x,r,ns2,h,hy=>by
  rw [chainS] at h
  injection h with h
  rw [←h];exact hy
 | 0,_ :: _,hn,_,_,_,_,_,_,_,_=>absurd hn (by simp)
 | n+1,(k,t,g) :: q,hn,T,y,ns,x,r,ns2,h,hy=>by
  rw [chainS] at h
  split at h
  ·rename_i hk
   split at h
   ·split at h
    ·rename_i hl
     refine chain_name hops n _ (by simp only [List.length_cons] at hl hn;omega) T _ _ _ _ _ h ?_
     intro t' g' r' _
     exact .inr (hops t hk.2)
    ·cases h
   ·cases h
  ·injection h with h
   rw [←h];exact hy
theorem level_name {ops:List (List UInt8)} (hops:∀t∈ops,opB t=true) {O:Rd1 Tm} (hO:NamesP O):NamesP (levelS ops O):=by
 intro ts ns x r ns2 h
 simp only [levelS] at h
 split at h
 ·rename_i hf
  exact chain_name hops _ _ (Nat.le_refl _) ts _ _ _ _ _ h (hO _ _ _ _ _ hf)
 ·cases h
theorem opnd_name (ex:Rd1 Tm):NamesP (opndS ex):=by
 intro ts ns x r ns2 h t g q e
 subst e
 simp only [opndS,show ¬(1:Int)=3 by omega,show ¬(1:Int)=2 by omega,if_false,if_true] at h
 split at h
 ·rename_i y r2 ns3 hf
  injection h with h
  rw [←h]
  refine .inl ?_
  simp only [atomS] at hf
  split at hf
  ·cases hf
  ·rename_i t2 r3 ns4 hm
   have ht:t2=t:=by
    simp only [nmS] at hm
    split at hm
    ·rename_i h1;exact absurd rfl h1
    ·split at hm
     ·cases hm
     ·injection hm with hm;exact hm.symm
   subst ht
   split at hf
   ·split at hf
    ·injection hf with hf;rw [←hf];rfl
    ·cases hf
   ·injection hf with hf;rw [←hf];rfl
 ·cases h
theorem add_op:∀t∈addS,opB t=true:=by
 intro t h
 simp only [addS,List.mem_cons,List.not_mem_nil,or_false] at h
 rcases h with rfl|rfl<;>rfl
theorem mul_op:∀t∈mulS,opB t=true:=by
 intro t h
 simp only [mulS,List.mem_cons,List.not_mem_nil,or_false] at h
 rcases h with rfl|rfl|rfl<;>rfl
theorem expr_name:∀n,NamesP (exprS n)
 | 0=>fun ts ns x r ns2 h=>by cases h
 | n+1=>level_name add_op (level_name mul_op (opnd_name _))
theorem expr_res (n:Nat) {t:List UInt8} (h:resB t=true) (g:Bool) (r:List Tok) (ns:List (List UInt8)):exprS (n+1) ((1,t,g) :: r) ns=.err ((1,t,g) :: r).length 7:=by
 simp only [exprS,levelS,opndS,atomS,nmS,show ¬(1:Int)=3 by omega,show ¬(1:Int)=2 by omega,if_false,if_true,h,ne_eq,not_true_eq_false]
theorem op_kind {x:List UInt8} (h:opB x=true):kindO x=4:=by
 have:x∈addS∨x∈mulS:=by
  simp only [opB,operators,decide_eq_true_eq,List.mem_cons,List.not_mem_nil,or_false] at h
  simp only [addS,mulS,List.mem_cons,List.not_mem_nil,or_false]
  rcases h with h|h|h|h|h<;>simp [h]
 exact this.elim add_kind mul_kind
end Go.Proofs.YtnghanpmmbcbbaaGreatDoor
namespace Go.Proofs.YtnghanpmmbcbbaaGreatDoor
open Go.RowKit
theorem gl_blk (g:Gl):elGl.blkL [g]=blkA g.at_ g.args.length++elTm.blkL g.args:=by
 rw [Elt.blkL_one];show blkA g.at_ g.args.length++blkL g.args=_;rw [blkL_flat];rfl
theorem sit_goal {lo b c:Nat} {W w':World} {op:Int} {s:ByteArray} {L:List Tm} (h:SitG elTm lo W L) (hb:Below W.heap.size W w') (hl:Lst w' (some ⟨b,0,none⟩) L c) (hb1:W.heap.size≤b) (hb2:b < w'.heap.size) (hlo:lo≤W.heap.size) (ho:Fits op) (hs:s.size≤maxLen) (hfz:∀j,w'.frozen? ⟨b,j,none⟩=false) :
  SitG elGl lo w' [⟨op,s,some ⟨b,0,none⟩,c,L⟩]:=by
 refine ⟨fun x hx=>by rw [List.mem_singleton.1 hx];exact ⟨ho,hs,hl⟩,?_,fun k hk=>?_,fun k hk=>?_⟩
 ·rw [gl_blk]
  by_cases h0:L.length=0
  ·rw [blkA,if_pos h0];exact h.nd
  ·rw [blkA,if_neg h0,blkO,List.singleton_append,List.nodup_cons]
   exact ⟨fun hx=>by have:=(h.bd _ hx).2;simp only at this;omega,h.nd⟩
 ·rw [gl_blk] at hk
  rcases List.mem_append.1 hk with hk|hk
  ·by_cases h0:L.length=0
   ·rw [blkA,if_pos h0] at hk;cases hk
   ·rw [blkA,if_neg h0,blkO,List.mem_singleton] at hk
    simp only at hk
    subst hk
    exact ⟨Nat.le_trans hlo hb1,hb2⟩
  ·have:=h.bd k hk
   exact ⟨this.1,Nat.lt_of_lt_of_le this.2 hb.size⟩
 ·rw [gl_blk] at hk
  rcases List.mem_append.1 hk with hk|hk
  ·by_cases h0:L.length=0
   ·rw [blkA,if_pos h0] at hk;cases hk
   ·rw [blkA,if_neg h0,blkO,List.mem_singleton] at hk
    simp only at hk
    subst hk
    exact hfz
  ·intro j
   rw [World.frozen?_of_block (a:=⟨k,j,none⟩) (hb.block k (h.bd k hk).2)]
   exact h.fz k hk j
theorem sit_goal0 (lo:Nat) (w:World) {op:Int} (ho:Fits op):SitG elGl lo w [⟨op,⟨#[]⟩,none,0,[]⟩] :=
 ⟨fun x hx=>by rw [List.mem_singleton.1 hx];exact ⟨ho,Nat.zero_le _,Lst.nil w⟩,by rw [gl_blk];simp [blkA,Elt.blkL],fun k hk=>(by rw [gl_blk] at hk;simp [blkA,Elt.blkL] at hk),fun k hk=>(by rw [gl_blk] at hk;simp [blkA,Elt.blkL] at hk)⟩
theorem sit_call {lo:Nat} {w:World} {u:Tm} (h:SitG elTm lo w [u]):SitG elGl lo w [⟨0,u.name,u.at_,u.cap,u.args⟩]:=by
 have hat:=(At_iff _ _).1 (h.at_ u (List.mem_singleton.2 rfl))
 have e:elGl.blkL [⟨0,u.name,u.at_,u.cap,u.args⟩]=elTm.blkL [u]:=by
  rw [gl_blk,Elt.blkL_one]
  obtain ⟨k,n,s,A,c,a⟩:=u
  show blkA A a.length++elTm.blkL a=(Tm.mk k n s A c a).blk
  rw [Tm.blk,blkL_flat];rfl
 exact ⟨fun x hx=>by rw [List.mem_singleton.1 hx];exact ⟨by unfold Fits;simp,hat.1.2.2,hat.2⟩,by rw [e];exact h.nd,fun b hb=>h.bd b (by rw [e] at hb;exact hb),fun b hb=>h.fz b (by rw [e] at hb;exact hb)⟩
theorem row1_lst (w:World) (u:Tm) (hu:u.At w):Lst (w.alloc (.cells #[.int .i64 u.kind,.int .i64 u.num,.string u.name,.slice u.at_ u.args.length u.cap] 69)) (some ⟨w.heap.size,0,none⟩) [u] 1:=by
 have hb:=(Below.refl w.heap.size w).alloc (Nat.le_refl _) (.cells #[.int .i64 u.kind,.int .i64 u.num,.string u.name,.slice u.at_ u.args.length u.cap] 69)
 have hc:=(BoxL.new w [.int .i64 u.kind,.int .i64 u.num,.string u.name,.slice u.at_ u.args.length u.cap] 69).cells
 refine ⟨Nat.le_refl _,by unfold maxLen;omega,fun _=>⟨w.heap.size,0,rfl,?_⟩⟩
 simp only [RowAt]
 exact ⟨⟨hc 0 _ rfl,hc 1 _ rfl,hc 2 _ rfl,hc 3 _ rfl⟩,hu.below hb,trivial⟩
def checkS (ex:Rd1 Tm) (op:Int):Rd1 Gs:=fun ts ns =>
 if isS [40] ts then (match ex ts.tail ns with
  | .ok x r2 ns2=>wantS [41] (op,[],[x]) r2 ns2
  | .err l e=>.err l e) else .err ts.length 16
section
variable {R:Nat} {A:Option Addr} {c:Nat} {l:List Tk}
set_option maxHeartbeats 4000000 in
set_option maxRecDepth 10000 in
theorem check_at (hg:GoodT l) {a n:Nat} {ex:Rd1 Tm} (hE:ExprQ R A c l a n ex) (op:Int) (hop:Fits op) (i:Nat) (w:World) (h:Pq w R A c l i) (ha:a≤i) (hn:(leftT l i).length≤n+1) :
  Calls Tryz.prog 179 #[.pointer (some ⟨R,0,none⟩),.int .i64 op] w (ElR rdGl (checkS ex op) R A c l a i w):=by
 have HG:=Lib.hid hg
 have hR:=h.lt
 have hTR:w.heap.size≠R:=by omega
 have HI:=Lib.hid h.ilt
 have HO:=Lib.hid hop
 obtain ⟨b,hb⟩:∃b,((l.getD i default).2.2==[40])=b:=⟨_,rfl⟩
 have HX:=Lib.hid (show isS [40] (leftT l i)=b by rw [isS_left hg h.ilt (by decide)];exact hb)
 have QX:=Lib.hid (expect_at hg (h.alloc (.cells #[.int .i64 0,.string ⟨#[]⟩,.slice none 0 0] 59)) [40] (by decide) hb)
 have QG:=Lib.hid (fun W (hW:Pq W R A c l (i+1))=>group_at hg hE (i+1) W hW (by omega) (by rw [left_length] at hn ⊢;have:=h.ilt;omega))
 clear hg hE h ha hn hb hop
 have HB0:=Lib.hid (BoxL.new w [.int .i64 0,.string ⟨#[]⟩,.slice none 0 0] 59)
 cases b
 ·go_enter Tryz.func179,Tryz.ntmps179
  go_wp2_with (go_at_call 98;refine QX.out.mono ?_;rintro e w3 ⟨rfl,hk3,hp3⟩;have HK3:=Lib.hid (Kq.from_new hk3);obtain ⟨c0,c1,c2,f0,f1,f2⟩:=(HB0.out.kq hk3 hTR).get3;have HP3:=Lib.hid (show Pq w3 R A c l i from hp3);clear hk3 hp3)
  refine bodyPost_ret (v:=.tuple #[.agg #[.int .i64 0,.string ⟨#[]⟩,.slice none 0 0],.int .i64 16]) (by simp [results,Tryz.results179,go_sem,c0,c1,c2]) rfl ?_
  obtain ⟨e1,e2,e3⟩:=end3 hR HK3.out HP3.out (sit_goal0 (w.heap.size+1) w3 (op:=0) (by unfold Fits;omega)) (Nat.lt_succ_self _) (.int .i64 0) (.string ⟨#[]⟩) (.slice none 0 0)
  refine ⟨⟨0,⟨#[]⟩,none,0,[]⟩,i,16,rfl,e1,e2,e3,.inr ⟨by omega,?_⟩⟩
  simp only [checkS,HX.out]
  rfl
 ·go_enter Tryz.func179,Tryz.ntmps179
  go_wp2_with (go_at_call 98;refine QX.out.mono ?_;rintro e w3 ⟨rfl,hk3,hp3⟩;have HK3:=Lib.hid (Kq.from_new hk3);have hsz3:w.heap.size+1≤w3.heap.size:=(by have:=hk3.size;simpa using this);have HB3:=Lib.hid (HB0.out.kq hk3 hTR);have HP3:=Lib.hid (show Pq w3 R A c l (i+1) from hp3);clear hk3 hp3)
  refine (QG.out _ HP3.out).mono ?_
  rintro e w5 ⟨u,j,er,he,hk5,hp5,hs5,ho⟩
  have he2:e=.returned (.tuple #[.agg #[.int .i64 u.kind,.int .i64 u.num,.string u.name,.slice u.at_ u.args.length u.cap],.int .i64 er]):=he
  clear he
  subst he2
  have hsz5:w3.heap.size≤w5.heap.size:=hk5.size
  have hb5:=((Below.refl w5.heap.size w5).alloc (Nat.le_refl _) (.cells #[.int .i64 u.kind,.int .i64 u.num,.string u.name,.slice u.at_ u.args.length u.cap] 69))
  have hb6:=hb5.alloc (by simp) (.cells #[.int .i64 u.kind,.int .i64 u.num,.string u.name,.slice u.at_ u.args.length u.cap] 69)
  have hrow:=row1_lst (w5.alloc (.cells #[.int .i64 u.kind,.int .i64 u.num,.string u.name,.slice u.at_ u.args.length u.cap] 69)) u ((hs5.at_ u (List.mem_singleton.2 rfl)).below hb5)
  rw [show (w5.alloc (.cells #[.int .i64 u.kind,.int .i64 u.num,.string u.name,.slice u.at_ u.args.length u.cap] 69)).heap.size=w5.heap.size+1 by simp] at hrow
  have HS:=Lib.hid (sit_goal (op:=op) (s:=⟨#[]⟩) (hs5.low (show w.heap.size+1≤w3.heap.size from hsz3)) hb6 hrow (by omega) (by simp) (by omega) HO.out (Nat.zero_le _) (fun j=>by rw [←show (w5.alloc (.cells #[.int .i64 u.kind,.int .i64 u.num,.string u.name,.slice u.at_ u.args.length u.cap] 69)).heap.size=w5.heap.size+1 by simp];exact World.frozen?_alloc_at _ _ _ _ rfl))
  have HK5:=Lib.hid ((HK3.out.trans hk5).trans (Below.kp hb6 R Z0))
  have HP5:=Lib.hid (hp5.below hb6)
  obtain ⟨c0,c1,c2,f0,f1,f2⟩:=((HB3.out.kq hk5 hTR).below hb6).get3
  have HOr:=Lib.hid ho
  clear hk5 hp5 hs5 ho hb5 hb6 hrow
  go_wp2_with fail
  refine bodyPost_ret (v:=.tuple #[.agg #[.int .i64 op,.string ⟨#[]⟩,.slice (some ⟨w5.heap.size+1,0,none⟩) 1 1],.int .i64 er]) (by simp [results,Tryz.results179,go_sem,c0,c1,c2]) rfl ?_
  obtain ⟨e1,e2,e3⟩:=end3 hR HK5.out HP5.out HS.out (Nat.lt_succ_self _) (.int .i64 op) (.string ⟨#[]⟩) (.slice (some ⟨w5.heap.size+1,0,none⟩) 1 1)
  refine ⟨⟨op,⟨#[]⟩,some ⟨w5.heap.size+1,0,none⟩,1,[u]⟩,j,er,rfl,e1,e2,e3,?_⟩
  have hns:nsL l a (i+1)=nsL l a i:=nsL_s HI.out HX.out
  rcases HOr.out with ⟨rfl,hf,hij,hv⟩|⟨her,hf⟩
  ·refine .inl ⟨rfl,?_,by omega,hv.wide (by omega) (Nat.le_refl _)⟩
   rw [hns] at hf
   simp only [checkS,HX.out,left_tail,if_true]
   revert hf
   generalize ex (leftT l (i+1)) (nsL l a i)=q
   cases q with
   | err n e=>intro hf;cases hf
   | ok x r2 ns2 =>
    intro hf
    simp only [wantS] at hf ⊢
    split at hf
    ·rename_i hw
     injection hf with h1 h2 h3
     rw [if_pos hw,h1,h2,h3]
     rfl
    ·cases hf
  ·refine .inr ⟨her,?_⟩
   rw [hns] at hf
   simp only [checkS,HX.out,left_tail,if_true]
   revert hf
   generalize ex (leftT l (i+1)) (nsL l a i)=q
   cases q with
   | err n e =>
    intro hf
    injection hf with h1 h2
    show PS.err n e=_
    rw [h1,h2]
   | ok x r2 ns2 =>
    intro hf
    simp only [wantS] at hf ⊢
    split at hf
    ·cases hf
    ·rename_i hw
     rw [if_neg hw]
     injection hf with h1 h2
     rw [h1,← h2]
end
end Go.Proofs.YtnghanpmmbcbbaaGreatDoor
