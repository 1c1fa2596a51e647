/-
  RzChainP.
  RzExpr.
-/
import Derived.Test.YtaojnljppcnhjaaGreatDoorMh22
import Derived.Test.YtaojnljppcnhjaaGreatDoorMh16
import Derived.Test.YtaojnljppcnhjaaGreatDoorMh17
import Derived.Deep.CutRange
import Derived.Deep.CutBlock
namespace Go.Proofs.YtaojnljppcnhjaaGreatDoor
open Go.RowKit
structure BaseZ (R:Nat) (A:Option Addr) (c:Nat) (l:List Tk) (z0:Value) (w:World) (T:Nat) (wr:World) (q:Nat) (u:Tm) (z:Value) (ns:List (List UInt8)) (a:Nat) (er:Int):Prop where
 k:Kp R z0 z w wr
 p:Pr wr R A c l q z ns a er
 box:BoxL wr T [.int .i64 u.kind,.int .i64 u.num,.string u.name,.slice u.at_ u.args.length u.cap]
 zero:BoxL wr w.heap.size [.int .i64 0,.int .i64 0,.string ⟨#[]⟩,.slice none 0 0]
 zw:z.ownBlock≠some w.heap.size
 zT:z.ownBlock≠some T
structure SideZ (w:World) (T:Nat) (wr:World) (u:Tm) (z:Value):Prop where
 sit:SitZ elTm (w.heap.size+1) z wr [u]
 out:T∉elTm.blkL [u]
structure MidZ (R:Nat) (A:Option Addr) (c:Nat) (l:List Tk) (z0:Value) (w:World) (T:Nat) (wr:World) (q:Nat) (u:Tm) (z:Value) (ns:List (List UInt8)) (a:Nat):Prop where
 b:BaseZ R A c l z0 w T wr q u z ns a 0
 s:SideZ w T wr u z
section
variable {R:Nat} {A:Option Addr} {c:Nat} {l:List Tk} {z0 z z6:Value} {w wr w' w6:World} {T q j:Nat} {u y:Tm} {ns ns6:List (List UInt8)} {a a6:Nat} {er e6:Int}
theorem BaseZ.below (h:BaseZ R A c l z0 w T wr q u z ns a er) (hb:Below wr.heap.size wr w'):BaseZ R A c l z0 w T w' q u z ns a er :=
 ⟨h.k.trans (Below.kp hb R z),h.p.below hb,h.box.below hb,h.zero.below hb,h.zw,h.zT⟩
theorem MidZ.below (h:MidZ R A c l z0 w T wr q u z ns a) (hb:Below wr.heap.size wr w'):MidZ R A c l z0 w T w' q u z ns a :=
 ⟨h.b.below hb,h.s.sit.below hb,h.s.out⟩
theorem MidZ.next (h:MidZ R A c l z0 w T wr q u z ns a) (hT:w.heap.size < T) (hR:R < w.heap.size) (hk:Kp R z z wr w') (hp:Pr w' R A c l j z ns a 0):MidZ R A c l z0 w T w' j u z ns a :=
 ⟨⟨h.b.k.trans hk,hp,h.b.box.kz hk (by omega) h.b.zT,h.b.zero.kz hk (by omega) h.b.zw,h.b.zw,h.b.zT⟩,h.s.sit.kp hk (by omega),h.s.out⟩
theorem BaseZ.boxes (h:BaseZ R A c l z0 w T wr q u z ns a er) (hT:w.heap.size < T) (hR:R < w.heap.size) (hk:Kp R z z6 (wr.alloc (.cells #[.int .i64 0,.int .i64 0,.string ⟨#[]⟩,.slice none 0 0] 56)) w6) :
  BoxL w6 T [.int .i64 u.kind,.int .i64 u.num,.string u.name,.slice u.at_ u.args.length u.cap]∧BoxL w6 wr.heap.size [.int .i64 0,.int .i64 0,.string ⟨#[]⟩,.slice none 0 0]∧BoxL w6 w.heap.size [.int .i64 0,.int .i64 0,.string ⟨#[]⟩,.slice none 0 0]∧T < wr.heap.size∧w.heap.size < wr.heap.size∧wr.heap.size < w6.heap.size∧z6.ownBlock≠some T∧z6.ownBlock≠some wr.heap.size∧z6.ownBlock≠some w.heap.size:=by
 have hb:=(Below.refl wr.heap.size wr).alloc (Nat.le_refl _) (.cells #[.int .i64 0,.int .i64 0,.string ⟨#[]⟩,.slice none 0 0] 56)
 have h1:=h.box.lt
 have h2:=h.zero.lt
 have h3:=hk.size
 simp only [World.size_alloc] at h3
 have hzn:=h.p.znew
 exact ⟨(h.box.below hb).kz hk (by omega) h.zT,(BoxL.new wr [.int .i64 0,.int .i64 0,.string ⟨#[]⟩,.slice none 0 0] 56).kz hk (by omega) hzn,(h.zero.below hb).kz hk (by omega) h.zw,h1,h2,by omega,hk.off (by simp;omega) h.zT,hk.off (by simp) hzn,hk.off (by simp;omega) h.zw⟩
abbrev nextW (W7:World) (T:Nat) (u y:Tm) (x:List UInt8):World :=
 sets4 (W7.alloc (.cells #[.int .i64 u.kind,.int .i64 u.num,.string u.name,.slice u.at_ u.args.length u.cap,.int .i64 y.kind,.int .i64 y.num,.string y.name,.slice y.at_ y.args.length y.cap] 56)) T (.int .i64 2) (.int .i64 0) (.string (S x)) (.slice (some ⟨W7.heap.size,0,none⟩) 2 2)
theorem sets4_size (w:World) (T:Nat) (v0 v1 v2 v3:Value):(sets4 w T v0 v1 v2 v3).heap.size=w.heap.size:=by simp [World.setCell]
theorem BaseZ.call (h:BaseZ R A c l z0 w T wr q u z ns a er) (hT:w.heap.size < T) (hR:R < w.heap.size) (hk:Kp R z z6 (wr.alloc (.cells #[.int .i64 0,.int .i64 0,.string ⟨#[]⟩,.slice none 0 0] 56)) w6) (hp:Pr w6 R A c l j z6 ns6 a6 e6) (x:List UInt8) :
  BaseZ R A c l z0 w T (nextW (sets4 w6 wr.heap.size (.int .i64 y.kind) (.int .i64 y.num) (.string y.name) (.slice y.at_ y.args.length y.cap)) T u y x) j (.mk 2 0 (S x) (some ⟨(sets4 w6 wr.heap.size (.int .i64 y.kind) (.int .i64 y.num) (.string y.name) (.slice y.at_ y.args.length y.cap)).heap.size,0,none⟩) 2 [u,y]) z6 ns6 a6 e6:=by
 obtain ⟨b1,b2,b3,h1,h2,h3,n1,n2,n3⟩:=h.boxes hT hR hk
 have hk2:Kp R z0 z6 w w6:=h.k.trans hk.from_alloc
 have hRF:R < wr.heap.size:=by omega
 have hRT:R < T:=by omega
 have k7:Kp R z0 z6 w (sets4 w6 wr.heap.size (.int .i64 y.kind) (.int .i64 y.num) (.string y.name) (.slice y.at_ y.args.length y.cap)):=(((hk2.put (p:=⟨wr.heap.size,0,none⟩) (by show w.heap.size≤wr.heap.size;omega) _).put (p:=⟨wr.heap.size,1,none⟩) (by show w.heap.size≤wr.heap.size;omega) _).put (p:=⟨wr.heap.size,2,none⟩) (by show w.heap.size≤wr.heap.size;omega) _).put (p:=⟨wr.heap.size,3,none⟩) (by show w.heap.size≤wr.heap.size;omega) _
 have p7:Pr (sets4 w6 wr.heap.size (.int .i64 y.kind) (.int .i64 y.num) (.string y.name) (.slice y.at_ y.args.length y.cap)) R A c l j z6 ns6 a6 e6:=(((hp.store (p:=⟨wr.heap.size,0,none⟩) hRF n2 _).store (p:=⟨wr.heap.size,1,none⟩) hRF n2 _).store (p:=⟨wr.heap.size,2,none⟩) hRF n2 _).store (p:=⟨wr.heap.size,3,none⟩) hRF n2 _
 have hTle:w.heap.size≤T:=by omega
 refine ⟨((((k7.alloc _).put (p:=⟨T,0,none⟩) hTle _).put (p:=⟨T,1,none⟩) hTle _).put (p:=⟨T,2,none⟩) hTle _).put (p:=⟨T,3,none⟩) hTle _,
  ((((p7.alloc _).store (p:=⟨T,0,none⟩) hRT n1 _).store (p:=⟨T,1,none⟩) hRT n1 _).store (p:=⟨T,2,none⟩) hRT n1 _).store (p:=⟨T,3,none⟩) hRT n1 _,
  ((b1.other4 (by omega) _ _ _ _).alloc _).set4 _ _ _ _,((b3.other4 (by omega) _ _ _ _).alloc _).other4 (by omega) _ _ _ _,n3,n1⟩
theorem SideZ.call (h:MidZ R A c l z0 w T wr q u z ns a) (hT:w.heap.size < T) (hR:R < w.heap.size) (hk:Kp R z z6 (wr.alloc (.cells #[.int .i64 0,.int .i64 0,.string ⟨#[]⟩,.slice none 0 0] 56)) w6) (hp:Pr w6 R A c l j z6 ns6 a6 e6) (hs:SitZ elTm (wr.alloc (.cells #[.int .i64 0,.int .i64 0,.string ⟨#[]⟩,.slice none 0 0] 56)).heap.size z6 w6 [y]) {x:List UInt8} (hx:x.length≤16384) :
  SideZ w T (nextW (sets4 w6 wr.heap.size (.int .i64 y.kind) (.int .i64 y.num) (.string y.name) (.slice y.at_ y.args.length y.cap)) T u y x) (.mk 2 0 (S x) (some ⟨(sets4 w6 wr.heap.size (.int .i64 y.kind) (.int .i64 y.num) (.string y.name) (.slice y.at_ y.args.length y.cap)).heap.size,0,none⟩) 2 [u,y]) z6:=by
 unfold nextW
 rw [sets4_size]
 obtain ⟨b1,b2,b3,h1,h2,h3,n1,n2,n3⟩:=h.b.boxes hT hR hk
 have hsu:=(h.s.sit.alloc (.cells #[.int .i64 0,.int .i64 0,.string ⟨#[]⟩,.slice none 0 0] 56)).kp hk (by omega)
 have hall:SitZ elTm (w.heap.size+1) z6 w6 [u,y]:=hsu.append (hs.low (by simp;omega))
 have hF:wr.heap.size∉elTm.blkL [u,y]:=by
  intro hb
  have e:elTm.blkL [u,y]=elTm.blkL [u]++elTm.blkL [y]:=Elt.blkL_append elTm [u] [y]
  rw [e] at hb
  rcases List.mem_append.1 hb with hb|hb
  ·have:=(h.s.sit.bd _ hb).2;omega
  ·have:=(hs.bd _ hb).1;simp at this;omega
 have hTo:T∉elTm.blkL [u,y]:=by
  intro hb
  have e:elTm.blkL [u,y]=elTm.blkL [u]++elTm.blkL [y]:=Elt.blkL_append elTm [u] [y]
  rw [e] at hb
  rcases List.mem_append.1 hb with hb|hb
  ·exact h.s.out hb
  ·have:=(hs.bd _ hb).1;simp at this;omega
 have hs7:=hall.sets4 hF (.int .i64 y.kind) (.int .i64 y.num) (.string y.name) (.slice y.at_ y.args.length y.cap)
 have hs6:(sets4 w6 wr.heap.size (.int .i64 y.kind) (.int .i64 y.num) (.string y.name) (.slice y.at_ y.args.length y.cap)).heap.size=w6.heap.size:=by simp [World.setCell]
 have hrow:=row2_lst (sets4 w6 wr.heap.size (.int .i64 y.kind) (.int .i64 y.num) (.string y.name) (.slice y.at_ y.args.length y.cap)) u y (hs7.at_ u (by simp)) (hs7.at_ y (by simp))
 have hs8:=hs7.alloc (.cells #[.int .i64 u.kind,.int .i64 u.num,.string u.name,.slice u.at_ u.args.length u.cap,.int .i64 y.kind,.int .i64 y.num,.string y.name,.slice y.at_ y.args.length y.cap] 56)
 rw [hs6] at hrow
 have e:elTm.blkL [Tm.mk 2 0 (S x) (some ⟨w6.heap.size,0,none⟩) 2 [u,y]]=w6.heap.size :: elTm.blkL [u,y]:=by
  rw [Elt.blkL_one]
  show (Tm.mk 2 0 (S x) (some ⟨w6.heap.size,0,none⟩) 2 [u,y]).blk=_
  rw [Tm.blk,blkL_flat]
  rfl
 have hTg:T≠w6.heap.size:=by omega
 have hout:T∉elTm.blkL [Tm.mk 2 0 (S x) (some ⟨w6.heap.size,0,none⟩) 2 [u,y]]:=by
  rw [e]
  intro hb
  rcases List.mem_cons.1 hb with hb|hb
  ·exact hTg hb
  ·exact hTo hb
 have hsz8:((sets4 w6 wr.heap.size (.int .i64 y.kind) (.int .i64 y.num) (.string y.name) (.slice y.at_ y.args.length y.cap)).alloc (.cells #[.int .i64 u.kind,.int .i64 u.num,.string u.name,.slice u.at_ u.args.length u.cap,.int .i64 y.kind,.int .i64 y.num,.string y.name,.slice y.at_ y.args.length y.cap] 56)).heap.size=w6.heap.size+1:=by simp [World.setCell]
 have hs9:SitZ elTm (w.heap.size+1) z6 ((sets4 w6 wr.heap.size (.int .i64 y.kind) (.int .i64 y.num) (.string y.name) (.slice y.at_ y.args.length y.cap)).alloc (.cells #[.int .i64 u.kind,.int .i64 u.num,.string u.name,.slice u.at_ u.args.length u.cap,.int .i64 y.kind,.int .i64 y.num,.string y.name,.slice y.at_ y.args.length y.cap] 56)) [Tm.mk 2 0 (S x) (some ⟨w6.heap.size,0,none⟩) 2 [u,y]]:=by
  refine ⟨fun t ht=>?_,fun b hb=>?_,fun b hb=>?_⟩
  ·rw [List.mem_singleton.1 ht]
   exact (At_iff _ _).2 ⟨⟨by show Fits 2;unfold Fits;omega,by show Fits 0;unfold Fits;omega,by show (S x).size≤maxLen;simp only [ByteArray.size,List.size_toArray];unfold maxLen;omega⟩,hrow⟩
  ·rw [e] at hb
   rcases List.mem_cons.1 hb with rfl|hb
   ·exact ⟨by omega,by omega⟩
   ·exact hs8.bd b hb
  ·rw [e] at hb
   rcases List.mem_cons.1 hb with rfl|hb
   ·exact hp.znew
   ·exact hs8.out b hb
 exact ⟨hs9.sets4 hout _ _ _ _,hout⟩
structure ChainZ (ops:List (List UInt8)) (O:Rd1 Tm) (R:Nat) (A:Option Addr) (c:Nat) (l:List Tk) (i:Nat) (ns0:List (List UInt8)) (z0:Value) (w:World) (T gk:Nat) (ok:Bool) (wr:World) (q:Nat) (u:Tm) (z:Value) (ns:List (List UInt8)) (a:Nat) (er:Int):Prop where
 b:BaseZ R A c l z0 w T wr q u z ns a er
 res:(ok=true∧er=0∧SideZ w T wr u z∧l.length - q≤gk∧levelS ops O (leftT l i) ns0=chainS ops O u.strip (leftT l q) ns∧i < q∧ns.length+(leftT l q).length≤ns0.length+(leftT l i).length) ∨
  (ok=false∧er≠0∧∃m,a=offT l m∧levelS ops O (leftT l i) ns0=.err m er)
theorem chainz_start {ops : List (List UInt8)} {O : Rd1 Tm} {w1 : World} {i a0 : Nat} {b : Bool} (hR : R < w.heap.size) (h0 : Pr w R A c l i z ns a0 0) (ho : (b = true ∧ ∃ z' ns' j at_, Kp R z z' (w.alloc (.cells #[.int .i64 0, .int .i64 0, .string ⟨#[]⟩, .slice none 0 0] 56)) w1 ∧ Pr w1 R A c l j z' ns' at_ 0 ∧ O (leftT l i) ns = .ok u.strip (leftT l j) ns' ∧ i < j ∧ ns'.length + (leftT l j).length ≤ ns.length + (leftT l i).length ∧ SitZ elTm (w.alloc (.cells #[.int .i64 0, .int .i64 0, .string ⟨#[]⟩, .slice none 0 0] 56)).heap.size z' w1 [u]) ∨
      (b = false ∧ ∃ z' ns' j n e, Kp R z z' (w.alloc (.cells #[.int .i64 0, .int .i64 0, .string ⟨#[]⟩, .slice none 0 0] 56)) w1 ∧ Pr w1 R A c l j z' ns' (offT l n) e ∧ e ≠ 0 ∧ O (leftT l i) ns = .err n e)) :
  w.heap.size < w1.heap.size∧∃(q:Nat) (z':Value) (ns':List (List UInt8)) (a:Nat) (er:Int),ChainZ ops O R A c l i ns z w w1.heap.size (l.length - q) b (w1.alloc (.cells #[.int .i64 u.kind,.int .i64 u.num,.string u.name,.slice u.at_ u.args.length u.cap] 56)) q u z' ns' a er:=by
 have hb:=(Below.refl w1.heap.size w1).alloc (Nat.le_refl _) (.cells #[.int .i64 u.kind,.int .i64 u.num,.string u.name,.slice u.at_ u.args.length u.cap] 56)
 rcases ho with ⟨rfl,z',ns',j,at_,hk,hp,hf,hij,hl,hs⟩|⟨rfl,z',ns',j,n,e,hk,hp,he,hf⟩
 ·have hsz:=hk.size
  simp only [World.size_alloc] at hsz
  have hz:=hk.off (T:=w.heap.size) (by simp) h0.znew
  refine ⟨by omega,j,z',ns',at_,0,⟨(hk.from_alloc).alloc _,hp.below hb,BoxL.new w1 [.int .i64 u.kind,.int .i64 u.num,.string u.name,.slice u.at_ u.args.length u.cap] 56,((BoxL.new w [.int .i64 0,.int .i64 0,.string ⟨#[]⟩,.slice none 0 0] 56).kz hk (by omega) h0.znew).below hb,hz,hp.znew⟩,.inl ⟨rfl,rfl,⟨(hs.low (by simp)).below hb,fun hx=>absurd (hs.bd _ hx).2 (Nat.lt_irrefl _)⟩,Nat.le_refl _,by simp only [levelS,hf],hij,hl⟩⟩
 ·have hsz:=hk.size
  simp only [World.size_alloc] at hsz
  have hz:=hk.off (T:=w.heap.size) (by simp) h0.znew
  refine ⟨by omega,j,z',ns',offT l n,e,⟨(hk.from_alloc).alloc _,hp.below hb,BoxL.new w1 [.int .i64 u.kind,.int .i64 u.num,.string u.name,.slice u.at_ u.args.length u.cap] 56,((BoxL.new w [.int .i64 0,.int .i64 0,.string ⟨#[]⟩,.slice none 0 0] 56).kz hk (by omega) h0.znew).below hb,hz,hp.znew⟩,.inr ⟨rfl,he,n,rfl,by simp only [levelS,hf]⟩⟩
end
end Go.Proofs.YtaojnljppcnhjaaGreatDoor
namespace Go.Proofs.YtaojnljppcnhjaaGreatDoor
open Go.RowKit
set_option maxHeartbeats 40000000 in
set_option maxRecDepth 100000 in
theorem expr_z {R:Nat} {A:Option Addr} {c:Nat} {l:List Tk} (hg:GoodT l) {n:Nat} {O:Rd1 Tm}
  (hO:∀(i:Nat) (z:Value) (ns:List (List UInt8)) (at_:Nat) (w:World),Pr w R A c l i z ns at_ 0→(leftT l i).length≤n→ns.length+(leftT l i).length≤100000→Calls Tryz.prog 110 #[.pointer (some ⟨R,0,none⟩)] w (ElZ elTm Tm.val Tm.strip O R A c l i z ns w))
  (i:Nat) (z:Value) (ns:List (List UInt8)) (at_:Nat) (w:World) (h:Pr w R A c l i z ns at_ 0) (hn:(leftT l i).length≤n) (hns:ns.length+(leftT l i).length≤100000) :
  Calls Tryz.prog 88 #[.pointer (some ⟨R,0,none⟩)] w (ElZ elTm Tm.val Tm.strip (levelS addS O) R A c l i z ns w):=by
 have HG:=Lib.hid hg
 have hR:=h.lt
 have hTR:w.heap.size≠R:=by omega
 have HNn:=Lib.hid (And.intro hn hns)
 have H:=Lib.hid h
 have Q:=Lib.hid hO
 have Q0:=Lib.hid (hO i z ns at_ _ (h.alloc (.cells #[.int .i64 0,.int .i64 0,.string ⟨#[]⟩,.slice none 0 0] 56)) hn hns)
 clear hO h hn hns hg
 go_enter Tryz.func88,Tryz.ntmps88
 go_wp2_with fail
 refine Q0.out.mono ?_
 rintro e w1 ⟨u,b,he,ho⟩
 have he2:e=.returned (.tuple #[.agg #[.int .i64 u.kind,.int .i64 u.num,.string u.name,.slice u.at_ u.args.length u.cap],.bool b]):=he
 clear he
 subst he2
 obtain ⟨hsz,q,z1,ns1,a1,er,hC⟩:=chainz_start (ops:=addS) hR H.out ho
 have H0:=Lib.hid hC
 obtain ⟨T,hT⟩:∃T,T=w1.heap.size:=⟨_,rfl⟩
 rw [←hT] at H0
 have HTw:=Lib.hid (show w.heap.size < T by omega)
 have HT:=Lib.hid hT
 clear Q0 ho hC hsz hT
 go_wp2_with fail
 rw [←HT.out]
 go_loopg [5] (l.length - q) (fun gk ok wr=>∃(b:Bool) (q:Nat) (u:Tm) (z1:Value) (ns1:List (List UInt8)) (a1:Nat) (er:Int),ok=.bool b∧Hid (ChainZ addS O R A c l i ns z w T gk b wr q u z1 ns1 a1 er))
 case atStart=>exact ⟨b,q,u,z1,ns1,a1,er,rfl,H0⟩
 case round =>
  clear H0 HT
  obtain ⟨b,q,u,z1,ns1,a1,er,rfl,hI⟩:=hrel
  have hTw:=HTw.out
  have hTR2:¬T=R:=by omega
  have hRT2:¬R=T:=by omega
  obtain ⟨c0,c1,c2,c3,f0,f1,f2,f3⟩:=hI.out.b.zero.get4
  obtain ⟨t0,t1,t2,t3,g0,g1,g2,g3⟩:=hI.out.b.box.get4
  rcases hI.out.res with ⟨rfl,rfl,hS,hgk,hV,hiq,hl⟩|⟨rfl,her,m,ha,hV⟩
  ·obtain ⟨t,ht⟩:∃t,l.getD q default=t:=⟨_,rfl⟩
   obtain ⟨k,p,x⟩:=t
   have hqi:=hI.out.b.p.ilt
   have HK:=Lib.hid (And.intro hgk (And.intro hV (And.intro hiq (And.intro hl hqi))))
   have HM:=Lib.hid (show MidZ R A c l z w T wr q u z1 ns1 a1 from ⟨hI.out.b,hS⟩)
   have HTk:=Lib.hid ht
   have HX:=Lib.hid (show x.length≤16384 by have:=HG.out.texts q hqi;rw [ht] at this;exact this)
   have ft:=tok_text k (p:Int) (S x)
   have QT:=Lib.hid (fun W (hW:Pr W R A c l q z1 ns1 a1 0)=>r_tok_of hW ht)
   have QN:=Lib.hid (fun W (hW:Pr W R A c l q z1 ns1 a1 0) (hne:x≠[])=>z_next_at HG.out hW (by rw [ht];exact hne))
   have QO:=Lib.hid (fun W (hW:Pr W R A c l (q+1) z1 ns1 a1 0)=>Q.out (q+1) z1 ns1 a1 W hW (by have h1:=HNn.out.1;have h2:=HK.out.2.2.1;simp only [left_length] at h1 ⊢;omega) (by have h1:=HNn.out.2;have h2:=HK.out.2.2.2.1;simp only [left_length] at h1 h2 ⊢;omega))
   obtain ⟨b1,hb1⟩:∃b,(x==[43])=b:=⟨_,rfl⟩
   have Q1:=Lib.hid (fun W (hW:Pr W R A c l q z1 ns1 a1 0)=>z_is_at (b:=b1) HG.out hW [43] (by decide) (by rw [ht];exact hb1))
   have X1:=Lib.hid hb1
   obtain ⟨b2,hb2⟩:∃b,(x==[45])=b:=⟨_,rfl⟩
   have Q2:=Lib.hid (fun W (hW:Pr W R A c l q z1 ns1 a1 0)=>z_is_at (b:=b2) HG.out hW [45] (by decide) (by rw [ht];exact hb2))
   have X2:=Lib.hid hb2
   clear ht hS hgk hV hiq hl hqi hb1 hb2
   cases b1
   ·skip
    cases b2
    ·go_wp2_with (first
      | (go_at_call 47;(with_reducible refine (Q1.out _ HM.out.b.p).mono ?_);rintro en w11 ⟨rfl,hb⟩;have HM1:=Lib.hid (HM.out.below hb);clear hb)
      | (go_at_call 47;(with_reducible refine (Q2.out _ HM1.out.b.p).mono ?_);rintro en w12 ⟨rfl,hb⟩;have HM2:=Lib.hid (HM1.out.below hb);clear c0 c1 c2 c3 f0 f1 f2 f3 t0 t1 t2 t3 g0 g1 g2 g3;obtain ⟨c0,c1,c2,c3,f0,f1,f2,f3⟩:=HM2.out.b.zero.get4;obtain ⟨t0,t1,t2,t3,g0,g1,g2,g3⟩:=HM2.out.b.box.get4;clear hb))
     refine bodyPost_ret (v:=.tuple #[.agg #[.int .i64 u.kind,.int .i64 u.num,.string u.name,.slice u.at_ u.args.length u.cap],.bool true]) (by simp [results,Tryz.results88,go_sem,c0,c1,c2,c3]) rfl ?_
     obtain ⟨e1,e2⟩:=endz4 hR HM2.out.b.k HM2.out.b.p HM2.out.b.zw (.int .i64 u.kind) (.int .i64 u.num) (.string u.name) (.slice u.at_ u.args.length u.cap)
     refine ⟨u,true,rfl,.inl ⟨rfl,z1,ns1,q,a1,e1,e2,?_,HK.out.2.2.1,HK.out.2.2.2.1,HM2.out.s.sit.end4 (Nat.lt_succ_self _) _ _ _ _⟩⟩
     rw [HK.out.2.1]
     refine chain_stop (fun hx=>?_) HK.out.2.2.2.2
     rw [HTk.out] at hx
     simp only [addS,List.mem_cons,List.not_mem_nil,or_false] at hx
     rcases hx with hx|hx
     ·have:=X1.out;rw [show x=[43] from hx] at this;exact absurd this (by decide)
     ·have:=X2.out;rw [show x=[45] from hx] at this;exact absurd this (by decide)
    ·have hxe:x=[45]:=by simpa using X2.out
     have HXm:=Lib.hid (show x∈addS∧k=4∧x≠[] by
      have hx:x∈addS:=by rw [hxe];simp [addS]
      have hk4:k=4:=by
       have:=HG.out.kinds q HK.out.2.2.2.2
       rw [HTk.out] at this
       exact this.trans (add_kind hx)
      exact ⟨hx,hk4,by rw [hxe];decide⟩)
     clear hxe
     go_wp2_with (first
      | (go_at_call 47;(with_reducible refine (Q1.out _ HM.out.b.p).mono ?_);rintro en w11 ⟨rfl,hb⟩;have HM1:=Lib.hid (HM.out.below hb);clear hb)
      | (go_at_call 47;(with_reducible refine (Q2.out _ HM1.out.b.p).mono ?_);rintro en w12 ⟨rfl,hb⟩;have HM2:=Lib.hid (HM1.out.below hb);clear hb)
      | (go_at_call 27;(with_reducible refine (QT.out _ HM2.out.b.p).mono ?_);rintro en w18 ⟨rfl,hb⟩;have HM8:=Lib.hid (HM2.out.below hb);clear hb)
      | (go_at_call 48;(with_reducible refine (QN.out _ HM8.out.b.p HXm.out.2.2).mono ?_);rintro en w19 ⟨rfl,hk9,hp9⟩;have HM9:=Lib.hid (HM8.out.next hTw hR hk9 hp9);clear hk9 hp9))
     refine (QO.out _ (HM9.out.b.p.alloc _)).mono ?_
     rintro e w6 ⟨y,b,he,ho⟩
     have he2:e=.returned (.tuple #[.agg #[.int .i64 y.kind,.int .i64 y.num,.string y.name,.slice y.at_ y.args.length y.cap],.bool b]):=he
     clear he
     subst he2
     rcases ho with ⟨rfl,z6,ns6,j,a6,hk6,hp6,hf,hij,hl6,hs6⟩|⟨rfl,z6,ns6,j,m,e6,hk6,hp6,he6,hf⟩
     ·obtain ⟨bT,bF,bZ,hTF,hwF,hF6,n1,n2,n3⟩:=HM9.out.b.boxes hTw hR hk6
      have HNx:Hid (ChainZ addS O R A c l i ns z w T (gk - 1) true (nextW (sets4 w6 w19.heap.size (.int .i64 y.kind) (.int .i64 y.num) (.string y.name) (.slice y.at_ y.args.length y.cap)) T u y x) j (.mk 2 0 (S x) (some ⟨(sets4 w6 w19.heap.size (.int .i64 y.kind) (.int .i64 y.num) (.string y.name) (.slice y.at_ y.args.length y.cap)).heap.size,0,none⟩) 2 [u,y]) z6 ns6 a6 0):=Lib.hid ⟨HM9.out.b.call hTw hR hk6 hp6 x,.inl ⟨rfl,rfl,SideZ.call HM9.out hTw hR hk6 hp6 hs6 HX.out,by have:=HK.out.1;have:=HK.out.2.2.2.2;omega,by
       have e:=(chain_go (ops:=addS) (O:=O) (x:=u.strip) (ns:=ns1) (show (l.getD q default).2.2∈addS by rw [HTk.out];exact HXm.out.1) (by rw [HTk.out];exact HXm.out.2.1) HK.out.2.2.2.2).1 _ _ _ hf hij
       rw [HK.out.2.1,e,HTk.out]
       rfl,by have:=HK.out.2.2.1;omega,by have h1:=HK.out.2.2.2.1;simp only [left_length] at h1 hl6 ⊢;omega⟩⟩
      obtain ⟨W7,hW7⟩:∃W7,W7=sets4 w6 w19.heap.size (.int .i64 y.kind) (.int .i64 y.num) (.string y.name) (.slice y.at_ y.args.length y.cap):=⟨_,rfl⟩
      rw [←hW7] at HNx
      have HBT:BoxL W7 T [.int .i64 u.kind,.int .i64 u.num,.string u.name,.slice u.at_ u.args.length u.cap]:=hW7 ▸ bT.other4 (T:=w19.heap.size) (by omega) _ _ _ _
      obtain ⟨m0,m1,m2,m3,_,_,_,_⟩:=HBT.get4
      have o0:=fun o=>(HBT.alloc o).get4.2.2.2.2.1
      have o1:=fun o=>(HBT.alloc o).get4.2.2.2.2.2.1
      have o2:=fun o=>(HBT.alloc o).get4.2.2.2.2.2.2.1
      have o3:=fun o=>(HBT.alloc o).get4.2.2.2.2.2.2.2
      have v0:=fun o=>(HBT.alloc o).get4.1
      have v1:=fun o=>(HBT.alloc o).get4.2.1
      have v2:=fun o=>(HBT.alloc o).get4.2.2.1
      have v3:=fun o=>(HBT.alloc o).get4.2.2.2.1
      clear HBT
      obtain ⟨l0,l1,l2,l3,_,_,_,_⟩:=(hW7 ▸ bF.set4 _ _ _ _:BoxL W7 w19.heap.size [.int .i64 y.kind,.int .i64 y.num,.string y.name,.slice y.at_ y.args.length y.cap]).get4
      have hT7:¬T=W7.heap.size:=by rw [hW7,sets4_size];omega
      clear c0 c1 c2 c3 f0 f1 f2 f3 t0 t1 t2 t3 g0 g1 g2 g3
      obtain ⟨d0,d1,d2,d3,h0,h1,h2,h3⟩:=bF.get4
      have hTF1:¬T=w19.heap.size:=by omega
      have hTF2:¬w19.heap.size=T:=by omega
      have HGk:=Lib.hid (show gk - 1 < gk by have:=HK.out.1;have:=HK.out.2.2.2.2;omega)
      clear bT bF bZ hTF hwF hF6 n1 n2 n3 hk6 hp6 hf hij hl6 hs6
      go_upto_region 7 with (fail)
      have hW8:((((w6.setCell ⟨w19.heap.size,0,none⟩ (.int .i64 y.kind)).setCell ⟨w19.heap.size,1,none⟩ (.int .i64 y.num)).setCell ⟨w19.heap.size,2,none⟩ (.string y.name)).setCell ⟨w19.heap.size,3,none⟩ (.slice y.at_ y.args.length y.cap))=W7:=hW7.symm
      rw [hW8]
      clear hW7 hW8
      go_wp2_with fail
      go_roundg (gk - 1)
      case measure=>exact HGk.out
      case rel=>exact ⟨_,j,_,z6,ns6,_,_,rfl,HNx⟩
     ·obtain ⟨bT,bF,bZ,hTF,hwF,hF6,n1,n2,n3⟩:=HM9.out.b.boxes hTw hR hk6
      have HNx:Hid (ChainZ addS O R A c l i ns z w T (gk - 1) false (nextW (sets4 w6 w19.heap.size (.int .i64 y.kind) (.int .i64 y.num) (.string y.name) (.slice y.at_ y.args.length y.cap)) T u y x) j (.mk 2 0 (S x) (some ⟨(sets4 w6 w19.heap.size (.int .i64 y.kind) (.int .i64 y.num) (.string y.name) (.slice y.at_ y.args.length y.cap)).heap.size,0,none⟩) 2 [u,y]) z6 ns6 (offT l m) e6):=Lib.hid ⟨HM9.out.b.call hTw hR hk6 hp6 x,.inr ⟨rfl,he6,m,rfl,by
       have e:=(chain_go (ops:=addS) (O:=O) (x:=u.strip) (ns:=ns1) (show (l.getD q default).2.2∈addS by rw [HTk.out];exact HXm.out.1) (by rw [HTk.out];exact HXm.out.2.1) HK.out.2.2.2.2).2 _ _ hf
       rw [HK.out.2.1,e]⟩⟩
      obtain ⟨W7,hW7⟩:∃W7,W7=sets4 w6 w19.heap.size (.int .i64 y.kind) (.int .i64 y.num) (.string y.name) (.slice y.at_ y.args.length y.cap):=⟨_,rfl⟩
      rw [←hW7] at HNx
      have HBT:BoxL W7 T [.int .i64 u.kind,.int .i64 u.num,.string u.name,.slice u.at_ u.args.length u.cap]:=hW7 ▸ bT.other4 (T:=w19.heap.size) (by omega) _ _ _ _
      obtain ⟨m0,m1,m2,m3,_,_,_,_⟩:=HBT.get4
      have o0:=fun o=>(HBT.alloc o).get4.2.2.2.2.1
      have o1:=fun o=>(HBT.alloc o).get4.2.2.2.2.2.1
      have o2:=fun o=>(HBT.alloc o).get4.2.2.2.2.2.2.1
      have o3:=fun o=>(HBT.alloc o).get4.2.2.2.2.2.2.2
      have v0:=fun o=>(HBT.alloc o).get4.1
      have v1:=fun o=>(HBT.alloc o).get4.2.1
      have v2:=fun o=>(HBT.alloc o).get4.2.2.1
      have v3:=fun o=>(HBT.alloc o).get4.2.2.2.1
      clear HBT
      obtain ⟨l0,l1,l2,l3,_,_,_,_⟩:=(hW7 ▸ bF.set4 _ _ _ _:BoxL W7 w19.heap.size [.int .i64 y.kind,.int .i64 y.num,.string y.name,.slice y.at_ y.args.length y.cap]).get4
      have hT7:¬T=W7.heap.size:=by rw [hW7,sets4_size];omega
      clear c0 c1 c2 c3 f0 f1 f2 f3 t0 t1 t2 t3 g0 g1 g2 g3
      obtain ⟨d0,d1,d2,d3,h0,h1,h2,h3⟩:=bF.get4
      have hTF1:¬T=w19.heap.size:=by omega
      have hTF2:¬w19.heap.size=T:=by omega
      have HGk:=Lib.hid (show gk - 1 < gk by have:=HK.out.1;have:=HK.out.2.2.2.2;omega)
      clear bT bF bZ hTF hwF hF6 n1 n2 n3 hk6 hp6 hf he6
      go_upto_region 7 with (fail)
      have hW8:((((w6.setCell ⟨w19.heap.size,0,none⟩ (.int .i64 y.kind)).setCell ⟨w19.heap.size,1,none⟩ (.int .i64 y.num)).setCell ⟨w19.heap.size,2,none⟩ (.string y.name)).setCell ⟨w19.heap.size,3,none⟩ (.slice y.at_ y.args.length y.cap))=W7:=hW7.symm
      rw [hW8]
      clear hW7 hW8
      go_wp2_with fail
      go_roundg (gk - 1)
      case measure=>exact HGk.out
      case rel=>exact ⟨_,j,_,z6,ns6,_,_,rfl,HNx⟩
   ·have hxe:x=[43]:=by simpa using X1.out
    have HXm:=Lib.hid (show x∈addS∧k=4∧x≠[] by
     have hx:x∈addS:=by rw [hxe];simp [addS]
     have hk4:k=4:=by
      have:=HG.out.kinds q HK.out.2.2.2.2
      rw [HTk.out] at this
      exact this.trans (add_kind hx)
     exact ⟨hx,hk4,by rw [hxe];decide⟩)
    clear hxe
    go_wp2_with (first
     | (go_at_call 47;(with_reducible refine (Q1.out _ HM.out.b.p).mono ?_);rintro en w11 ⟨rfl,hb⟩;have HM1:=Lib.hid (HM.out.below hb);clear hb)
     | (go_at_call 27;(with_reducible refine (QT.out _ HM1.out.b.p).mono ?_);rintro en w18 ⟨rfl,hb⟩;have HM8:=Lib.hid (HM1.out.below hb);clear hb)
     | (go_at_call 48;(with_reducible refine (QN.out _ HM8.out.b.p HXm.out.2.2).mono ?_);rintro en w19 ⟨rfl,hk9,hp9⟩;have HM9:=Lib.hid (HM8.out.next hTw hR hk9 hp9);clear hk9 hp9))
    refine (QO.out _ (HM9.out.b.p.alloc _)).mono ?_
    rintro e w6 ⟨y,b,he,ho⟩
    have he2:e=.returned (.tuple #[.agg #[.int .i64 y.kind,.int .i64 y.num,.string y.name,.slice y.at_ y.args.length y.cap],.bool b]):=he
    clear he
    subst he2
    rcases ho with ⟨rfl,z6,ns6,j,a6,hk6,hp6,hf,hij,hl6,hs6⟩|⟨rfl,z6,ns6,j,m,e6,hk6,hp6,he6,hf⟩
    ·obtain ⟨bT,bF,bZ,hTF,hwF,hF6,n1,n2,n3⟩:=HM9.out.b.boxes hTw hR hk6
     have HNx:Hid (ChainZ addS O R A c l i ns z w T (gk - 1) true (nextW (sets4 w6 w19.heap.size (.int .i64 y.kind) (.int .i64 y.num) (.string y.name) (.slice y.at_ y.args.length y.cap)) T u y x) j (.mk 2 0 (S x) (some ⟨(sets4 w6 w19.heap.size (.int .i64 y.kind) (.int .i64 y.num) (.string y.name) (.slice y.at_ y.args.length y.cap)).heap.size,0,none⟩) 2 [u,y]) z6 ns6 a6 0):=Lib.hid ⟨HM9.out.b.call hTw hR hk6 hp6 x,.inl ⟨rfl,rfl,SideZ.call HM9.out hTw hR hk6 hp6 hs6 HX.out,by have:=HK.out.1;have:=HK.out.2.2.2.2;omega,by
      have e:=(chain_go (ops:=addS) (O:=O) (x:=u.strip) (ns:=ns1) (show (l.getD q default).2.2∈addS by rw [HTk.out];exact HXm.out.1) (by rw [HTk.out];exact HXm.out.2.1) HK.out.2.2.2.2).1 _ _ _ hf hij
      rw [HK.out.2.1,e,HTk.out]
      rfl,by have:=HK.out.2.2.1;omega,by have h1:=HK.out.2.2.2.1;simp only [left_length] at h1 hl6 ⊢;omega⟩⟩
     obtain ⟨W7,hW7⟩:∃W7,W7=sets4 w6 w19.heap.size (.int .i64 y.kind) (.int .i64 y.num) (.string y.name) (.slice y.at_ y.args.length y.cap):=⟨_,rfl⟩
     rw [←hW7] at HNx
     have HBT:BoxL W7 T [.int .i64 u.kind,.int .i64 u.num,.string u.name,.slice u.at_ u.args.length u.cap]:=hW7 ▸ bT.other4 (T:=w19.heap.size) (by omega) _ _ _ _
     obtain ⟨m0,m1,m2,m3,_,_,_,_⟩:=HBT.get4
     have o0:=fun o=>(HBT.alloc o).get4.2.2.2.2.1
     have o1:=fun o=>(HBT.alloc o).get4.2.2.2.2.2.1
     have o2:=fun o=>(HBT.alloc o).get4.2.2.2.2.2.2.1
     have o3:=fun o=>(HBT.alloc o).get4.2.2.2.2.2.2.2
     have v0:=fun o=>(HBT.alloc o).get4.1
     have v1:=fun o=>(HBT.alloc o).get4.2.1
     have v2:=fun o=>(HBT.alloc o).get4.2.2.1
     have v3:=fun o=>(HBT.alloc o).get4.2.2.2.1
     clear HBT
     obtain ⟨l0,l1,l2,l3,_,_,_,_⟩:=(hW7 ▸ bF.set4 _ _ _ _:BoxL W7 w19.heap.size [.int .i64 y.kind,.int .i64 y.num,.string y.name,.slice y.at_ y.args.length y.cap]).get4
     have hT7:¬T=W7.heap.size:=by rw [hW7,sets4_size];omega
     clear c0 c1 c2 c3 f0 f1 f2 f3 t0 t1 t2 t3 g0 g1 g2 g3
     obtain ⟨d0,d1,d2,d3,h0,h1,h2,h3⟩:=bF.get4
     have hTF1:¬T=w19.heap.size:=by omega
     have hTF2:¬w19.heap.size=T:=by omega
     have HGk:=Lib.hid (show gk - 1 < gk by have:=HK.out.1;have:=HK.out.2.2.2.2;omega)
     clear bT bF bZ hTF hwF hF6 n1 n2 n3 hk6 hp6 hf hij hl6 hs6
     go_upto_region 7 with (fail)
     have hW8:((((w6.setCell ⟨w19.heap.size,0,none⟩ (.int .i64 y.kind)).setCell ⟨w19.heap.size,1,none⟩ (.int .i64 y.num)).setCell ⟨w19.heap.size,2,none⟩ (.string y.name)).setCell ⟨w19.heap.size,3,none⟩ (.slice y.at_ y.args.length y.cap))=W7:=hW7.symm
     rw [hW8]
     clear hW7 hW8
     go_wp2_with fail
     go_roundg (gk - 1)
     case measure=>exact HGk.out
     case rel=>exact ⟨_,j,_,z6,ns6,_,_,rfl,HNx⟩
    ·obtain ⟨bT,bF,bZ,hTF,hwF,hF6,n1,n2,n3⟩:=HM9.out.b.boxes hTw hR hk6
     have HNx:Hid (ChainZ addS O R A c l i ns z w T (gk - 1) false (nextW (sets4 w6 w19.heap.size (.int .i64 y.kind) (.int .i64 y.num) (.string y.name) (.slice y.at_ y.args.length y.cap)) T u y x) j (.mk 2 0 (S x) (some ⟨(sets4 w6 w19.heap.size (.int .i64 y.kind) (.int .i64 y.num) (.string y.name) (.slice y.at_ y.args.length y.cap)).heap.size,0,none⟩) 2 [u,y]) z6 ns6 (offT l m) e6):=Lib.hid ⟨HM9.out.b.call hTw hR hk6 hp6 x,.inr ⟨rfl,he6,m,rfl,by
      have e:=(chain_go (ops:=addS) (O:=O) (x:=u.strip) (ns:=ns1) (show (l.getD q default).2.2∈addS by rw [HTk.out];exact HXm.out.1) (by rw [HTk.out];exact HXm.out.2.1) HK.out.2.2.2.2).2 _ _ hf
      rw [HK.out.2.1,e]⟩⟩
     obtain ⟨W7,hW7⟩:∃W7,W7=sets4 w6 w19.heap.size (.int .i64 y.kind) (.int .i64 y.num) (.string y.name) (.slice y.at_ y.args.length y.cap):=⟨_,rfl⟩
     rw [←hW7] at HNx
     have HBT:BoxL W7 T [.int .i64 u.kind,.int .i64 u.num,.string u.name,.slice u.at_ u.args.length u.cap]:=hW7 ▸ bT.other4 (T:=w19.heap.size) (by omega) _ _ _ _
     obtain ⟨m0,m1,m2,m3,_,_,_,_⟩:=HBT.get4
     have o0:=fun o=>(HBT.alloc o).get4.2.2.2.2.1
     have o1:=fun o=>(HBT.alloc o).get4.2.2.2.2.2.1
     have o2:=fun o=>(HBT.alloc o).get4.2.2.2.2.2.2.1
     have o3:=fun o=>(HBT.alloc o).get4.2.2.2.2.2.2.2
     have v0:=fun o=>(HBT.alloc o).get4.1
     have v1:=fun o=>(HBT.alloc o).get4.2.1
     have v2:=fun o=>(HBT.alloc o).get4.2.2.1
     have v3:=fun o=>(HBT.alloc o).get4.2.2.2.1
     clear HBT
     obtain ⟨l0,l1,l2,l3,_,_,_,_⟩:=(hW7 ▸ bF.set4 _ _ _ _:BoxL W7 w19.heap.size [.int .i64 y.kind,.int .i64 y.num,.string y.name,.slice y.at_ y.args.length y.cap]).get4
     have hT7:¬T=W7.heap.size:=by rw [hW7,sets4_size];omega
     clear c0 c1 c2 c3 f0 f1 f2 f3 t0 t1 t2 t3 g0 g1 g2 g3
     obtain ⟨d0,d1,d2,d3,h0,h1,h2,h3⟩:=bF.get4
     have hTF1:¬T=w19.heap.size:=by omega
     have hTF2:¬w19.heap.size=T:=by omega
     have HGk:=Lib.hid (show gk - 1 < gk by have:=HK.out.1;have:=HK.out.2.2.2.2;omega)
     clear bT bF bZ hTF hwF hF6 n1 n2 n3 hk6 hp6 hf he6
     go_upto_region 7 with (fail)
     have hW8:((((w6.setCell ⟨w19.heap.size,0,none⟩ (.int .i64 y.kind)).setCell ⟨w19.heap.size,1,none⟩ (.int .i64 y.num)).setCell ⟨w19.heap.size,2,none⟩ (.string y.name)).setCell ⟨w19.heap.size,3,none⟩ (.slice y.at_ y.args.length y.cap))=W7:=hW7.symm
     rw [hW8]
     clear hW7 hW8
     go_wp2_with fail
     go_roundg (gk - 1)
     case measure=>exact HGk.out
     case rel=>exact ⟨_,j,_,z6,ns6,_,_,rfl,HNx⟩
  ·have HV:=Lib.hid (And.intro her (And.intro ha hV))
   clear her ha hV
   go_wp2_with fail
   refine bodyPost_ret (v:=.tuple #[.agg #[.int .i64 u.kind,.int .i64 u.num,.string u.name,.slice u.at_ u.args.length u.cap],.bool false]) (by simp [results,Tryz.results88,go_sem,c0,c1,c2,c3]) rfl ?_
   obtain ⟨e1,e2⟩:=endz4 hR hI.out.b.k hI.out.b.p hI.out.b.zw (.int .i64 u.kind) (.int .i64 u.num) (.string u.name) (.slice u.at_ u.args.length u.cap)
   exact ⟨u,false,rfl,.inr ⟨rfl,z1,ns1,q,m,er,e1,by rw [←HV.out.2.1];exact e2,HV.out.1,HV.out.2.2⟩⟩
end Go.Proofs.YtaojnljppcnhjaaGreatDoor
