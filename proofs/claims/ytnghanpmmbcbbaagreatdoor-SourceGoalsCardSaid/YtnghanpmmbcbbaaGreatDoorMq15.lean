/-
  PgNum1.
  PgNum2.
  PgNum3.
 PgNumAm.
 PgNumGl.
 PgListDl.
-/
import Derived.Test.YtnghanpmmbcbbaaGreatDoorMq14
import Derived.Test.YtnghanpmmbcbbaaGreatDoorMq13
import Derived.Deep.LoopGhost
import Derived.Deep.RegionHeld3
namespace Go.Proofs.YtnghanpmmbcbbaaGreatDoor
open Go.RowKit
theorem blk_numP (X:Nat→List UInt8):(∀(t:Tm) ns,(t.numP X ns).1.blk=t.blk)∧(∀(l:List Tm) ns,blkL (numPL X l ns).1=blkL l):=by
 refine Tm.induct2 (p:=fun t=>∀ns,(t.numP X ns).1.blk=t.blk) (q:=fun l=>∀ns,blkL (numPL X l ns).1=blkL l) (fun k n s A c a ih ns=>?_) (fun ns=>rfl) (fun t r h1 h2 ns=>?_)
 ·simp only [Tm.numP]
  split
  ·simp only [Tm.blk]
  ·simp only [Tm.blk,numPL_len,ih]
 ·simp only [numPL,blkL,h1,h2]
theorem nameS_len (t:List UInt8) (ns:List (List UInt8)):(nameS t ns).2.length≤ns.length+1:=by
 unfold nameS
 split
 ·simp
 ·simp
theorem numP_names (X:Nat→List UInt8):(∀(t:Tm) ns,(t.numP X ns).2.length≤ns.length+t.nodes)∧(∀(l:List Tm) ns,(numPL X l ns).2.length≤ns.length+nodesL l):=by
 refine Tm.induct2 (p:=fun t=>∀ns,(t.numP X ns).2.length≤ns.length+t.nodes) (q:=fun l=>∀ns,(numPL X l ns).2.length≤ns.length+nodesL l) (fun k n s A c a ih ns=>?_) (fun ns=>by simp [numPL]) (fun t r h1 h2 ns=>?_)
 ·simp only [Tm.numP,Tm.nodes]
  split
  ·have:=nameS_len (X n.toNat) ns
   simp only
   omega
  ·have:=ih ns
   simp only
   omega
 ·simp only [numPL,nodesL]
  have:=h1 ns
  have:=h2 (t.numP X ns).2
  omega
def midN (X:Nat→List UInt8) (L:List Tm) (ns:List (List UInt8)) (j:Nat):List Tm:=(numPL X (L.take j) ns).1++L.drop j
def namN (X:Nat→List UInt8) (L:List Tm) (ns:List (List UInt8)) (j:Nat):List (List UInt8):=(numPL X (L.take j) ns).2
section
variable {X:Nat→List UInt8} {L:List Tm} {ns:List (List UInt8)} {j:Nat}
theorem midN_zero:midN X L ns 0=L:=by simp [midN,numPL]
theorem midN_all:midN X L ns L.length=(numPL X L ns).1:=by simp [midN]
theorem namN_all:namN X L ns L.length=(numPL X L ns).2:=by simp [namN]
theorem midN_len (hj:j≤L.length):(midN X L ns j).length=L.length:=by
 rw [midN,List.length_append,numPL_len,List.length_take,List.length_drop];omega
theorem midN_here (hj:j < L.length):(midN X L ns j).getD j default=L.getD j default:=by
 have e:(numPL X (L.take j) ns).1.length=j:=by rw [numPL_len,List.length_take];omega
 rw [midN,List.getD_eq_getElem?_getD,List.getElem?_append_right (by omega),e,Nat.sub_self,List.getD_eq_getElem?_getD]
 simp
theorem numPL_take (hj:j < L.length):numPL X (L.take (j+1)) ns=((numPL X (L.take j) ns).1++[((L.getD j default).numP X (namN X L ns j)).1],((L.getD j default).numP X (namN X L ns j)).2):=by
 rw [ttake_next hj,numPL_append]
 simp only [numPL,namN]
theorem namN_next (hj:j < L.length):namN X L ns (j+1)=((L.getD j default).numP X (namN X L ns j)).2:=by rw [namN,numPL_take hj]
theorem midN_next (hj:j < L.length):midN X L ns (j+1)=(midN X L ns j).set j ((L.getD j default).numP X (namN X L ns j)).1:=by
 have e:(numPL X (L.take j) ns).1.length=j:=by rw [numPL_len,List.length_take];omega
 rw [midN,numPL_take hj,midN]
 simp only
 rw [List.set_append_right _ _ (by omega),e,Nat.sub_self,List.append_assoc,List.drop_eq_getElem_cons hj,List.set_cons_zero]
 rfl
theorem midN_blk:blkL (midN X L ns j)=blkL L:=by
 rw [midN,blkL_append,(blk_numP X).2,← blkL_append,List.take_append_drop]
end
theorem blk_apart:∀{l:List Tm} {i j:Nat} {k:Nat},(l.flatMap Tm.blk).Nodup→i≠j→i < l.length→j < l.length→k∈(l.getD i default).blk→k∉(l.getD j default).blk
 | [],_,_,_,_,_,hi,_,_=>absurd hi (by simp)
 | t :: r,i,j,k,hnd,e,hi,hj,hk=>fun hk2=>by
  rw [List.flatMap_cons,List.nodup_append] at hnd
  match i,j with
  | 0,0=>exact e rfl
  | 0,j+1 =>
   simp only [List.getD_cons_zero] at hk
   simp only [List.getD_cons_succ] at hk2
   exact hnd.2.2 k hk k (List.mem_flatMap.2 ⟨_,getD_mem (by simpa using hj),hk2⟩) rfl
  | i+1,0 =>
   simp only [List.getD_cons_zero] at hk2
   simp only [List.getD_cons_succ] at hk
   exact hnd.2.2 k hk2 k (List.mem_flatMap.2 ⟨_,getD_mem (by simpa using hi),hk⟩) rfl
  | i+1,j+1 =>
   simp only [List.getD_cons_succ] at hk hk2
   exact blk_apart (l:=r) hnd.2.1 (fun h=>e (by rw [h])) (by simpa using hi) (by simpa using hj) hk hk2
theorem lst_set {w w':World} {b o c:Nat} {l:List Tm} {j:Nat} {u:Tm} (h:Lst w (some ⟨b,o,none⟩) l c) (hj:j < l.length) (hnd:(b :: blkL l).Nodup)
  (hfr:∀k∈blkL l,k∉(l.getD j default).blk→w'.heap[k]?=w.heap[k]?)
  (hcell:∀i q,i≠j→q < 4→i < l.length→w'.cell? ⟨b,o+i*4+q,none⟩=w.cell? ⟨b,o+i*4+q,none⟩)
  (hu:∀q v,u.cells[q]?=some v→w'.cell? ⟨b,o+j*4+q,none⟩=some v) (hat:u.At w'):Lst w' (some ⟨b,o,none⟩) (l.set j u) c:=by
 refine ⟨by rw [List.length_set];exact h.1,h.2.1,fun hn=>⟨b,o,rfl,RowAt.of fun i hi=>?_⟩⟩
 rw [List.length_set] at hi
 obtain ⟨b',o',e,hr⟩:=h.2.2 (by omega)
 injection e with e
 injection e with e1 e2
 subst e1 e2
 by_cases e:i=j
 ·subst e
  have e2:(l.set i u).getD i default=u:=by rw [List.getD_eq_getElem?_getD,List.getElem?_set_self (by omega)];rfl
  rw [e2]
  exact ⟨fun q v hv=>by rw [show o+4*i+q=o+i*4+q by omega];exact hu q v hv,hat⟩
 ·have e2:(l.set j u).getD i default=l.getD i default:=by rw [List.getD_eq_getElem?_getD,List.getElem?_set_ne (fun h=>e h.symm),List.getD_eq_getElem?_getD]
  rw [e2]
  obtain ⟨⟨h0,h1,h2,h3⟩,h4⟩:=hr.get hi
  refine ⟨fun q v hv=>?_,at_blk.1 _ h4 fun k hk=>hfr k ?_ ?_⟩
  ·have hq:q < 4:=by
    have:=(List.getElem?_eq_some_iff.1 hv).1
    simpa [Tm.cells] using this
   rw [show o+4*i+q=o+i*4+q by omega,hcell i q e hq hi]
   match q,hq with
   | 0,_=>rw [←hv];exact h0
   | 1,_=>rw [←hv];exact h1
   | 2,_=>rw [←hv];exact h2
   | 3,_=>rw [←hv];exact h3
  ·rw [blkL_flat];exact List.mem_flatMap.2 ⟨_,getD_mem hi,hk⟩
  ·
   exact blk_apart (by have:=(List.nodup_cons.1 hnd).2;rwa [blkL_flat] at this) e hi hj hk
end Go.Proofs.YtnghanpmmbcbbaaGreatDoor
namespace Go.Proofs.YtnghanpmmbcbbaaGreatDoor
open Go.RowKit
theorem nodup_elem {α:Type} {f:α→List Nat}:∀{l:List α} {x:α},(l.flatMap f).Nodup→x∈l→(f x).Nodup
 | [],_,_,hx=>by cases hx
 | y :: r,x,h,hx=>by
  rw [List.flatMap_cons,List.nodup_append] at h
  rcases List.mem_cons.1 hx with rfl|hx
  ·exact h.1
  ·exact nodup_elem h.2.1 hx
theorem namN_room {X:Nat→List UInt8} {L:List Tm} {ns:List (List UInt8)} {j:Nat} (hj:j < L.length):(namN X L ns j).length+(L.getD j default).nodes≤ns.length+nodesL L:=by
 have h1:=(numP_names X).2 (L.take j) ns
 have h2:=nodesL_append (L.take (j+1)) (L.drop (j+1))
 rw [List.take_append_drop,ttake_next hj,nodesL_append] at h2
 simp only [nodesL] at h2
 rw [namN]
 omega
theorem undrewF {M:Nat} {bs:List Nat} {w w':World} (h:FrM M bs w.drew w'):FrM M bs w w':=⟨h.os,h.tape,h.output,h.size,h.block,h.fz⟩
theorem FrM.same {M:Nat} {bs:List Nat} {w w':World} (h:FrM M bs w w') {k:Nat} (h1:k < M) (h2:k∉bs):w'.heap[k]?=w.heap[k]?:=h.block k h1 h2
structure NumL (w:World) (M:Nat) (A:Option Addr) (l:List Tk) (B:Option Addr) (L:List Tm) (c:Nat):Prop where
 lst:Lst w B L c
 nd:(blkA B L.length++blkL L).Nodup
 lt:∀b∈blkA B L.length++blkL L,b < M
 out:∀g,A=some ⟨g,0,none⟩→g∉blkA B L.length++blkL L
 fz:∀b∈blkA B L.length++blkL L,∀j,w.frozen? ⟨b,j,none⟩=false
 neat:neatL L
 occ:∀v∈occL L,0≤v∧v.toNat < l.length
def TermsR (N M:Nat) (A:Option Addr) (c:Nat) (l:List Tk) (B:Option Addr) (L:List Tm) (cL:Nat) (ns:List (List UInt8)) (w:World) (en:Ending) (w':World):Prop :=
 en=.returned (.tuple #[])∧FrM M (blkA B L.length++blkL L) w w'∧Lst w' B (numPL (xV l) L ns).1 cL∧∃z',NumS w' N M A c l z' (numPL (xV l) L ns).2
structure TermsL (N M:Nat) (A:Option Addr) (c:Nat) (l:List Tk) (B:Option Addr) (L:List Tm) (cL:Nat) (ns:List (List UInt8)) (w:World) (j:Nat) (z:Value) (wr:World):Prop where
 fr:FrM M (blkA B L.length++blkL L) w wr
 lst:Lst wr B (midN (xV l) L ns j) cL
 num:NumS wr N M A c l z (namN (xV l) L ns j)
def TermsQ (N M:Nat) (A:Option Addr) (c:Nat) (l:List Tk) (n:Nat):Prop :=
 ∀(B:Option Addr) (L:List Tm) (cL:Nat) (z:Value) (ns:List (List UInt8)) (w:World),nodesL L≤n→NumL w M A l B L cL→NumS w N M A c l z ns→ns.length+nodesL L≤100000 →
  Calls Tryz.prog 176 #[.pointer (some ⟨N,0,none⟩),.slice B L.length cL] w (TermsR N M A c l B L cL ns w)
section
variable {N M:Nat} {A:Option Addr} {c:Nat} {l:List Tk} {b o cL:Nat} {L:List Tm} {ns:List (List UInt8)} {w wr:World} {z:Value} {j:Nat}
theorem numL_elem (h:NumL w M A l (some ⟨b,o,none⟩) L cL) (hj:j < L.length):(b :: blkL L).Nodup∧b < M∧(∀k∈(L.getD j default).blk,k < M∧k≠b∧k∈blkA (some ⟨b,o,none⟩) L.length++blkL L)∧A≠some ⟨b,0,none⟩∧(L.getD j default).neat∧(∀v∈(L.getD j default).occ,0≤v∧v.toNat < l.length)∧b∈blkA (some ⟨b,o,none⟩) L.length++blkL L:=by
 have e:blkA (some ⟨b,o,none⟩) L.length++blkL L=b :: blkL L:=by rw [blkA,if_neg (by omega)];rfl
 have h1:=h.nd
 have h2:=h.lt
 have h3:=h.out
 rw [e] at h1 h2 h3 ⊢
 have hmem:∀k∈(L.getD j default).blk,k∈blkL L:=fun k hk=>by rw [blkL_flat];exact List.mem_flatMap.2 ⟨_,getD_mem hj,hk⟩
 refine ⟨h1,h2 b (by simp),fun k hk=>⟨h2 k (by simp [hmem k hk]),fun e=>?_,by simp [hmem k hk]⟩,fun e=>h3 b e (by simp),neatL_mem h.neat (getD_mem hj),fun v hv=>h.occ v ?_,by simp⟩
 ·rw [e] at hk
  exact (List.nodup_cons.1 h1).1 (hmem b hk)
 ·clear e h1 h2 h3 hmem h
  induction L generalizing j with
  | nil=>simp at hj
  | cons t r ih =>
   cases j with
   | zero=>simp only [List.getD_cons_zero] at hv;simp [occL,hv]
   | succ j=>simp only [List.getD_cons_succ] at hv;simp only [occL,List.mem_append];exact .inr (ih (j:=j) (by simpa using hj) hv)
theorem TermsL.next {w4:World} {z':Value} (h:TermsL N M A c l (some ⟨b,o,none⟩) L cL ns w j z wr) (hN:NumL w M A l (some ⟨b,o,none⟩) L cL) (hj:j < L.length)
  (hfr:FrM M (b :: (L.getD j default).blk) wr w4)
  (hcell:∀i q,i≠j→q < 4→i < L.length→w4.cell? ⟨b,o+i*4+q,none⟩=wr.cell? ⟨b,o+i*4+q,none⟩)
  (hu:∀q v,((L.getD j default).numP (xV l) (namN (xV l) L ns j)).1.cells[q]?=some v→w4.cell? ⟨b,o+j*4+q,none⟩=some v)
  (hat:((L.getD j default).numP (xV l) (namN (xV l) L ns j)).1.At w4) (hn:NumS w4 N M A c l z' ((L.getD j default).numP (xV l) (namN (xV l) L ns j)).2) :
  TermsL N M A c l (some ⟨b,o,none⟩) L cL ns w (j+1) z' w4:=by
 obtain ⟨hnd,hbM,hblk,hA,_,_,hbm⟩:=numL_elem hN hj
 have hlen:=midN_len (X:=xV l) (ns:=ns) (Nat.le_of_lt hj)
 refine ⟨h.fr.trans (hfr.more fun k hk=>?_),?_,by rw [namN_next hj];exact hn⟩
 ·rcases List.mem_cons.1 hk with rfl|hk
  ·exact hbm
  ·exact (hblk k hk).2.2
 ·rw [midN_next hj]
  refine lst_set h.lst (by rw [hlen];exact hj) (by rw [midN_blk];exact hnd) (fun k hk hk2=>?_) (fun i q e hq hi=>hcell i q e hq (by rw [hlen] at hi;exact hi)) hu hat
  rw [midN_here hj] at hk2
  rw [midN_blk] at hk
  have hkM:k < M:=by
   refine hN.lt k ?_
   rw [List.mem_append];exact .inr hk
  refine hfr.block k hkM fun hx=>?_
  rcases List.mem_cons.1 hx with rfl|hx
  ·exact (List.nodup_cons.1 hnd).1 hk
  ·exact hk2 hx
set_option maxHeartbeats 8000000 in
set_option maxRecDepth 100000 in
theorem terms_step (n:Nat) (ih:∀m,m+1=n→TermsQ N M A c l m) (B:Option Addr) (L:List Tm) (cL:Nat) (z:Value) (ns:List (List UInt8)) (w:World) (hn:nodesL L≤n) (hL:NumL w M A l B L cL) (hS:NumS w N M A c l z ns) (hlen:ns.length+nodesL L≤100000) (htx:∀i,i < l.length→(l.getD i default).2.2.length≤16384) :
  Calls Tryz.prog 176 #[.pointer (some ⟨N,0,none⟩),.slice B L.length cL] w (TermsR N M A c l B L cL ns w):=by
 have HL:=Lib.hid hL
 have H0:=Lib.hid (show TermsL N M A c l B L cL ns w 0 z w from ⟨FrM.refl _ _ _,by rw [midN_zero];exact hL.lst,hS⟩)
 have Q:=Lib.hid ih
 have HLen:=Lib.hid hlen
 have HTx:=Lib.hid htx
 have HNn:=Lib.hid hn
 have hLl:L.length≤9223372036854775807:=hL.lst.len
 clear hL hS ih hlen htx hn
 go_enter Tryz.func176,Tryz.ntmps176
 go_wp2_with fail
 go_loopw [8] (fun iv wr=>∃(j:Nat),iv=.int .i64 (j:Int)∧j≤L.length∧∃z,Hid (TermsL N M A c l B L cL ns w j z wr)) (fun iv _=>L.length - (intOf iv).toNat)
 case atStart=>exact ⟨0,rfl,Nat.zero_le _,z,H0⟩
 case round =>
  clear H0
  obtain ⟨j,rfl,hj,z,hI⟩:=hrel
  by_cases hlt:j < L.length
  ·have hlt':(j:Int) < (L.length:Int):=by omega
   obtain ⟨b,o,rfl⟩:∃b o,B=some ⟨b,o,none⟩:=by
    obtain ⟨b,o,e,_⟩:=HL.out.lst.2.2 (by omega)
    exact ⟨b,o,e⟩
   obtain ⟨b',o',e,⟨h0,h1,h2,h3⟩,hat⟩:=hI.out.lst.get (i:=j) (by rw [midN_len (by omega)];exact hlt)
   injection e with e
   injection e with e1 e2
   subst e1 e2
   rw [midN_here hlt] at h0 h1 h2 h3 hat
   obtain ⟨hnd,hbM,hblk,hAb,hneat,hocc,hbm⟩:=numL_elem HL.out hlt
   have HStep:=Lib.hid (fun (w4:World) (z':Value) (hfr:FrM M (b :: (L.getD j default).blk) wr w4) (hcell:∀i q,i≠j→q < 4→i < L.length→w4.cell? ⟨b,o+i*4+q,none⟩=wr.cell? ⟨b,o+i*4+q,none⟩)
    (hu:∀q v,((L.getD j default).numP (xV l) (namN (xV l) L ns j)).1.cells[q]?=some v→w4.cell? ⟨b,o+j*4+q,none⟩=some v)
    (hat:((L.getD j default).numP (xV l) (namN (xV l) L ns j)).1.At w4) (hn:NumS w4 N M A c l z' ((L.getD j default).numP (xV l) (namN (xV l) L ns j)).2)=>hI.out.next HL.out hlt hfr hcell hu hat hn)
   have hnodes:(L.getD j default).nodes≤nodesL L:=nodes_mem (getD_mem hlt)
   have hnam:=namN_room (X:=xV l) (ns:=ns) hlt
   have HNm:=Lib.hid hI.out.num
   have HFz:=Lib.hid (show ∀q,wr.frozen? ⟨b,q,none⟩=false from fun q=>by rw [hI.out.fr.fz b hbM q];exact HL.out.fz b hbm q)
   have HFt:=Lib.hid (show ∀k∈(L.getD j default).blk,∀q,wr.frozen? ⟨k,q,none⟩=false from fun k hk q=>by rw [hI.out.fr.fz k (hblk k hk).1 q];exact HL.out.fz k (hblk k hk).2.2 q)
   have HOut:=Lib.hid (show ∀g,A=some ⟨g,0,none⟩→g∉(L.getD j default).blk from fun g e hg=>HL.out.out g e (hblk g hg).2.2)
   have HNdt:=Lib.hid (show ((L.getD j default).blk).Nodup by
    have:=(List.nodup_cons.1 hnd).2
    rw [blkL_flat] at this
    exact nodup_elem this (getD_mem hlt))
   have HRow:=Lib.hid (show ∀i q,i≠j→q < 4→i < L.length→(⟨b,o+i*4+q,none⟩:Addr)≠⟨b,o+j*4+1,none⟩ from fun i q e hq hi h=>by injection h with _ h;omega)
   generalize ht:L.getD j default=t at *
   obtain ⟨k,v,s,A',c',a'⟩:=t
   simp only [Tm.kind,Tm.num,Tm.name,Tm.at_,Tm.args,Tm.cap] at h0 h1 h2 h3
   have HB:=Lib.hid (And.intro hbM (And.intro hblk hAb))
   have HAt:=Lib.hid hat
   have HNe:=Lib.hid hneat
   have HOc:=Lib.hid hocc
   have HNd:=Lib.hid (And.intro hnodes hnam)
   clear hnd hbM hblk hAb hneat hocc hbm hnodes hnam hat ht hI
   by_cases hk:k=1
   ·subst hk
    obtain ⟨m,rfl,hm⟩:∃m:Nat,v=(m:Int)∧m < l.length:=by
     obtain ⟨h1,h2⟩:=HOc.out v (by simp [Tm.occ])
     exact ⟨v.toNat,by omega,h2⟩
    obtain ⟨g,rfl,t0,t1,t2⟩:=HNm.out.toks.get hm
    have n0:=HNm.out.box.cells 0 _ rfl
    have hml:(m:Int) < (l.length:Int):=by omega
    have hmlen:=HNm.out.toks.1
    have hmcap:=HNm.out.toks.2.1
    have HX:=Lib.hid (show (l.getD m default).2.2.length≤16384 from HTx.out m hm)
    have hx:xV l m=(l.getD m default).2.2:=rfl
    have QN:=Lib.hid (fun W (hb:Below wr.heap.size wr W)=>number_at (HNm.out.below hb) (by have:=HNd.out.2;have:=HLen.out;omega) (l.getD m default).2.2 HX.out)
    have f1:=HFz.out (o+j*4+1)
    rw [←hx] at t2 QN
    clear hx
    obtain ⟨x,hx⟩:∃x,xV l m=x:=⟨_,rfl⟩
    rw [hx] at t2 QN
    have HXe:=Lib.hid hx
    clear hx
    have ha0:a'=[]:=by
     rcases HNe.out with ⟨e,_⟩|⟨_,_,e⟩|⟨e,_⟩
     ·exact absurd e (by decide)
     ·exact e
     ·exact absurd e (by decide)
    have HOne:=Lib.hid (show ∀(w4:World) (z':Value),FrM M [] wr w4→NumS w4 N M (some ⟨g,0,none⟩) c l z' (nameS x (namN (xV l) L ns j)).2→TermsL N M (some ⟨g,0,none⟩) c l (some ⟨b,o,none⟩) L cL ns w (j+1) z' (w4.setCell ⟨b,o+j*4+1,none⟩ (.int .i64 ((nameS x (namN (xV l) L ns j)).1:Int))) by
     intro w4 z' hfr hnum
     have hb:∀q,w4.cell? ⟨b,q,none⟩=wr.cell? ⟨b,q,none⟩:=fun q=>World.cell?_of_block (hfr.block b HB.out.1 (by simp))
     have hnum2:((Tm.mk 1 (m:Int) s A' c' a').numP (xV l) (namN (xV l) L ns j))=(.mk 1 ((nameS x (namN (xV l) L ns j)).1:Int) s A' c' a',(nameS x (namN (xV l) L ns j)).2):=by
      simp only [Tm.numP,if_true,Int.toNat_natCast,HXe.out]
     have hoth:∀q,q < 4→q≠1→(w4.setCell ⟨b,o+j*4+1,none⟩ (.int .i64 ((nameS x (namN (xV l) L ns j)).1:Int))).cell? ⟨b,o+j*4+q,none⟩=wr.cell? ⟨b,o+j*4+q,none⟩:=fun q hq hq1=>by
      rw [World.cell?_setCell_other _ _ _ _ (by intro e;injection e with _ e;omega),hb]
     refine HStep.out _ z' ((hfr.more (by simp)).set (.inr (by simp)) _) (fun i q e hq hi=>?_) (fun q u hu=>?_) ?_ ?_
     ·rw [World.cell?_setCell_other _ _ _ _ (HRow.out i q e hq hi).symm,hb]
     ·rw [hnum2] at hu
      have hq:q < 4:=by
       have:=(List.getElem?_eq_some_iff.1 hu).1
       simpa [Tm.cells] using this
      match q,hq with
      | 0,_=>rw [hoth 0 (by omega) (by omega),← hu];exact h0
      | 1,_=>rw [←hu];exact World.cell?_setCell_same _ _ _ (by rw [hb,h1])
      | 2,_=>rw [hoth 2 (by omega) (by omega),← hu];exact h2
      | 3,_=>rw [hoth 3 (by omega) (by omega),← hu];exact h3
     ·rw [hnum2,ha0]
      have hat:=(At_iff _ _).1 HAt.out
      refine (At_iff _ _).2 ⟨⟨hat.1.1,?_,hat.1.2.2⟩,?_⟩
      ·have h5:=(name_facts x (namN (xV l) L ns j)).2
       have h6:=nameS_len x (namN (xV l) L ns j)
       have h7:=HNd.out.2
       have h8:=HLen.out
       simp only [Tm.num]
       unfold Fits
       omega
      ·exact ⟨Nat.zero_le _,hat.2.2.1,fun h=>absurd h (by simp [Tm.args])⟩
     ·rw [hnum2]
      exact hnum.set (p:=⟨b,o+j*4+1,none⟩) HB.out.1 HB.out.2.2 _)
    go_wp2_with fail
    go_region_with (go_at_call 204;refine (QN.out _ (by first|exact Below.refl _ _|exact (Below.refl _ _).drew)).mono ?_;rintro en w4 ⟨rfl,hfr,z',hnum⟩;(first|have hfr0:FrM M [] wr w4:=hfr|have hfr0:FrM M [] wr w4:=undrewF hfr);have HFr:=Lib.hid hfr0;have k1:=(World.cell?_of_block (a:=⟨b,o+j*4+1,none⟩) (hfr0.block b HB.out.1 (by simp))).trans h1;have k2:=(hfr0.fz b HB.out.1 (o+j*4+1)).trans f1;have HNu:=Lib.hid hnum;clear hfr hfr0 hnum)
    all_goals
     have HN1:=Lib.hid (HOne.out _ _ HFr.out HNu.out)
     go_wp2_with fail
     go_round
     case rel=>exact ⟨j+1,by go_num,by omega,_,HN1⟩
     case measure=>simp [intOf];omega
   ·have hkf:(k==1)=false:=by simpa using hk
    have ha':nodesL a'≤n - 1∧(n - 1)+1=n:=by
     have h1:=HNd.out.1
     have h2:=HNn.out
     simp only [Tm.nodes] at h1
     exact ⟨by omega,by omega⟩
    have hneat':neatL a':=by
     rcases HNe.out with ⟨_,_,e⟩|⟨e,_⟩|⟨_,_,h⟩
     ·rw [e];trivial
     ·exact absurd e hk
     ·exact h
    have hocc':∀v∈occL a',0≤v∧v.toNat < l.length:=fun u hu=>by
     rcases HNe.out with ⟨_,_,e⟩|⟨e,_⟩|⟨e,_,h⟩
     ·rw [e] at hu;simp [occL] at hu
     ·exact absurd e hk
     ·exact HOc.out u (by rw [e];simpa [Tm.occ] using hu)
    have hblk':(Tm.mk k v s A' c' a').blk=blkA A' a'.length++blkL a':=by rw [Tm.blk]
    have HNL:=Lib.hid (show NumL wr M A l A' a' c' from ⟨HAt.out.lst,by rw [←hblk'];exact HNdt.out,fun k hk=>(HB.out.2.1 k (by rw [hblk'];exact hk)).1,fun g e hg=>HOut.out g e (by rw [hblk'];exact hg),fun k hk=>HFt.out k (by rw [hblk'];exact hk),hneat',hocc'⟩)
    have QT:=Lib.hid (Q.out (n - 1) ha'.2 A' a' c' z (namN (xV l) L ns j) wr ha'.1 HNL.out HNm.out (by have h2:=HNd.out.2;have h3:=HLen.out;simp only [Tm.nodes] at h2;omega))
    go_wp2_with (go_at_call 176;refine QT.out.mono ?_;rintro en w4 ⟨rfl,hfr,hlst,z',hnum⟩;have HFr:=Lib.hid hfr;have HLs:=Lib.hid hlst;have HNu:=Lib.hid hnum;clear hfr hlst hnum)
    have HN1:Hid (TermsL N M A c l (some ⟨b,o,none⟩) L cL ns w (j+1) z' w4):=Lib.hid (by
     have hnum2:((Tm.mk k v s A' c' a').numP (xV l) (namN (xV l) L ns j))=(.mk k v s A' c' (numPL (xV l) a' (namN (xV l) L ns j)).1,(numPL (xV l) a' (namN (xV l) L ns j)).2):=by
      simp only [Tm.numP,if_neg hk]
     have hbn:b∉blkA A' a'.length++blkL a':=fun hx=>(HB.out.2.1 b (by rw [hblk'];exact hx)).2.1 rfl
     have hb:∀q,w4.cell? ⟨b,q,none⟩=wr.cell? ⟨b,q,none⟩:=fun q=>World.cell?_of_block (HFr.out.block b HB.out.1 hbn)
     refine HStep.out _ z' (HFr.out.more fun x hx=>by rw [hblk'];exact List.mem_cons_of_mem _ hx) (fun i q e hq hi=>hb _) (fun q u hu=>?_) ?_ ?_
     ·rw [hnum2] at hu
      have hq:q < 4:=by
       have:=(List.getElem?_eq_some_iff.1 hu).1
       simpa [Tm.cells] using this
      rw [hb]
      match q,hq with
      | 0,_=>rw [←hu];exact h0
      | 1,_=>rw [←hu];exact h1
      | 2,_=>rw [←hu];exact h2
      | 3,_ =>
       rw [←hu,h3]
       simp only [Tm.cells,Tm.at_,Tm.cap,Tm.args,numPL_len]
       rfl
     ·rw [hnum2]
      have hat:=(At_iff _ _).1 HAt.out
      exact (At_iff _ _).2 ⟨hat.1,HLs.out⟩
     ·rw [hnum2]
      exact HNu.out)
    go_wp2_with fail
    go_round
    case rel=>exact ⟨j+1,by go_num,by omega,_,HN1⟩
    case measure=>simp [intOf];omega
  ·have HE:=Lib.hid (show TermsR N M A c l B L cL ns w (.returned (.tuple #[])) wr by
    have e:j=L.length:=by omega
    subst e
    refine ⟨rfl,hI.out.fr,?_,z,?_⟩
    ·have:=hI.out.lst
     rw [midN_all] at this
     exact this
    ·have:=hI.out.num
     rw [namN_all] at this
     exact this)
   go_wp2_with fail
   go_end0
   exact HE.out
theorem terms_all (htx:∀i,i < l.length→(l.getD i default).2.2.length≤16384):∀n,TermsQ N M A c l n
 | 0=>fun B L cL z ns w hn hL hS hlen=>terms_step 0 (fun m e=>by omega) B L cL z ns w hn hL hS hlen htx
 | n+1=>fun B L cL z ns w hn hL hS hlen=>terms_step (n+1) (fun m e=>by
   have:m=n:=by omega
   subst this
   exact terms_all htx m) B L cL z ns w hn hL hS hlen htx
theorem terms_at (htx:∀i,i < l.length→(l.getD i default).2.2.length≤16384) (B:Option Addr) (L:List Tm) (cL:Nat) (z:Value) (ns:List (List UInt8)) (w:World) (hL:NumL w M A l B L cL) (hS:NumS w N M A c l z ns) (hlen:ns.length+nodesL L≤100000) :
  Calls Tryz.prog 176 #[.pointer (some ⟨N,0,none⟩),.slice B L.length cL] w (TermsR N M A c l B L cL ns w):=terms_all htx (nodesL L) B L cL z ns w (Nat.le_refl _) hL hS hlen
end
end Go.Proofs.YtnghanpmmbcbbaaGreatDoor
namespace Go.Proofs.YtnghanpmmbcbbaaGreatDoor
open Go.RowKit
abbrev Hd:=Option Addr×Nat×List Tm
def blkH (h:Hd):List Nat:=blkA h.1 h.2.2.length++blkL h.2.2
def numLL (X:Nat→List UInt8):List (List Tm)→List (List UInt8)→List (List Tm)×List (List UInt8)
 | [],ns=>([],ns)
 | a :: r,ns=>((numPL X a ns).1 :: (numLL X r (numPL X a ns).2).1,(numLL X r (numPL X a ns).2).2)
theorem numLL_append (X:Nat→List UInt8) (l m:List (List Tm)) (ns:List (List UInt8)):numLL X (l++m) ns=((numLL X l ns).1++(numLL X m (numLL X l ns).2).1,(numLL X m (numLL X l ns).2).2):=by
 induction l generalizing ns with
 | nil=>rfl
 | cons a r ih=>simp only [List.cons_append,numLL,ih]
theorem numLL_len (X:Nat→List UInt8) (l:List (List Tm)) (ns:List (List UInt8)):(numLL X l ns).1.length=l.length:=by
 induction l generalizing ns with
 | nil=>rfl
 | cons a r ih=>simp [numLL,ih]
theorem numLL_flat (X:Nat→List UInt8) (l:List (List Tm)) (ns:List (List UInt8)):numPL X l.flatten ns=((numLL X l ns).1.flatten,(numLL X l ns).2):=by
 induction l generalizing ns with
 | nil=>rfl
 | cons a r ih=>rw [List.flatten_cons,numPL_append,ih];rfl
def nodesLL (l:List (List Tm)):Nat:=(l.map nodesL).sum
theorem nodesLL_append (l m:List (List Tm)):nodesLL (l++m)=nodesLL l+nodesLL m:=by simp [nodesLL]
theorem numLL_names (X:Nat→List UInt8) (l:List (List Tm)) (ns:List (List UInt8)):(numLL X l ns).2.length≤ns.length+nodesLL l:=by
 induction l generalizing ns with
 | nil=>simp [numLL]
 | cons a r ih =>
  have h1:=(numP_names X).2 a ns
  have h2:=ih (numPL X a ns).2
  simp only [numLL,nodesLL,List.map_cons,List.sum_cons] at h2 ⊢
  omega
section
variable {X:Nat→List UInt8} {hs:List Hd} {ns:List (List UInt8)} {j:Nat}
def midH (X:Nat→List UInt8) (hs:List Hd) (ns:List (List UInt8)) (j:Nat):List (List Tm):=(numLL X ((hs.take j).map (·.2.2)) ns).1++(hs.drop j).map (·.2.2)
def namH (X:Nat→List UInt8) (hs:List Hd) (ns:List (List UInt8)) (j:Nat):List (List UInt8):=(numLL X ((hs.take j).map (·.2.2)) ns).2
theorem midH_zero:midH X hs ns 0=hs.map (·.2.2):=by simp [midH,numLL]
theorem namH_zero:namH X hs ns 0=ns:=by simp [namH,numLL]
theorem midH_all:midH X hs ns hs.length=(numLL X (hs.map (·.2.2)) ns).1:=by simp [midH]
theorem namH_all:namH X hs ns hs.length=(numLL X (hs.map (·.2.2)) ns).2:=by simp [namH]
theorem hd_take (hj:j < hs.length):(hs.take (j+1)).map (·.2.2)=(hs.take j).map (·.2.2)++[(hs.getD j default).2.2]:=by
 rw [List.take_add_one,List.getElem?_eq_getElem hj,List.map_append,List.getD_eq_getElem?_getD,List.getElem?_eq_getElem hj];rfl
theorem namH_next (hj:j < hs.length):namH X hs ns (j+1)=(numPL X (hs.getD j default).2.2 (namH X hs ns j)).2:=by
 rw [namH,hd_take hj,numLL_append];rfl
theorem midH_next (hj:j < hs.length):midH X hs ns (j+1)=(midH X hs ns j).set j (numPL X (hs.getD j default).2.2 (namH X hs ns j)).1:=by
 have e:(numLL X ((hs.take j).map (·.2.2)) ns).1.length=j:=by rw [numLL_len,List.length_map,List.length_take];omega
 rw [midH,hd_take hj,numLL_append,midH]
 simp only [numLL]
 rw [List.set_append_right _ _ (by omega),e,Nat.sub_self,List.append_assoc,List.drop_eq_getElem_cons hj,List.map_cons,List.set_cons_zero]
 rfl
theorem midH_here (hj:j < hs.length):(midH X hs ns j).getD j []=(hs.getD j default).2.2:=by
 have e:(numLL X ((hs.take j).map (·.2.2)) ns).1.length=j:=by rw [numLL_len,List.length_map,List.length_take];omega
 rw [midH,List.getD_eq_getElem?_getD,List.getElem?_append_right (by omega),e,Nat.sub_self,List.getD_eq_getElem?_getD]
 simp [List.getElem?_eq_getElem hj]
theorem midH_length (hj:j≤hs.length):(midH X hs ns j).length=hs.length:=by
 rw [midH,List.length_append,numLL_len,List.length_map,List.length_take,List.length_map,List.length_drop];omega
theorem namH_room (hj:j < hs.length):(namH X hs ns j).length+nodesL (hs.getD j default).2.2≤ns.length+nodesLL (hs.map (·.2.2)):=by
 have h1:=numLL_names X ((hs.take j).map (·.2.2)) ns
 have h2:=nodesLL_append ((hs.take (j+1)).map (·.2.2)) ((hs.drop (j+1)).map (·.2.2))
 rw [←List.map_append,List.take_append_drop,hd_take hj,nodesLL_append] at h2
 simp only [nodesLL,List.map_cons,List.map_nil,List.sum_cons,List.sum_nil] at h1 h2 ⊢
 rw [namH]
 omega
theorem midH_blk:∀{hs:List Hd} {ns:List (List UInt8)} {j i:Nat},i < hs.length→((midH X hs ns j).getD i []).length=(hs.getD i default).2.2.length∧blkL ((midH X hs ns j).getD i [])=blkL (hs.getD i default).2.2
 | [],_,_,_,hi=>absurd hi (by simp)
 | h :: r,ns,0,i,hi=>by
  rw [midH_zero]
  simp only [List.getD_eq_getElem?_getD,List.getElem?_map,List.getElem?_eq_getElem hi]
  exact ⟨rfl,rfl⟩
 | h :: r,ns,j+1,0,hi=>by
  show ((numPL X h.2.2 ns).1).length=_∧blkL (numPL X h.2.2 ns).1=_
  exact ⟨numPL_len _ _ _,(blk_numP X).2 _ _⟩
 | h :: r,ns,j+1,i+1,hi=>by
  have e:(midH X (h :: r) ns (j+1)).getD (i+1) []=(midH X r (numPL X h.2.2 ns).2 j).getD i []:=by
   simp only [midH,List.take_succ_cons,List.map_cons,numLL,List.drop_succ_cons,List.cons_append,List.getD_cons_succ]
  rw [e,List.getD_cons_succ]
  exact midH_blk (hs:=r) (by simpa using hi)
end
theorem hd_apart:∀{l:List Hd} {i j:Nat} {k:Nat},(l.flatMap blkH).Nodup→i≠j→i < l.length→j < l.length→k∈blkH (l.getD i default)→k∉blkH (l.getD j default)
 | [],_,_,_,_,_,hi,_,_=>absurd hi (by simp)
 | t :: r,i,j,k,hnd,e,hi,hj,hk=>fun hk2=>by
  have mem:∀(n:Nat),n < r.length→r.getD n default∈r:=fun n hn=>by rw [List.getD_eq_getElem?_getD,List.getElem?_eq_getElem hn];exact List.getElem_mem hn
  rw [List.flatMap_cons,List.nodup_append] at hnd
  match i,j with
  | 0,0=>exact e rfl
  | 0,j+1 =>
   simp only [List.getD_cons_zero] at hk
   simp only [List.getD_cons_succ] at hk2
   exact hnd.2.2 k hk k (List.mem_flatMap.2 ⟨_,mem j (by simpa using hj),hk2⟩) rfl
  | i+1,0 =>
   simp only [List.getD_cons_zero] at hk2
   simp only [List.getD_cons_succ] at hk
   exact hnd.2.2 k hk2 k (List.mem_flatMap.2 ⟨_,mem i (by simpa using hi),hk⟩) rfl
  | i+1,j+1 =>
   simp only [List.getD_cons_succ] at hk hk2
   exact hd_apart (l:=r) hnd.2.1 (fun h=>e (by rw [h])) (by simpa using hi) (by simpa using hj) hk hk2
structure NumH (w:World) (M:Nat) (A:Option Addr) (l:List Tk) (hs:List Hd):Prop where
 nd:(hs.flatMap blkH).Nodup
 lt:∀b∈hs.flatMap blkH,b < M
 out:∀g,A=some ⟨g,0,none⟩→g∉hs.flatMap blkH
 fz:∀b∈hs.flatMap blkH,∀j,w.frozen? ⟨b,j,none⟩=false
 each:∀h∈hs,Lst w h.1 h.2.2 h.2.1∧neatL h.2.2∧∀v∈occL h.2.2,0≤v∧v.toNat < l.length
structure StH (N M:Nat) (A:Option Addr) (c:Nat) (l:List Tk) (hs:List Hd) (ns:List (List UInt8)) (w:World) (j:Nat) (z:Value) (wr:World):Prop where
 fr:FrM M (hs.flatMap blkH) w wr
 lst:∀i,i < hs.length→Lst wr (hs.getD i default).1 ((midH (xV l) hs ns j).getD i []) (hs.getD i default).2.1
 num:NumS wr N M A c l z (namH (xV l) hs ns j)
section
variable {N M:Nat} {A:Option Addr} {c:Nat} {l:List Tk} {hs:List Hd} {ns:List (List UInt8)} {w wr w2:World} {z:Value} {j:Nat}
theorem hd_mem {i:Nat} (hi:i < hs.length):hs.getD i default∈hs:=by rw [List.getD_eq_getElem?_getD,List.getElem?_eq_getElem hi];exact List.getElem_mem hi
theorem StH.start (h:NumH w M A l hs) (hn:NumS w N M A c l z ns):StH N M A c l hs ns w 0 z w:=by
 refine ⟨FrM.refl _ _ _,fun i hi=>?_,by rw [namH_zero];exact hn⟩
 rw [midH_zero]
 have e:(hs.map (·.2.2)).getD i []=(hs.getD i default).2.2:=by simp [List.getD_eq_getElem?_getD,List.getElem?_eq_getElem hi]
 rw [e]
 exact (h.each _ (hd_mem hi)).1
theorem StH.below (h:StH N M A c l hs ns w j z wr) (hb:Below wr.heap.size wr w2):StH N M A c l hs ns w j z w2 :=
 ⟨h.fr.below (by have:=h.num.box.lt;have:=h.num.mn;omega) hb,fun i hi=>(h.lst i hi).below hb,h.num.below hb⟩
theorem StH.wants (h:StH N M A c l hs ns w j z wr) (hH:NumH w M A l hs) (hj:j < hs.length):NumL wr M A l (hs.getD j default).1 (hs.getD j default).2.2 (hs.getD j default).2.1:=by
 have hm:=hd_mem hj
 have hsub:∀b∈blkH (hs.getD j default),b∈hs.flatMap blkH:=fun b hb=>List.mem_flatMap.2 ⟨_,hm,hb⟩
 have hl:=h.lst j hj
 rw [midH_here hj] at hl
 exact ⟨hl,nodup_elem (f:=blkH) hH.nd hm,fun b hb=>hH.lt b (hsub b hb),fun g e hg=>hH.out g e (hsub g hg),fun b hb q=>by rw [h.fr.fz b (hH.lt b (hsub b hb)) q];exact hH.fz b (hsub b hb) q,(hH.each _ hm).2.1,(hH.each _ hm).2.2⟩
theorem StH.next {en:Ending} (h:StH N M A c l hs ns w j z wr) (hH:NumH w M A l hs) (hj:j < hs.length) (ht:TermsR N M A c l (hs.getD j default).1 (hs.getD j default).2.2 (hs.getD j default).2.1 (namH (xV l) hs ns j) wr en w2) :
  en=.returned (.tuple #[])∧∃z',StH N M A c l hs ns w (j+1) z' w2:=by
 obtain ⟨rfl,hfr,hl,z',hn⟩:=ht
 have hm:=hd_mem hj
 have hsub:∀b∈blkH (hs.getD j default),b∈hs.flatMap blkH:=fun b hb=>List.mem_flatMap.2 ⟨_,hm,hb⟩
 refine ⟨rfl,z',h.fr.trans (hfr.more hsub),fun i hi=>?_,by rw [namH_next hj];exact hn⟩
 rw [midH_next hj]
 by_cases e:i=j
 ·subst e
  have e2:((midH (xV l) hs ns i).set i (numPL (xV l) (hs.getD i default).2.2 (namH (xV l) hs ns i)).1).getD i []=(numPL (xV l) (hs.getD i default).2.2 (namH (xV l) hs ns i)).1:=by
   rw [List.getD_eq_getElem?_getD,List.getElem?_set_self (by rw [midH_length (by omega)];exact hi)];rfl
  rw [e2]
  exact hl
 ·have e2:((midH (xV l) hs ns j).set j (numPL (xV l) (hs.getD j default).2.2 (namH (xV l) hs ns j)).1).getD i []=(midH (xV l) hs ns j).getD i []:=by
   rw [List.getD_eq_getElem?_getD,List.getElem?_set_ne (fun h=>e h.symm),List.getD_eq_getElem?_getD]
  rw [e2]
  refine lst_blk (h.lst i hi) fun b hb=>?_
  rw [(midH_blk hi).1,(midH_blk hi).2] at hb
  have hb2:b∈blkH (hs.getD i default):=hb
  exact hfr.block b (hH.lt b (List.mem_flatMap.2 ⟨_,hd_mem hi,hb2⟩)) (hd_apart hH.nd e hi hj hb2)
def ListsR (N M:Nat) (A:Option Addr) (c:Nat) (l:List Tk) (hs:List Hd) (ns:List (List UInt8)) (w:World) (en:Ending) (w':World):Prop :=
 en=.returned (.tuple #[])∧∃z',FrM M (hs.flatMap blkH) w w'∧(∀i,i < hs.length→Lst w' (hs.getD i default).1 ((numLL (xV l) (hs.map (·.2.2)) ns).1.getD i []) (hs.getD i default).2.1)∧NumS w' N M A c l z' (numLL (xV l) (hs.map (·.2.2)) ns).2
theorem StH.done (h:StH N M A c l hs ns w hs.length z wr):ListsR N M A c l hs ns w (.returned (.tuple #[])) wr:=by
 refine ⟨rfl,z,h.fr,fun i hi=>?_,?_⟩
 ·have:=h.lst i hi
  rw [midH_all] at this
  exact this
 ·have:=h.num
  rw [namH_all] at this
  exact this
end
end Go.Proofs.YtnghanpmmbcbbaaGreatDoor
namespace Go.Proofs.YtnghanpmmbcbbaaGreatDoor
open Go.RowKit
def hdAm (x:Am):Hd:=(x.at_,x.cap,x.args)
theorem hdAm_get {xs:List Am} {i:Nat} (hi:i < xs.length):(xs.map hdAm).getD i default=hdAm (xs.getD i default):=by
 simp [List.getD_eq_getElem?_getD,List.getElem?_eq_getElem hi]
structure RowAm (w:World) (M:Nat) (B:Option Addr) (xs:List Am) (c:Nat):Prop where
 le:xs.length≤c
 cap:c≤maxLen
 row:0 < xs.length→∃b o,B=some ⟨b,o,none⟩∧b < M∧b∉(xs.map hdAm).flatMap blkH∧∀i,i < xs.length→∀q u,(elAm.cells (xs.getD i default))[q]?=some u→w.cell? ⟨b,o+i*2+q,none⟩=some u
section
variable {N M:Nat} {A:Option Addr} {c:Nat} {l:List Tk} {B:Option Addr} {xs:List Am} {cX:Nat} {ns:List (List UInt8)} {w:World} {z:Value}
set_option maxHeartbeats 8000000 in
set_option maxRecDepth 100000 in
theorem number_Am_at (htx:∀i,i < l.length→(l.getD i default).2.2.length≤16384) (hr:RowAm w M B xs cX) (hH:NumH w M A l (xs.map hdAm)) (hS:NumS w N M A c l z ns) (hlen:ns.length+nodesLL ((xs.map hdAm).map (·.2.2))≤100000) :
  Calls Tryz.prog 141 #[.pointer (some ⟨N,0,none⟩),.slice B xs.length cX] w (ListsR N M A c l (xs.map hdAm) ns w):=by
 have HR:=Lib.hid hr
 have HH:=Lib.hid hH
 have H0:=Lib.hid (StH.start hH hS)
 have HLen:=Lib.hid hlen
 have Q:=Lib.hid (fun B L cL z ns w hL hS hlen=>terms_at (N:=N) (M:=M) (A:=A) (c:=c) htx B L cL z ns w hL hS hlen)
 have hLl:xs.length≤9223372036854775807:=by have h1:=hr.le;have h2:=hr.cap;unfold maxLen at h2;omega
 clear hr hH hS hlen htx
 go_enter Tryz.func141,Tryz.ntmps141
 go_wp2_with fail
 go_loopw [8] (fun iv wr=>∃(j:Nat),iv=.int .i64 (j:Int)∧j≤xs.length∧∃z,Hid (StH N M A c l (xs.map hdAm) ns w j z wr)) (fun iv _=>xs.length - (intOf iv).toNat)
 case atStart=>exact ⟨0,rfl,Nat.zero_le _,z,H0⟩
 case round =>
  clear H0
  obtain ⟨j,rfl,hj,z,hI⟩:=hrel
  by_cases hlt:j < xs.length
  ·have hlt':(j:Int) < (xs.length:Int):=by omega
   obtain ⟨b,o,rfl,hbM,hbo,hcell⟩:=HR.out.row (by omega)
   have hjm:j < (xs.map hdAm).length:=by rw [List.length_map];exact hlt
   have hb:∀q,wr.cell? ⟨b,q,none⟩=w.cell? ⟨b,q,none⟩:=fun q=>World.cell?_of_block (hI.out.fr.block b hbM hbo)
   have QT:=Lib.hid (fun W (hW:Below wr.heap.size wr W)=>by
    have h1:=hI.out.below hW
    have h2:=h1.wants HH.out hjm
    have h3:=Q.out _ _ _ z (namH (xV l) (xs.map hdAm) ns j) W h2 h1.num (by have:=namH_room (X:=xV l) (ns:=ns) hjm;have:=HLen.out;omega)
    exact h3.mono fun en w2 ht=>h1.next HH.out hjm ht)
   rw [hdAm_get hlt] at QT
   generalize hu:xs.getD j default=u at *
   have hc:=hcell j hlt
   rw [hu] at hc
   have c0:=hc 0 _ rfl
   rw [←hb] at c0
   have c1:=hc 1 _ rfl
   rw [←hb] at c1
   simp only [Nat.add_zero] at c0
   have hb5:=Lib.hid ((Below.refl wr.heap.size wr).alloc (Nat.le_refl _) (.cells #[.string u.name,.slice u.at_ u.args.length u.cap] 66))
   clear hc hcell hb hu hbM hbo
   go_wp2_with (go_at_call 176;refine (QT.out _ hb5.out).mono ?_;rintro en w4 ⟨rfl,z4,h4⟩;have HN:=Lib.hid h4;clear h4)
   go_round
   case rel=>exact ⟨j+1,by go_num,by omega,_,HN⟩
   case measure=>simp [intOf];omega
  ·have HE:=Lib.hid (show ListsR N M A c l (xs.map hdAm) ns w (.returned (.tuple #[])) wr by
    have e:j=(xs.map hdAm).length:=by rw [List.length_map];omega
    rw [e] at hI
    exact hI.out.done)
   go_wp2_with fail
   go_end0
   exact HE.out
end
end Go.Proofs.YtnghanpmmbcbbaaGreatDoor
namespace Go.Proofs.YtnghanpmmbcbbaaGreatDoor
open Go.RowKit
def hdGl (x:Gl):Hd:=(x.at_,x.cap,x.args)
theorem hdGl_get {xs:List Gl} {i:Nat} (hi:i < xs.length):(xs.map hdGl).getD i default=hdGl (xs.getD i default):=by
 simp [List.getD_eq_getElem?_getD,List.getElem?_eq_getElem hi]
structure RowGl (w:World) (M:Nat) (B:Option Addr) (xs:List Gl) (c:Nat):Prop where
 le:xs.length≤c
 cap:c≤maxLen
 row:0 < xs.length→∃b o,B=some ⟨b,o,none⟩∧b < M∧b∉(xs.map hdGl).flatMap blkH∧∀i,i < xs.length→∀q u,(elGl.cells (xs.getD i default))[q]?=some u→w.cell? ⟨b,o+i*3+q,none⟩=some u
section
variable {N M:Nat} {A:Option Addr} {c:Nat} {l:List Tk} {B:Option Addr} {xs:List Gl} {cX:Nat} {ns:List (List UInt8)} {w:World} {z:Value}
set_option maxHeartbeats 8000000 in
set_option maxRecDepth 100000 in
theorem number_Gl_at (htx:∀i,i < l.length→(l.getD i default).2.2.length≤16384) (hr:RowGl w M B xs cX) (hH:NumH w M A l (xs.map hdGl)) (hS:NumS w N M A c l z ns) (hlen:ns.length+nodesLL ((xs.map hdGl).map (·.2.2))≤100000) :
  Calls Tryz.prog 142 #[.pointer (some ⟨N,0,none⟩),.slice B xs.length cX] w (ListsR N M A c l (xs.map hdGl) ns w):=by
 have HR:=Lib.hid hr
 have HH:=Lib.hid hH
 have H0:=Lib.hid (StH.start hH hS)
 have HLen:=Lib.hid hlen
 have Q:=Lib.hid (fun B L cL z ns w hL hS hlen=>terms_at (N:=N) (M:=M) (A:=A) (c:=c) htx B L cL z ns w hL hS hlen)
 have hLl:xs.length≤9223372036854775807:=by have h1:=hr.le;have h2:=hr.cap;unfold maxLen at h2;omega
 clear hr hH hS hlen htx
 go_enter Tryz.func142,Tryz.ntmps142
 go_wp2_with fail
 go_loopw [8] (fun iv wr=>∃(j:Nat),iv=.int .i64 (j:Int)∧j≤xs.length∧∃z,Hid (StH N M A c l (xs.map hdGl) ns w j z wr)) (fun iv _=>xs.length - (intOf iv).toNat)
 case atStart=>exact ⟨0,rfl,Nat.zero_le _,z,H0⟩
 case round =>
  clear H0
  obtain ⟨j,rfl,hj,z,hI⟩:=hrel
  by_cases hlt:j < xs.length
  ·have hlt':(j:Int) < (xs.length:Int):=by omega
   obtain ⟨b,o,rfl,hbM,hbo,hcell⟩:=HR.out.row (by omega)
   have hjm:j < (xs.map hdGl).length:=by rw [List.length_map];exact hlt
   have hb:∀q,wr.cell? ⟨b,q,none⟩=w.cell? ⟨b,q,none⟩:=fun q=>World.cell?_of_block (hI.out.fr.block b hbM hbo)
   have QT:=Lib.hid (fun W (hW:Below wr.heap.size wr W)=>by
    have h1:=hI.out.below hW
    have h2:=h1.wants HH.out hjm
    have h3:=Q.out _ _ _ z (namH (xV l) (xs.map hdGl) ns j) W h2 h1.num (by have:=namH_room (X:=xV l) (ns:=ns) hjm;have:=HLen.out;omega)
    exact h3.mono fun en w2 ht=>h1.next HH.out hjm ht)
   rw [hdGl_get hlt] at QT
   generalize hu:xs.getD j default=u at *
   have hc:=hcell j hlt
   rw [hu] at hc
   have c0:=hc 0 _ rfl
   rw [←hb] at c0
   have c1:=hc 1 _ rfl
   rw [←hb] at c1
   have c2:=hc 2 _ rfl
   rw [←hb] at c2
   simp only [Nat.add_zero] at c0
   have hb5:=Lib.hid ((Below.refl wr.heap.size wr).alloc (Nat.le_refl _) (.cells #[.int .i64 u.op,.string u.name,.slice u.at_ u.args.length u.cap] 59))
   clear hc hcell hb hu hbM hbo
   go_wp2_with (go_at_call 176;refine (QT.out _ hb5.out).mono ?_;rintro en w4 ⟨rfl,z4,h4⟩;have HN:=Lib.hid h4;clear h4)
   go_round
   case rel=>exact ⟨j+1,by go_num,by omega,_,HN⟩
   case measure=>simp [intOf];omega
  ·have HE:=Lib.hid (show ListsR N M A c l (xs.map hdGl) ns w (.returned (.tuple #[])) wr by
    have e:j=(xs.map hdGl).length:=by rw [List.length_map];omega
    rw [e] at hI
    exact hI.out.done)
   go_wp2_with fail
   go_end0
   exact HE.out
end
end Go.Proofs.YtnghanpmmbcbbaaGreatDoor
namespace Go.Proofs.YtnghanpmmbcbbaaGreatDoor
open Go.RowKit
theorem decl_info:(Tryz.prog.info? 38).map (fun i=>(i.zero,i.size,i.bytes))=some (some (.agg #[.string ⟨#[]⟩,.int .i64 0]),2,24):=by kernel_rfl
theorem news2_Dl (w:World) (o:Obj) (u:Dl) (T:TypeId):∀j v,(elDl.cells u)[j]?=some v→((w.alloc o).alloc (.cells #[.string (S u.1),.int .i64 u.2] T)).cell? ((⟨w.heap.size+1,0,none⟩:Addr).add j)=some v:=by
 intro j v hv
 have e:(w.alloc o).heap.size=w.heap.size+1:=by simp
 rw [add_plain,Nat.zero_add,← e,World.cell?_alloc_at _ _ _ _ rfl,← hv,show (#[.string (S u.1),.int .i64 u.2]:Array Value)=(elDl.cells u).toArray from rfl,List.getElem?_toArray]
set_option maxHeartbeats 4000000 in
set_option maxRecDepth 10000 in
theorem list_Dl_at {R:Nat} {A:Option Addr} {c:Nat} {l:List Tk} (hg:GoodT l) (a n most:Nat) (hmost:most≤9223372036854775807) (ex:Rd1 Dl)
  (hE:∀(i:Nat) (w:World),Pq w R A c l i→a≤i→(leftT l i).length≤n→Calls Tryz.prog 144 #[.pointer (some ⟨R,0,none⟩)] w (ElR rdDl ex R A c l a i w))
  (i:Nat) (w:World) (h:Pq w R A c l i) (ha:a≤i) (hn:(leftT l i).length≤n) :
  Calls Tryz.prog 143 #[.pointer (some ⟨R,0,none⟩),.int .i64 (most:Int),.func (.func 144) #[.pointer (some ⟨R,0,none⟩)] #[]] w (ListR rdDl 38 ex most R A c l a i w):=by
 obtain ⟨i0,hi,hz0,hz1,hz2⟩:=info_parts decl_info
 have HG:=Lib.hid hg
 have Q:=Lib.hid hE
 have hR:=h.lt
 have H0:=Lib.hid (show ListL rdDl 38 ex most R A c l a i n w (l.length - i) (.slice none 0 0) w i [] from
  ⟨Kp.refl _ _ _,h,RowG.nil _ _ _ _,rfl,Nat.le_refl _,fun h=>absurd rfl h,OkV.nil _ _ _,Nat.zero_le _,hn,Nat.le_refl _⟩)
 have HA:=Lib.hid ha
 have HM:=Lib.hid hmost
 clear hg hE h hn ha hmost
 go_enter Tryz.func143,Tryz.ntmps143
 go_wp2_with fail
 go_loopg [8] (l.length - i) (fun gk z wr=>∃(q:Nat) (xs:List Dl) (x:Value),z=x∧Hid (ListL rdDl 38 ex most R A c l a i n w gk x wr q xs))
 case atStart=>exact ⟨i,[],_,rfl,H0⟩
 case round =>
  clear H0
  obtain ⟨q,xs,z,hzx,hI⟩:=hrel
  have hzx':=hzx.symm
  clear hzx
  subst hzx'
  obtain ⟨B,zc,rfl⟩:=RowG.zform hI.out.2.2.1
  obtain ⟨k1,k2,k3,k4,k5,k6,k7,k8,k9,k10⟩:=hI.out
  have hqs:xs.length≤16385:=by have:=k2.ilt;have:=HG.out.small;omega
  have hlen:(xs.length:Int)≤16385:=by omega
  have hle2:xs.length≤9223372036854775807:=by omega
  clear k1 k3 k4 k5 k6 k7 k8 k9 k10
  by_cases hm:xs.length=most
  ·have hm':(((xs.length:Nat):Int)==(most:Int))=true:=by simp [hm]
   have HX:=Lib.hid hm
   clear hm k2
   go_wp2_with fail
   refine bodyPost_ret (v:=.tuple #[.slice none 0 0,.int .i64 6]) (by simp [results,Tryz.results143,go_sem]) rfl ?_
   obtain ⟨k1,k2,k3,k4,k5,k6,k7,k8,k9,k10⟩:=hI.out
   exact ⟨[],q,6,.slice none 0 0,rfl,k1,k2,RowG.nil _ _ _ _,.inr ⟨by omega,rfl,rfl,by rw [k4,listS_much (by rw [List.length_map];exact HX.out)]⟩⟩
  ·have hm':(((xs.length:Nat):Int)==(most:Int))=false:=by simp;omega
   have HX:=Lib.hid (show (xs.map (Rdr.h rdDl (gL l a))).length≠most by rw [List.length_map];exact hm)
   have Q1:=Lib.hid (Q.out q wr k2 (by have:=hI.out.2.2.2.2.1;have:=HA.out;omega) hI.out.2.2.2.2.2.2.2.2.1)
   clear hm k2
   go_wp2_with fail
   refine Q1.out.mono ?_
   rintro e w2 ⟨u,j,er,he,hk,hp,hs,ho⟩
   have he2:e=.returned (.tuple #[.agg #[.string (S u.1),.int .i64 u.2],.int .i64 er]):=he
   clear he
   subst he2
   have HS:=Lib.hid hs
   have HK:=Lib.hid hk
   have HP:=Lib.hid hp
   have HR2:=Lib.hid (show R < w2.heap.size from hp.lt)
   clear hk hp hs
   rcases ho with ⟨rfl,hf,hqj,hv⟩|⟨her,hf⟩
   ·have HF:=Lib.hid hf
    have HJ:=Lib.hid hqj
    have HV:=Lib.hid hv
    clear hf hqj hv
    obtain ⟨b,hb⟩:∃b,((l.getD j default).2.2==[44])=b:=⟨_,rfl⟩
    have HB:=Lib.hid hb
    have HLo:=Lib.hid (show w.heap.size≤wr.heap.size from hI.out.1.size)
    have hlo2:w.heap.size≤w2.heap.size:=Nat.le_trans HLo.out HK.out.size
    have HRow:=Lib.hid (hI.out.2.2.1.kq HK.out hR)
    have HOr:=Lib.hid (own_lt hI.out.2.2.1.row)
    have HOb:=Lib.hid hI.out.2.2.1.sit.bd
    have QA:=Lib.hid (fun W (hW:Pq W R A c l j)=>accept_at HG.out hW [44] (by decide) HB.out)
    clear hb
    cases b
    ·have HC:=Lib.hid (show isS [44] (leftT l j)=false by rw [isS_left HG.out HP.out.ilt (by decide)];exact HB.out)
     go_wp2_with (first
      | (at_builtin; refine wpList_append_lies _ rfl _ _ 33 rfl w.heap.size 38 i0 _ 2 24 Tryz.underlying33 hi hz0 hz1 hz2 rfl (by decide) (.slice B xs.length zc) xs.length (Elt.cellsL elDl xs) rfl ((HRow.out.row.alloc _).alloc _) ⟨w2.heap.size + 1, 0, none⟩ 1 1 (Elt.cells elDl u) rfl rfl (news2_Dl w2 _ u _) (Elt.one elDl u) (by decide) (by unfold maxLen; omega) (by omega) (by simp; omega) _ rfl ?_; intro g cap w4 hown hg hat hglt
         have hbox := ((Below.refl w2.heap.size w2).alloc (Nat.le_refl _) (.cells #[.string (S u.1), .int .i64 u.2] 38)).alloc (by simp) (.cells #[.string (S u.1), .int .i64 u.2] 38)
         have HRow4 := Lib.hid (HRow.out.next HLo.out (fun k hk => (HOr.out k hk).2) (fun b hb => (HOb.out b hb).2) HS.out hbox hown hg hat)
         have HK4 := Lib.hid (show Kq R w w4 from ((((hI.out.1.trans HK.out).alloc _).alloc _).grown hg (fun k hk => (HOr.out k hk).1)))
         have HP4 := Lib.hid (((HP.out.alloc _).alloc _).grown hg (fun k hk => by have := (HOr.out k hk).1; omega))
         clear hown hg hat hglt hbox)
      | (go_at_call 100;refine (QA.out _ HP4.out).mono ?_;rintro e w5 ⟨rfl,hk5,hp5⟩;have HK5:=Lib.hid hk5;have HP5:=Lib.hid hp5;clear hk5 hp5))
     refine bodyPost_ret (v:=.tuple #[.slice (some ⟨g,0,none⟩) (xs.length+1) cap,.int .i64 0]) (by simp [results,Tryz.results143,go_sem]) rfl ?_
     obtain ⟨k1,k2,k3,k4,k5,k6,k7,k8,k9,k10⟩:=hI.out
     refine ⟨xs++[u],j,0,_,rfl,HK4.out.trans HK5.out,HP5.out,HRow4.out.kq HK5.out hR,.inl ⟨rfl,?_,by have:=HJ.out;omega,?_,by simp,by have:=HJ.out;have:=HP.out.ilt;have:=HG.out.small;simp only [List.length_append,List.length_cons,List.length_nil];omega⟩⟩
     ·rw [k4,listS_stop HX.out HF.out HC.out,List.map_append];rfl
     ·rw [List.flatMap_append,List.flatMap_cons,List.flatMap_nil,List.append_nil]
      exact k7.append HV.out (Nat.le_refl _) k5 (by have:=HJ.out;omega)
    ·have HN:=Lib.hid (show j+1 < l.length from good_next HG.out HP.out.ilt (by rw [beq_iff_eq.1 HB.out];decide))
     have HC:=Lib.hid (show isS [44] (leftT l j)=true by rw [isS_left HG.out HP.out.ilt (by decide)];exact HB.out)
     go_wp2_with (first
      | (at_builtin; refine wpList_append_lies _ rfl _ _ 33 rfl w.heap.size 38 i0 _ 2 24 Tryz.underlying33 hi hz0 hz1 hz2 rfl (by decide) (.slice B xs.length zc) xs.length (Elt.cellsL elDl xs) rfl ((HRow.out.row.alloc _).alloc _) ⟨w2.heap.size + 1, 0, none⟩ 1 1 (Elt.cells elDl u) rfl rfl (news2_Dl w2 _ u _) (Elt.one elDl u) (by decide) (by unfold maxLen; omega) (by omega) (by simp; omega) _ rfl ?_; intro g cap w4 hown hg hat hglt
         have hbox := ((Below.refl w2.heap.size w2).alloc (Nat.le_refl _) (.cells #[.string (S u.1), .int .i64 u.2] 38)).alloc (by simp) (.cells #[.string (S u.1), .int .i64 u.2] 38)
         have HRow4 := Lib.hid (HRow.out.next HLo.out (fun k hk => (HOr.out k hk).2) (fun b hb => (HOb.out b hb).2) HS.out hbox hown hg hat)
         have HK4 := Lib.hid (show Kq R w w4 from ((((hI.out.1.trans HK.out).alloc _).alloc _).grown hg (fun k hk => (HOr.out k hk).1)))
         have HP4 := Lib.hid (((HP.out.alloc _).alloc _).grown hg (fun k hk => by have := (HOr.out k hk).1; omega))
         clear hown hg hat hglt hbox)
      | (go_at_call 100;refine (QA.out _ HP4.out).mono ?_;rintro e w5 ⟨rfl,hk5,hp5⟩;have HK5:=Lib.hid hk5;have HP5:=Lib.hid hp5;clear hk5 hp5))
     have HN2:=Lib.hid (show ListL rdDl 38 ex most R A c l a i n w (gk - 1) (.slice (some ⟨g,0,none⟩) (xs.length+1) cap) w5 (j+1) (xs++[u]) by
      obtain ⟨k1,k2,k3,k4,k5,k6,k7,k8,k9,k10⟩:=hI.out
      have hj:=HJ.out
      have hn:=HN.out
      refine ⟨HK4.out.trans HK5.out,HP5.out,HRow4.out.kq HK5.out hR,?_,by omega,fun _=>by omega,?_,by simp only [List.length_append,List.length_cons,List.length_nil];omega,by rw [left_length] at k9 ⊢;omega,by omega⟩
      ·rw [k4,listS_comma HX.out HF.out HJ.out HN.out HC.out,List.map_append,show nsL l a (j+1)=nsL l a j from nsU_no (by
        have:=HC.out
        rw [left_isS HP.out.ilt] at this
        simp only [isT,Bool.and_eq_true,beq_iff_eq] at this
        simp only [kV,this.1]
        rfl)]
       rfl
      ·rw [List.flatMap_append,List.flatMap_cons,List.flatMap_nil,List.append_nil]
       exact (k7.append HV.out (Nat.le_refl _) k5 (by omega)).wide (Nat.le_refl _) (by omega))
     have HGk:=Lib.hid (show gk - 1 < gk by have:=HJ.out;have:=HN.out;have:=hI.out.2.2.2.2.2.2.2.2.2;omega)
     go_wp2_with fail
     go_roundg (gk - 1)
     case measure=>exact HGk.out
     case rel=>exact ⟨j+1,xs++[u],_,rfl,HN2⟩
   ·have hne:(er != 0)=true:=bne_iff_ne.2 her
    have HF:=Lib.hid hf
    have HE:=Lib.hid her
    clear her hf
    go_wp2_with fail
    refine bodyPost_ret (v:=.tuple #[.slice none 0 0,.int .i64 er]) (by simp [results,Tryz.results143,go_sem]) rfl ?_
    obtain ⟨k1,k2,k3,k4,k5,k6,k7,k8,k9,k10⟩:=hI.out
    exact ⟨[],j,er,.slice none 0 0,rfl,(k1.trans HK.out).alloc _,HP.out.alloc _,RowG.nil _ _ _ _,.inr ⟨HE.out,rfl,rfl,by rw [k4,listS_err HX.out HF.out]⟩⟩
end Go.Proofs.YtnghanpmmbcbbaaGreatDoor
