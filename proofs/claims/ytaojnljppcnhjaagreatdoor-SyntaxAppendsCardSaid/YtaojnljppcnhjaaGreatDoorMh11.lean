/-
  PgNum3.
  PgNumAm.
  PgNumGl.
 RzSize.
 TmInts.
 TmVars.
 TmVarsOf.
-/
import Derived.Test.YtaojnljppcnhjaaGreatDoorMh10
import Derived.Test.YtaojnljppcnhjaaGreatDoorMh9
import Derived.Test.YtaojnljppcnhjaaGreatDoorMh2
import Derived.Test.YtaojnljppcnhjaaGreatDoorMh6
import Derived.BigQuiet
import Derived.Deep.QuietTactic
import Derived.OwnWalk
import Derived.Laws.OwnMore
import Derived.Maps.AppendAt
namespace Go.Proofs.YtaojnljppcnhjaaGreatDoor
open Go.RowKit
abbrev Hd:=Option Addr×Nat×List Tm
def blkH (h:Hd):List Nat:=blkA h.1 h.2.2.length++blkL h.2.2
def numLL (X:Nat→List UInt8):List (List Tm)→List (List UInt8)→List (List Tm)×List (List UInt8)
 | [],ns=>([],ns)
 | a :: r,ns=>((numPL X a ns).1 :: (numLL X r (numPL X a ns).2).1,(numLL X r (numPL X a ns).2).2)
theorem numLL_append (X:Nat→List UInt8) (l m:List (List Tm)) (ns:List (List UInt8)):numLL X (l++m) ns=((numLL X l ns).1++(numLL X m (numLL X l ns).2).1,(numLL X m (numLL X l ns).2).2):=by
 induction l generalizing ns with
 | nil=>rfl
 | cons a r ih=>simp only [List.cons_append,numLL,ih]
theorem numLL_len (X:Nat→List UInt8) (l:List (List Tm)) (ns:List (List UInt8)):(numLL X l ns).1.length=l.length:=by
 induction l generalizing ns with
 | nil=>rfl
 | cons a r ih=>simp [numLL,ih]
theorem numLL_flat (X:Nat→List UInt8) (l:List (List Tm)) (ns:List (List UInt8)):numPL X l.flatten ns=((numLL X l ns).1.flatten,(numLL X l ns).2):=by
 induction l generalizing ns with
 | nil=>rfl
 | cons a r ih=>rw [List.flatten_cons,numPL_append,ih];rfl
def nodesLL (l:List (List Tm)):Nat:=(l.map nodesL).sum
theorem nodesLL_append (l m:List (List Tm)):nodesLL (l++m)=nodesLL l+nodesLL m:=by simp [nodesLL]
theorem numLL_names (X:Nat→List UInt8) (l:List (List Tm)) (ns:List (List UInt8)):(numLL X l ns).2.length≤ns.length+nodesLL l:=by
 induction l generalizing ns with
 | nil=>simp [numLL]
 | cons a r ih =>
  have h1:=(numP_names X).2 a ns
  have h2:=ih (numPL X a ns).2
  simp only [numLL,nodesLL,List.map_cons,List.sum_cons] at h2 ⊢
  omega
section
variable {X:Nat→List UInt8} {hs:List Hd} {ns:List (List UInt8)} {j:Nat}
def midH (X:Nat→List UInt8) (hs:List Hd) (ns:List (List UInt8)) (j:Nat):List (List Tm):=(numLL X ((hs.take j).map (·.2.2)) ns).1++(hs.drop j).map (·.2.2)
def namH (X:Nat→List UInt8) (hs:List Hd) (ns:List (List UInt8)) (j:Nat):List (List UInt8):=(numLL X ((hs.take j).map (·.2.2)) ns).2
theorem midH_zero:midH X hs ns 0=hs.map (·.2.2):=by simp [midH,numLL]
theorem namH_zero:namH X hs ns 0=ns:=by simp [namH,numLL]
theorem midH_all:midH X hs ns hs.length=(numLL X (hs.map (·.2.2)) ns).1:=by simp [midH]
theorem namH_all:namH X hs ns hs.length=(numLL X (hs.map (·.2.2)) ns).2:=by simp [namH]
theorem hd_take (hj:j < hs.length):(hs.take (j+1)).map (·.2.2)=(hs.take j).map (·.2.2)++[(hs.getD j default).2.2]:=by
 rw [List.take_add_one,List.getElem?_eq_getElem hj,List.map_append,List.getD_eq_getElem?_getD,List.getElem?_eq_getElem hj];rfl
theorem namH_next (hj:j < hs.length):namH X hs ns (j+1)=(numPL X (hs.getD j default).2.2 (namH X hs ns j)).2:=by
 rw [namH,hd_take hj,numLL_append];rfl
theorem midH_next (hj:j < hs.length):midH X hs ns (j+1)=(midH X hs ns j).set j (numPL X (hs.getD j default).2.2 (namH X hs ns j)).1:=by
 have e:(numLL X ((hs.take j).map (·.2.2)) ns).1.length=j:=by rw [numLL_len,List.length_map,List.length_take];omega
 rw [midH,hd_take hj,numLL_append,midH]
 simp only [numLL]
 rw [List.set_append_right _ _ (by omega),e,Nat.sub_self,List.append_assoc,List.drop_eq_getElem_cons hj,List.map_cons,List.set_cons_zero]
 rfl
theorem midH_here (hj:j < hs.length):(midH X hs ns j).getD j []=(hs.getD j default).2.2:=by
 have e:(numLL X ((hs.take j).map (·.2.2)) ns).1.length=j:=by rw [numLL_len,List.length_map,List.length_take];omega
 rw [midH,List.getD_eq_getElem?_getD,List.getElem?_append_right (by omega),e,Nat.sub_self,List.getD_eq_getElem?_getD]
 simp [List.getElem?_eq_getElem hj]
theorem midH_length (hj:j≤hs.length):(midH X hs ns j).length=hs.length:=by
 rw [midH,List.length_append,numLL_len,List.length_map,List.length_take,List.length_map,List.length_drop];omega
theorem namH_room (hj:j < hs.length):(namH X hs ns j).length+nodesL (hs.getD j default).2.2≤ns.length+nodesLL (hs.map (·.2.2)):=by
 have h1:=numLL_names X ((hs.take j).map (·.2.2)) ns
 have h2:=nodesLL_append ((hs.take (j+1)).map (·.2.2)) ((hs.drop (j+1)).map (·.2.2))
 rw [←List.map_append,List.take_append_drop,hd_take hj,nodesLL_append] at h2
 simp only [nodesLL,List.map_cons,List.map_nil,List.sum_cons,List.sum_nil] at h1 h2 ⊢
 rw [namH]
 omega
theorem midH_blk:∀{hs:List Hd} {ns:List (List UInt8)} {j i:Nat},i < hs.length→((midH X hs ns j).getD i []).length=(hs.getD i default).2.2.length∧blkL ((midH X hs ns j).getD i [])=blkL (hs.getD i default).2.2
 | [],_,_,_,hi=>absurd hi (by simp)
 | h :: r,ns,0,i,hi=>by
  rw [midH_zero]
  simp only [List.getD_eq_getElem?_getD,List.getElem?_map,List.getElem?_eq_getElem hi]
  exact ⟨rfl,rfl⟩
 | h :: r,ns,j+1,0,hi=>by
  show ((numPL X h.2.2 ns).1).length=_∧blkL (numPL X h.2.2 ns).1=_
  exact ⟨numPL_len _ _ _,(blk_numP X).2 _ _⟩
 | h :: r,ns,j+1,i+1,hi=>by
  have e:(midH X (h :: r) ns (j+1)).getD (i+1) []=(midH X r (numPL X h.2.2 ns).2 j).getD i []:=by
   simp only [midH,List.take_succ_cons,List.map_cons,numLL,List.drop_succ_cons,List.cons_append,List.getD_cons_succ]
  rw [e,List.getD_cons_succ]
  exact midH_blk (hs:=r) (by simpa using hi)
end
theorem hd_apart:∀{l:List Hd} {i j:Nat} {k:Nat},(l.flatMap blkH).Nodup→i≠j→i < l.length→j < l.length→k∈blkH (l.getD i default)→k∉blkH (l.getD j default)
 | [],_,_,_,_,_,hi,_,_=>absurd hi (by simp)
 | t :: r,i,j,k,hnd,e,hi,hj,hk=>fun hk2=>by
  have mem:∀(n:Nat),n < r.length→r.getD n default∈r:=fun n hn=>by rw [List.getD_eq_getElem?_getD,List.getElem?_eq_getElem hn];exact List.getElem_mem hn
  rw [List.flatMap_cons,List.nodup_append] at hnd
  match i,j with
  | 0,0=>exact e rfl
  | 0,j+1 =>
   simp only [List.getD_cons_zero] at hk
   simp only [List.getD_cons_succ] at hk2
   exact hnd.2.2 k hk k (List.mem_flatMap.2 ⟨_,mem j (by simpa using hj),hk2⟩) rfl
  | i+1,0 =>
   simp only [List.getD_cons_zero] at hk2
   simp only [List.getD_cons_succ] at hk
   exact hnd.2.2 k hk2 k (List.mem_flatMap.2 ⟨_,mem i (by simpa using hi),hk⟩) rfl
  | i+1,j+1 =>
   simp only [List.getD_cons_succ] at hk hk2
   exact hd_apart (l:=r) hnd.2.1 (fun h=>e (by rw [h])) (by simpa using hi) (by simpa using hj) hk hk2
structure NumH (w:World) (M:Nat) (A:Option Addr) (l:List Tk) (hs:List Hd):Prop where
 nd:(hs.flatMap blkH).Nodup
 lt:∀b∈hs.flatMap blkH,b < M
 out:∀g,A=some ⟨g,0,none⟩→g∉hs.flatMap blkH
 fz:∀b∈hs.flatMap blkH,∀j,w.frozen? ⟨b,j,none⟩=false
 each:∀h∈hs,Lst w h.1 h.2.2 h.2.1∧neatL h.2.2∧∀v∈occL h.2.2,0≤v∧v.toNat < l.length
structure StH (N M:Nat) (A:Option Addr) (c:Nat) (l:List Tk) (hs:List Hd) (ns:List (List UInt8)) (w:World) (j:Nat) (z:Value) (wr:World):Prop where
 fr:FrM M (hs.flatMap blkH) w wr
 lst:∀i,i < hs.length→Lst wr (hs.getD i default).1 ((midH (xV l) hs ns j).getD i []) (hs.getD i default).2.1
 num:NumS wr N M A c l z (namH (xV l) hs ns j)
section
variable {N M:Nat} {A:Option Addr} {c:Nat} {l:List Tk} {hs:List Hd} {ns:List (List UInt8)} {w wr w2:World} {z:Value} {j:Nat}
theorem hd_mem {i:Nat} (hi:i < hs.length):hs.getD i default∈hs:=by rw [List.getD_eq_getElem?_getD,List.getElem?_eq_getElem hi];exact List.getElem_mem hi
theorem StH.start (h:NumH w M A l hs) (hn:NumS w N M A c l z ns):StH N M A c l hs ns w 0 z w:=by
 refine ⟨FrM.refl _ _ _,fun i hi=>?_,by rw [namH_zero];exact hn⟩
 rw [midH_zero]
 have e:(hs.map (·.2.2)).getD i []=(hs.getD i default).2.2:=by simp [List.getD_eq_getElem?_getD,List.getElem?_eq_getElem hi]
 rw [e]
 exact (h.each _ (hd_mem hi)).1
theorem StH.below (h:StH N M A c l hs ns w j z wr) (hb:Below wr.heap.size wr w2):StH N M A c l hs ns w j z w2 :=
 ⟨h.fr.below (by have:=h.num.box.lt;have:=h.num.mn;omega) hb,fun i hi=>(h.lst i hi).below hb,h.num.below hb⟩
theorem StH.wants (h:StH N M A c l hs ns w j z wr) (hH:NumH w M A l hs) (hj:j < hs.length):NumL wr M A l (hs.getD j default).1 (hs.getD j default).2.2 (hs.getD j default).2.1:=by
 have hm:=hd_mem hj
 have hsub:∀b∈blkH (hs.getD j default),b∈hs.flatMap blkH:=fun b hb=>List.mem_flatMap.2 ⟨_,hm,hb⟩
 have hl:=h.lst j hj
 rw [midH_here hj] at hl
 exact ⟨hl,nodup_elem (f:=blkH) hH.nd hm,fun b hb=>hH.lt b (hsub b hb),fun g e hg=>hH.out g e (hsub g hg),fun b hb q=>by rw [h.fr.fz b (hH.lt b (hsub b hb)) q];exact hH.fz b (hsub b hb) q,(hH.each _ hm).2.1,(hH.each _ hm).2.2⟩
theorem StH.next {en:Ending} (h:StH N M A c l hs ns w j z wr) (hH:NumH w M A l hs) (hj:j < hs.length) (ht:TermsR N M A c l (hs.getD j default).1 (hs.getD j default).2.2 (hs.getD j default).2.1 (namH (xV l) hs ns j) wr en w2) :
  en=.returned (.tuple #[])∧∃z',StH N M A c l hs ns w (j+1) z' w2:=by
 obtain ⟨rfl,hfr,hl,z',hn⟩:=ht
 have hm:=hd_mem hj
 have hsub:∀b∈blkH (hs.getD j default),b∈hs.flatMap blkH:=fun b hb=>List.mem_flatMap.2 ⟨_,hm,hb⟩
 refine ⟨rfl,z',h.fr.trans (hfr.more hsub),fun i hi=>?_,by rw [namH_next hj];exact hn⟩
 rw [midH_next hj]
 by_cases e:i=j
 ·subst e
  have e2:((midH (xV l) hs ns i).set i (numPL (xV l) (hs.getD i default).2.2 (namH (xV l) hs ns i)).1).getD i []=(numPL (xV l) (hs.getD i default).2.2 (namH (xV l) hs ns i)).1:=by
   rw [List.getD_eq_getElem?_getD,List.getElem?_set_self (by rw [midH_length (by omega)];exact hi)];rfl
  rw [e2]
  exact hl
 ·have e2:((midH (xV l) hs ns j).set j (numPL (xV l) (hs.getD j default).2.2 (namH (xV l) hs ns j)).1).getD i []=(midH (xV l) hs ns j).getD i []:=by
   rw [List.getD_eq_getElem?_getD,List.getElem?_set_ne (fun h=>e h.symm),List.getD_eq_getElem?_getD]
  rw [e2]
  refine lst_blk (h.lst i hi) fun b hb=>?_
  rw [(midH_blk hi).1,(midH_blk hi).2] at hb
  have hb2:b∈blkH (hs.getD i default):=hb
  exact hfr.block b (hH.lt b (List.mem_flatMap.2 ⟨_,hd_mem hi,hb2⟩)) (hd_apart hH.nd e hi hj hb2)
def ListsR (N M:Nat) (A:Option Addr) (c:Nat) (l:List Tk) (hs:List Hd) (ns:List (List UInt8)) (w:World) (en:Ending) (w':World):Prop :=
 en=.returned (.tuple #[])∧∃z',FrM M (hs.flatMap blkH) w w'∧(∀i,i < hs.length→Lst w' (hs.getD i default).1 ((numLL (xV l) (hs.map (·.2.2)) ns).1.getD i []) (hs.getD i default).2.1)∧NumS w' N M A c l z' (numLL (xV l) (hs.map (·.2.2)) ns).2
theorem StH.done (h:StH N M A c l hs ns w hs.length z wr):ListsR N M A c l hs ns w (.returned (.tuple #[])) wr:=by
 refine ⟨rfl,z,h.fr,fun i hi=>?_,?_⟩
 ·have:=h.lst i hi
  rw [midH_all] at this
  exact this
 ·have:=h.num
  rw [namH_all] at this
  exact this
end
end Go.Proofs.YtaojnljppcnhjaaGreatDoor
namespace Go.Proofs.YtaojnljppcnhjaaGreatDoor
open Go.RowKit
def hdAm (x:Am):Hd:=(x.at_,x.cap,x.args)
theorem hdAm_get {xs:List Am} {i:Nat} (hi:i < xs.length):(xs.map hdAm).getD i default=hdAm (xs.getD i default):=by
 simp [List.getD_eq_getElem?_getD,List.getElem?_eq_getElem hi]
structure RowAm (w:World) (M:Nat) (B:Option Addr) (xs:List Am) (c:Nat):Prop where
 le:xs.length≤c
 cap:c≤maxLen
 row:0 < xs.length→∃b o,B=some ⟨b,o,none⟩∧b < M∧b∉(xs.map hdAm).flatMap blkH∧∀i,i < xs.length→∀q u,(elAm.cells (xs.getD i default))[q]?=some u→w.cell? ⟨b,o+i*2+q,none⟩=some u
section
variable {N M:Nat} {A:Option Addr} {c:Nat} {l:List Tk} {B:Option Addr} {xs:List Am} {cX:Nat} {ns:List (List UInt8)} {w:World} {z:Value}
set_option maxHeartbeats 8000000 in
set_option maxRecDepth 100000 in
theorem number_Am_at (htx:∀i,i < l.length→(l.getD i default).2.2.length≤16384) (hr:RowAm w M B xs cX) (hH:NumH w M A l (xs.map hdAm)) (hS:NumS w N M A c l z ns) (hlen:ns.length+nodesLL ((xs.map hdAm).map (·.2.2))≤100000) :
  Calls Tryz.prog 83 #[.pointer (some ⟨N,0,none⟩),.slice B xs.length cX] w (ListsR N M A c l (xs.map hdAm) ns w):=by
 have HR:=Lib.hid hr
 have HH:=Lib.hid hH
 have H0:=Lib.hid (StH.start hH hS)
 have HLen:=Lib.hid hlen
 have Q:=Lib.hid (fun B L cL z ns w hL hS hlen=>terms_at (N:=N) (M:=M) (A:=A) (c:=c) htx B L cL z ns w hL hS hlen)
 have hLl:xs.length≤9223372036854775807:=by have h1:=hr.le;have h2:=hr.cap;unfold maxLen at h2;omega
 clear hr hH hS hlen htx
 go_enter Tryz.func83,Tryz.ntmps83
 go_wp2_with fail
 go_loopw [8] (fun iv wr=>∃(j:Nat),iv=.int .i64 (j:Int)∧j≤xs.length∧∃z,Hid (StH N M A c l (xs.map hdAm) ns w j z wr)) (fun iv _=>xs.length - (intOf iv).toNat)
 case atStart=>exact ⟨0,rfl,Nat.zero_le _,z,H0⟩
 case round =>
  clear H0
  obtain ⟨j,rfl,hj,z,hI⟩:=hrel
  by_cases hlt:j < xs.length
  ·have hlt':(j:Int) < (xs.length:Int):=by omega
   obtain ⟨b,o,rfl,hbM,hbo,hcell⟩:=HR.out.row (by omega)
   have hjm:j < (xs.map hdAm).length:=by rw [List.length_map];exact hlt
   have hb:∀q,wr.cell? ⟨b,q,none⟩=w.cell? ⟨b,q,none⟩:=fun q=>World.cell?_of_block (hI.out.fr.block b hbM hbo)
   have QT:=Lib.hid (fun W (hW:Below wr.heap.size wr W)=>by
    have h1:=hI.out.below hW
    have h2:=h1.wants HH.out hjm
    have h3:=Q.out _ _ _ z (namH (xV l) (xs.map hdAm) ns j) W h2 h1.num (by have:=namH_room (X:=xV l) (ns:=ns) hjm;have:=HLen.out;omega)
    exact h3.mono fun en w2 ht=>h1.next HH.out hjm ht)
   rw [hdAm_get hlt] at QT
   generalize hu:xs.getD j default=u at *
   have hc:=hcell j hlt
   rw [hu] at hc
   have c0:=hc 0 _ rfl
   rw [←hb] at c0
   have c1:=hc 1 _ rfl
   rw [←hb] at c1
   simp only [Nat.add_zero] at c0
   have hb5:=Lib.hid ((Below.refl wr.heap.size wr).alloc (Nat.le_refl _) (.cells #[.string u.name,.slice u.at_ u.args.length u.cap] 92))
   clear hc hcell hb hu hbM hbo
   go_wp2_with (go_at_call 106;refine (QT.out _ hb5.out).mono ?_;rintro en w4 ⟨rfl,z4,h4⟩;have HN:=Lib.hid h4;clear h4)
   go_round
   case rel=>exact ⟨j+1,by go_num,by omega,_,HN⟩
   case measure=>simp [intOf];omega
  ·have HE:=Lib.hid (show ListsR N M A c l (xs.map hdAm) ns w (.returned (.tuple #[])) wr by
    have e:j=(xs.map hdAm).length:=by rw [List.length_map];omega
    rw [e] at hI
    exact hI.out.done)
   go_wp2_with fail
   go_end0
   exact HE.out
end
end Go.Proofs.YtaojnljppcnhjaaGreatDoor
namespace Go.Proofs.YtaojnljppcnhjaaGreatDoor
open Go.RowKit
def hdGl (x:Gl):Hd:=(x.at_,x.cap,x.args)
theorem hdGl_get {xs:List Gl} {i:Nat} (hi:i < xs.length):(xs.map hdGl).getD i default=hdGl (xs.getD i default):=by
 simp [List.getD_eq_getElem?_getD,List.getElem?_eq_getElem hi]
structure RowGl (w:World) (M:Nat) (B:Option Addr) (xs:List Gl) (c:Nat):Prop where
 le:xs.length≤c
 cap:c≤maxLen
 row:0 < xs.length→∃b o,B=some ⟨b,o,none⟩∧b < M∧b∉(xs.map hdGl).flatMap blkH∧∀i,i < xs.length→∀q u,(elGl.cells (xs.getD i default))[q]?=some u→w.cell? ⟨b,o+i*3+q,none⟩=some u
section
variable {N M:Nat} {A:Option Addr} {c:Nat} {l:List Tk} {B:Option Addr} {xs:List Gl} {cX:Nat} {ns:List (List UInt8)} {w:World} {z:Value}
set_option maxHeartbeats 8000000 in
set_option maxRecDepth 100000 in
theorem number_Gl_at (htx:∀i,i < l.length→(l.getD i default).2.2.length≤16384) (hr:RowGl w M B xs cX) (hH:NumH w M A l (xs.map hdGl)) (hS:NumS w N M A c l z ns) (hlen:ns.length+nodesLL ((xs.map hdGl).map (·.2.2))≤100000) :
  Calls Tryz.prog 84 #[.pointer (some ⟨N,0,none⟩),.slice B xs.length cX] w (ListsR N M A c l (xs.map hdGl) ns w):=by
 have HR:=Lib.hid hr
 have HH:=Lib.hid hH
 have H0:=Lib.hid (StH.start hH hS)
 have HLen:=Lib.hid hlen
 have Q:=Lib.hid (fun B L cL z ns w hL hS hlen=>terms_at (N:=N) (M:=M) (A:=A) (c:=c) htx B L cL z ns w hL hS hlen)
 have hLl:xs.length≤9223372036854775807:=by have h1:=hr.le;have h2:=hr.cap;unfold maxLen at h2;omega
 clear hr hH hS hlen htx
 go_enter Tryz.func84,Tryz.ntmps84
 go_wp2_with fail
 go_loopw [8] (fun iv wr=>∃(j:Nat),iv=.int .i64 (j:Int)∧j≤xs.length∧∃z,Hid (StH N M A c l (xs.map hdGl) ns w j z wr)) (fun iv _=>xs.length - (intOf iv).toNat)
 case atStart=>exact ⟨0,rfl,Nat.zero_le _,z,H0⟩
 case round =>
  clear H0
  obtain ⟨j,rfl,hj,z,hI⟩:=hrel
  by_cases hlt:j < xs.length
  ·have hlt':(j:Int) < (xs.length:Int):=by omega
   obtain ⟨b,o,rfl,hbM,hbo,hcell⟩:=HR.out.row (by omega)
   have hjm:j < (xs.map hdGl).length:=by rw [List.length_map];exact hlt
   have hb:∀q,wr.cell? ⟨b,q,none⟩=w.cell? ⟨b,q,none⟩:=fun q=>World.cell?_of_block (hI.out.fr.block b hbM hbo)
   have QT:=Lib.hid (fun W (hW:Below wr.heap.size wr W)=>by
    have h1:=hI.out.below hW
    have h2:=h1.wants HH.out hjm
    have h3:=Q.out _ _ _ z (namH (xV l) (xs.map hdGl) ns j) W h2 h1.num (by have:=namH_room (X:=xV l) (ns:=ns) hjm;have:=HLen.out;omega)
    exact h3.mono fun en w2 ht=>h1.next HH.out hjm ht)
   rw [hdGl_get hlt] at QT
   generalize hu:xs.getD j default=u at *
   have hc:=hcell j hlt
   rw [hu] at hc
   have c0:=hc 0 _ rfl
   rw [←hb] at c0
   have c1:=hc 1 _ rfl
   rw [←hb] at c1
   have c2:=hc 2 _ rfl
   rw [←hb] at c2
   simp only [Nat.add_zero] at c0
   have hb5:=Lib.hid ((Below.refl wr.heap.size wr).alloc (Nat.le_refl _) (.cells #[.int .i64 u.op,.string u.name,.slice u.at_ u.args.length u.cap] 54))
   clear hc hcell hb hu hbM hbo
   go_wp2_with (go_at_call 106;refine (QT.out _ hb5.out).mono ?_;rintro en w4 ⟨rfl,z4,h4⟩;have HN:=Lib.hid h4;clear h4)
   go_round
   case rel=>exact ⟨j+1,by go_num,by omega,_,HN⟩
   case measure=>simp [intOf];omega
  ·have HE:=Lib.hid (show ListsR N M A c l (xs.map hdGl) ns w (.returned (.tuple #[])) wr by
    have e:j=(xs.map hdGl).length:=by rw [List.length_map];omega
    rw [e] at hI
    exact hI.out.done)
   go_wp2_with fail
   go_end0
   exact HE.out
end
end Go.Proofs.YtaojnljppcnhjaaGreatDoor
namespace Go.Proofs.YtaojnljppcnhjaaGreatDoor
open Go
theorem size_pos1 (t:Tm):1≤t.size:=by
 cases t
 rw [Tm.size]
 split<;>omega
theorem sizeL_app (l m:List Tm):sizeL (l++m)=sizeL l+sizeL m:=by
 induction l with
 | nil=>simp [sizeL]
 | cons t r ih=>simp only [List.cons_append,sizeL,ih];omega
def Sized (ex:Rd1 Tm):Prop:=∀ts ns x r ns2,ex ts ns=.ok x r ns2→x.size+r.length≤ts.length∧sizeL x.args+1≤x.size
theorem want_sized {α:Type} {s:List UInt8} {v x:α} {ts r:List Tok} {ns ns2:List (List UInt8)} (h:wantS s v ts ns=.ok x r ns2):x=v∧r.length+1≤ts.length:=by
 unfold wantS at h
 split at h
 ·rename_i hs
  injection h with h1 h2 h3
  subst h1 h2
  cases ts with
  | nil=>cases hs
  | cons a t=>exact ⟨rfl,by simp⟩
 ·cases h
theorem args_sized {ex:Rd1 Tm} (hE:Sized ex):∀(n:Nat) (ts:List Tok),ts.length≤n→∀acc ns l r ns2,argsS ex acc ts ns=.ok l r ns2→sizeL l+r.length+1≤sizeL acc+ts.length
 | n,ts,hn,acc,ns,l,r,ns2,h=>by
  rw [argsS] at h
  cases hx:ex ts.tail ns with
  | err a e=>rw [hx] at h;cases h
  | ok x r1 ns1 =>
   rw [hx] at h
   simp only at h
   have h1:=(hE _ _ _ _ _ hx).1
   have h2:=size_pos1 x
   have h3:ts.tail.length=ts.length - 1:=List.length_tail
   have h4:sizeL (acc++[x])=sizeL acc+x.size:=by rw [sizeL_app];simp [sizeL]
   split at h
   ·split at h
    ·rename_i hlt
     cases n with
     | zero=>omega
     | succ n =>
      have:=args_sized hE n r1 (by omega) _ _ _ _ _ h
      omega
    ·cases h
   ·obtain ⟨rfl,h5⟩:=want_sized h
    omega
theorem nm_sized {ts r:List Tok} {ns ns2:List (List UInt8)} {t:List UInt8} (h:nmS ts ns=.ok t r ns2):r.length+1=ts.length∧ns2=ns:=by
 unfold nmS at h
 cases ts with
 | nil=>cases h
 | cons a q =>
  obtain ⟨k,x,g⟩:=a
  simp only at h
  split at h
  ·cases h
  ·split at h
   ·cases h
   ·injection h with h1 h2 h3
    subst h2
    exact ⟨by simp,h3.symm⟩
theorem atom_sized {ex:Rd1 Tm} (hE:Sized ex) {ts r:List Tok} {ns ns2:List (List UInt8)} {x:List UInt8×List Tm} (h:atomS ex ts ns=.ok x r ns2):sizeL x.2+1+r.length≤ts.length:=by
 unfold atomS at h
 cases hn:nmS ts ns with
 | err a e=>rw [hn] at h;cases h
 | ok t r1 ns1 =>
  rw [hn] at h
  have h1:=(nm_sized hn).1
  simp only at h
  split at h
  ·cases ha:argsS ex [] r1 ns1 with
   | err a e=>rw [ha] at h;cases h
   | ok l r2 ns3 =>
    rw [ha] at h
    injection h with e1 e2 e3
    subst e1 e2
    have:=args_sized hE _ r1 (Nat.le_refl _) _ _ _ _ _ ha
    simp only [sizeL] at this
    simp only
    omega
  ·injection h with e1 e2 e3
   subst e1 e2
   simp only [sizeL]
   omega
theorem opnd_sized {ex:Rd1 Tm} (hE:Sized ex):Sized (opndS ex):=fun ts ns x r ns2 h=>by
 unfold opndS at h
 cases ts with
 | nil=>cases h
 | cons a q =>
  obtain ⟨k,t,g⟩:=a
  simp only at h
  split at h
  ·injection h with e1 e2 e3
   subst e1 e2
   exact ⟨by simp [intS,Tm.size];omega,by simp [intS,Tm.size,Tm.args,sizeL]⟩
  split at h
  ·injection h with e1 e2 e3
   subst e1 e2
   exact ⟨by simp [varS,Tm.size];omega,by simp [varS,Tm.size,Tm.args,sizeL]⟩
  split at h
  ·cases ha:atomS ex ((k,t,g) :: q) ns with
   | err a e=>rw [ha] at h;cases h
   | ok y r2 ns3 =>
    rw [ha] at h
    injection h with e1 e2 e3
    subst e1 e2
    have:=atom_sized hE ha
    refine ⟨?_,by simp only [funS,Tm.size,Tm.args,if_true];omega⟩
    simp only [funS,Tm.size,if_true]
    omega
  split at h
  ·cases q with
   | nil=>cases h
   | cons b q2 =>
    obtain ⟨k2,t2,g2⟩:=b
    simp only at h
    split at h
    ·injection h with e1 e2 e3
     subst e1 e2
     exact ⟨by simp [intS,Tm.size];omega,by simp [intS,Tm.size,Tm.args,sizeL]⟩
    ·cases h
  split at h
  ·cases hx:ex q ns with
   | err a e=>rw [hx] at h;cases h
   | ok y r2 ns3 =>
    rw [hx] at h
    obtain ⟨rfl,h5⟩:=want_sized h
    have:=hE _ _ _ _ _ hx
    refine ⟨?_,this.2⟩
    simp only [List.length_cons]
    omega
  ·cases h
theorem chain_sized {ops:List (List UInt8)} {o:Rd1 Tm} (hO:Sized o):∀(n:Nat) (ts:List Tok),ts.length≤n→∀x ns y r ns2,chainS ops o x ts ns=.ok y r ns2→y.size+r.length≤x.size+ts.length∧(sizeL x.args+1≤x.size→sizeL y.args+1≤y.size)
 | n,ts,hn,x,ns,y,r,ns2,h=>by
  rw [chainS.eq_def] at h
  cases ts with
  | nil =>
   injection h with e1 e2 e3
   subst e1 e2
   exact ⟨Nat.le_refl _,id⟩
  | cons a q =>
   obtain ⟨k,t,g⟩:=a
   simp only at h
   split at h
   ·cases ho:o q ns with
    | err a e=>rw [ho] at h;cases h
    | ok z r2 ns3 =>
     rw [ho] at h
     simp only at h
     have h1:=hO _ _ _ _ _ ho
     split at h
     ·cases n with
      | zero=>simp at hn
      | succ n =>
       have h2:=chain_sized hO n r2 (by simp only [List.length_cons] at hn;have:=size_pos1 z;have:=h1.1;omega) _ _ _ _ _ h
       simp only [funS,Tm.size,Tm.args,if_true,sizeL] at h2
       refine ⟨?_,fun _=>h2.2 (by omega)⟩
       simp only [List.length_cons]
       omega
     ·cases h
   ·injection h with e1 e2 e3
    subst e1 e2
    exact ⟨Nat.le_refl _,id⟩
theorem level_sized {ops:List (List UInt8)} {o:Rd1 Tm} (hO:Sized o):Sized (levelS ops o):=fun ts ns x r ns2 h=>by
 unfold levelS at h
 cases ho:o ts ns with
 | err a e=>rw [ho] at h;cases h
 | ok z r2 ns3 =>
  rw [ho] at h
  have h1:=hO _ _ _ _ _ ho
  have h2:=chain_sized hO _ r2 (Nat.le_refl _) _ _ _ _ _ h
  exact ⟨by omega,h2.2 h1.2⟩
theorem expr_sized:∀n,Sized (exprS n)
 | 0=>fun _ _ _ _ _ h=>by cases h
 | n+1=>level_sized (level_sized (opnd_sized (expr_sized n)))
theorem goal_sized {ex:Rd1 Tm} (hE:Sized ex) {ts r:List Tok} {ns ns2:List (List UInt8)} {x:Gs} (h:goalS ex ts ns=.ok x r ns2):sizeL x.2.2+r.length≤ts.length:=by
 unfold goalS at h
 cases ts with
 | nil=>cases h
 | cons a q =>
  obtain ⟨k,t,g⟩:=a
  simp only at h
  split at h
  ·split at h
   ·injection h with e1 e2 e3
    subst e1 e2
    simp [sizeL]
   split at h
   ·injection h with e1 e2 e3
    subst e1 e2
    simp [sizeL]
   split at h
   ·split at h
    ·cases hx:ex q.tail ns with
     | err a e=>rw [hx] at h;cases h
     | ok y r2 ns3 =>
      rw [hx] at h
      obtain ⟨rfl,h5⟩:=want_sized h
      have:=hE _ _ _ _ _ hx
      have h3:q.tail.length=q.length - 1:=List.length_tail
      simp only [List.length_cons,sizeL]
      omega
    ·cases h
   ·cases h
  ·cases hx:ex ((k,t,g) :: q) ns with
   | err a e=>rw [hx] at h;cases h
   | ok y r2 ns3 =>
    rw [hx] at h
    have h1:=hE _ _ _ _ _ hx
    simp only at h
    split at h
    ·split at h
     ·injection h with e1 e2 e3
      subst e1 e2
      simp only
      omega
     ·cases h
    ·cases hy:ex r2.tail ns3 with
     | err a e=>rw [hy] at h;cases h
     | ok y2 r3 ns4 =>
      rw [hy] at h
      injection h with e1 e2 e3
      subst e1 e2
      have h2:=hE _ _ _ _ _ hy
      have h3:r2.tail.length=r2.length - 1:=List.length_tail
      simp only
      split<;>simp only [sizeL]<;>omega
end Go.Proofs.YtaojnljppcnhjaaGreatDoor
namespace Go.Proofs.YtaojnljppcnhjaaGreatDoor
open Go.RowKit
def icells (l:List Int):List Value:=l.map (Value.int .i64)
theorem icells_append (l m:List Int):icells (l++m)=icells l++icells m:=by simp [icells]
theorem icells_one (l:List Int):∀u∈icells l,u.oneCell'=true:=by
 intro u hu
 obtain ⟨_,_,rfl⟩:=List.mem_map.1 hu
 rfl
theorem icells_get {l:List Int} {i:Nat} (h:i < l.length):(icells l)[i]?=some (.int .i64 (l.getD i 0)):=by simp [icells,List.getD,h]
def Ints (w:World) (A:Option Addr) (l:List Int):Prop:=0 < l.length→∃b o,A=some ⟨b,o,none⟩∧∀i,i < l.length→w.cell? ⟨b,o+i,none⟩=some (.int .i64 (l.getD i 0))
theorem Ints.get {w:World} {A:Option Addr} {l:List Int} (h:Ints w A l) {i:Nat} (hi:i < l.length):∃b o,A=some ⟨b,o,none⟩∧w.cell? ⟨b,o+i,none⟩=some (.int .i64 (l.getD i 0)):=by
 obtain ⟨b,o,e,hc⟩:=h (by omega)
 exact ⟨b,o,e,hc i hi⟩
theorem Ints.below {w w':World} {A:Option Addr} {l:List Int} (h:Ints w A l) (hb:Below w.heap.size w w'):Ints w' A l:=fun hn=>by
 obtain ⟨b,o,e,hc⟩:=h hn
 refine ⟨b,o,e,fun i hi=>?_⟩
 rw [hb.cell (World.block_lt_of_cell? w _ (hc i hi))]
 exact hc i hi
def OwnI (w:World) (base:Nat) (v:Value) (l:List Int):Prop:=w.ownsRow base 3 1 v l.length (icells l)
theorem OwnI.nil (w:World) (base:Nat):OwnI w base (.slice none 0 0) []:=World.ownsRow_nil w base _ _
theorem OwnI.form {w:World} {base:Nat} {v:Value} {l:List Int} (h:OwnI w base v l):∃A c,v=.slice A l.length c∧Ints w A l∧l.length≤c:=by
 rcases h.2 with ⟨rfl,h0⟩|⟨g,cap,cur,rfl,_,_,hn,_,_,_⟩
 ·exact ⟨none,0,by rw [h0],fun hn=>absurd hn (by omega),by omega⟩
 ·refine ⟨_,cap,rfl,fun _=>⟨g,0,rfl,fun i hi=>?_⟩,hn⟩
  rw [Nat.zero_add,World.ownsRow.cellAt h i (by omega),icells_get hi]
theorem OwnI.alloc {w:World} {base:Nat} {v:Value} {l:List Int} (h:OwnI w base v l) (o:Obj):OwnI (w.alloc o) base v l:=World.ownsRow.alloc h o
theorem OwnI.below {w w':World} {base:Nat} {v:Value} {l:List Int} (h:OwnI w base v l) (hb:Below w.heap.size w w'):OwnI w' base v l :=
 World.ownsRow.kept (row:=none) h ⟨hb.os,hb.tape,hb.output,hb.size,fun k hk _=>hb.block k hk⟩ (by
  rcases h.2 with ⟨rfl,_⟩|⟨g,cap,cur,rfl,_⟩
  ·exact .inl rfl
  ·exact .inr (by simp [Value.ownBlock]))
theorem take_int {l:List Int} {k:Nat} (h:k < l.length):l.take (k+1)=l.take k++[l.getD k 0]:=by
 rw [List.take_succ_eq_append_getElem h]
 simp [List.getD,List.getElem?_eq_getElem h]
theorem getD_int {l:List Int} {k:Nat} (h:k < l.length):l.getD k 0∈l:=by
 simp only [List.getD,List.getElem?_eq_getElem h,Option.getD_some]
 exact List.getElem_mem h
set_option maxHeartbeats 400000 in
theorem has_at (A:Option Addr) (l:List Int) (c:Nat) (n:Int) (w:World) (hI:Ints w A l) (hlen:l.length≤9223372036854775807) {r:Bool} (hr:decide (n∈l)=r) :
  Calls Tryz.prog 111 #[.slice A l.length c,.int .i64 n] w fun e w'=>e=.returned (.bool r)∧w=w':=by
 have HR:=Lib.hid hr
 clear hr
 go_enter Tryz.func111,Tryz.ntmps111
 go_wp2
 go_loop [5] (fun i=>∃j:Nat,j≤l.length∧i=.int .i64 j∧Hid (n∉l.take j)) (fun i=>l.length - (intOf i).toNat)
 case atStart=>exact ⟨0,Nat.zero_le _,rfl,Lib.hid (by simp)⟩
 case round =>
  obtain ⟨j,hj,rfl,HN⟩:=hrel
  by_cases hlt:j < l.length
  ·obtain ⟨b,o,rfl,hc⟩:=hI.get hlt
   have HT:=Lib.hid (take_int hlt)
   have HM:=Lib.hid (getD_int hlt)
   generalize l.getD j 0=x at *
   by_cases hx:x=n
   ·subst hx
    have HE:=Lib.hid (show true=r by rw [←HR.out];simp [HM.out])
    go_wp2
    go_ret
    exact ⟨by rw [←HE.out];rfl,rfl⟩
   ·have hx':(x==n)=false:=by simpa using hx
    have HN':=Lib.hid (show n∉l.take (j+1) by
     rw [HT.out,List.mem_append,List.mem_singleton]
     exact fun h=>h.elim HN.out (fun e=>hx e.symm))
    clear hx
    go_wp2
    go_round
    case rel=>exact ⟨j+1,by omega,by go_num,HN'⟩
    case measure=>simp [intOf];omega
  ·obtain rfl:j=l.length:=by omega
   have HE:=Lib.hid (show false=r by
    have:=HN.out
    rw [List.take_length] at this
    rw [←HR.out];simp [this])
   go_wp2
   go_ret
   exact ⟨by rw [←HE.out];rfl,rfl⟩
end Go.Proofs.YtaojnljppcnhjaaGreatDoor
namespace Go.Proofs.YtaojnljppcnhjaaGreatDoor
open Go.RowKit
def addV (l:List Int) (x:Int):List Int:=if x∈l then l else l++[x]
def addAll (l xs:List Int):List Int:=xs.foldl addV l
theorem addAll_append (l xs ys:List Int):addAll l (xs++ys)=addAll (addAll l xs) ys:=by simp [addAll]
theorem addAll_one (l:List Int) (x:Int):addAll l [x]=addV l x:=rfl
theorem addV_length (l:List Int) (x:Int):(addV l x).length≤l.length+1:=by unfold addV;split<;>simp
theorem addAll_length (l xs:List Int):(addAll l xs).length≤l.length+xs.length:=by
 induction xs generalizing l with
 | nil=>simp [addAll]
 | cons x r ih =>
  have h1:=ih (addV l x)
  have h2:=addV_length l x
  simp only [addAll,List.foldl_cons,List.length_cons] at *
  omega
theorem occ_length:(∀t:Tm,t.occ.length≤t.size)∧(∀l,(occL l).length≤sizeL l):=by
 refine Tm.induct2 (fun k n s A c a ih=>?_) (Nat.le_refl _) (fun t r h1 h2=>?_)
 ·simp only [Tm.occ,Tm.size]
  by_cases h1:k=1
  ·simp [h1]
  ·by_cases h2:k=2
   ·simp [h2];omega
   ·simp [h1,h2]
 ·simp only [occL,sizeL,List.length_append];omega
theorem mem_addV (l:List Int) (x y:Int):y∈addV l x↔y∈l∨y=x:=by
 unfold addV
 split
 ·constructor
  ·exact .inl
  ·rintro (h|rfl)
   ·exact h
   ·assumption
 ·simp
theorem mem_addAll (l xs:List Int) (y:Int):y∈addAll l xs↔y∈l∨y∈xs:=by
 induction xs generalizing l with
 | nil=>simp [addAll]
 | cons x r ih =>
  have:=ih (addV l x)
  simp only [addAll,List.foldl_cons] at this ⊢
  rw [this,mem_addV]
  simp [or_assoc]
def Grows (w0:World) (l:List Int) (e:Ending) (w':World):Prop:=∃v,e=.returned v∧OwnI w' w0.heap.size v l∧Below w0.heap.size w0 w'
theorem int_info:(Tryz.prog.info? 3).map (fun i=>(i.zero,i.size,i.bytes))=some (some (.int .i64 0),1,8):=by kernel_rfl
theorem box4g {w w':World} {v0 v1 v2 v3:Value} {T:TypeId} {o:Obj} {row:Option Nat} (hg:((w.alloc (.cells #[v0,v1,v2,v3] T)).alloc o).grownBy w' row) (hr:∀k,row=some k→k < w.heap.size) :
  w'.cell? ⟨w.heap.size,0,none⟩=some v0∧w'.cell? ⟨w.heap.size,1,none⟩=some v1∧w'.cell? ⟨w.heap.size,2,none⟩=some v2∧w'.cell? ⟨w.heap.size,3,none⟩=some v3:=by
 have h:∀j,w'.cell? ⟨w.heap.size,j,none⟩=(#[v0,v1,v2,v3]:Array Value)[j]?:=fun j=>by
  rw [World.cell?_of_block (a:=⟨w.heap.size,j,none⟩) (hg.block w.heap.size (by simp;omega) (fun e=>by have:=hr _ e.symm;omega)),World.cell?_alloc_lt _ _ _ (by simp),World.cell?_alloc_at _ _ _ _ rfl]
 exact ⟨h 0,h 1,h 2,h 3⟩
theorem Grows.mk {w0 w':World} {l:List Int} {e:Ending} {v:Value} (he:e=.returned v) (h:OwnI w' w0.heap.size v l) (hb:Below w0.heap.size w0 w'):Grows w0 l e w':=⟨v,he,h,hb⟩
theorem one_new (w:World) (o:Obj) (T:TypeId) (x:Value):∀(j:Nat) (u:Value),[x][j]?=some u→((w.alloc o).alloc (.cells #[x] T)).cell? ((⟨w.heap.size+1,0,none⟩:Addr).add j)=some u:=by
 intro j u hu
 cases j with
 | zero =>
  have e:(w.alloc o).heap.size=w.heap.size+1:=by simp
  rw [add_plain,Nat.add_zero,← e,World.cell?_alloc_at _ _ _ _ rfl]
  simpa using hu
 | succ j=>simp at hu
theorem OwnI.put {w:World} {base:Nat} {v:Value} {l:List Int} {n:Int} (h:w.ownsRow base 3 1 v (l.length+1) (icells l++[.int .i64 n])) (hn:n∉l):OwnI w base v (addV l n):=by
 unfold OwnI addV
 rw [if_neg hn,List.length_append,icells_append]
 exact h
def VarsAt (t:Tm):Prop:=∀(v:Value) (l:List Int) (w0 w:World),t.At w0→Below w0.heap.size w0 w→OwnI w w0.heap.size v l→l.length+t.size≤1000000 →
  Calls Tryz.prog 90 #[v,t.val] w (Grows w0 (addAll l t.occ))
set_option maxHeartbeats 1000000 in
theorem vars_at (t:Tm):VarsAt t:=by
 induction t using Tm.induct with
 | h k n s A c a ih0 =>
  intro v l w0 w hat hw hown hsz
  obtain ⟨V,q,rfl,hI,hq⟩:=hown.form
  have hat1:=hat.below hw
  have qa:=Lib.hid (args_at (.mk k n s A c a))
  have hocc:=occ_used (.mk k n s A c a)
  have hsu:=size_used (.mk k n s A c a)
  by_cases k1:k=1
  ·subst k1
   have hus:(Tm.mk 1 n s A c a).used=[]:=by simp [Tm.used,Tm.kind]
   have HO:=Lib.hid (show (Tm.mk 1 n s A c a).occ=[n] by rw [hocc];simp [Tm.kind,Tm.num])
   rw [hus] at qa hsu
   generalize (Tm.mk 1 n s A c a).uat=U at qa
   generalize (Tm.mk 1 n s A c a).ucap=uq at qa
   have hlen:l.length≤9223372036854775807:=by omega
   obtain ⟨b1,hb1⟩:∃b,decide (n∈l)=b:=⟨_,rfl⟩
   have qh:=Lib.hid (fun W (h:Below w.heap.size w W)=>has_at V l q n W (hI.below h) hlen hb1)
   have B0:=Lib.hid (show ∀o,Below w.heap.size w (w.alloc o) from fun o=>(Below.refl _ _).alloc (Nat.le_refl _) o)
   have HB:=Lib.hid hb1
   have HW:=Lib.hid hown
   clear ih0 hocc hb1 hat hat1 hI hown
   show Calls Tryz.prog 90 #[.slice V l.length q,.agg #[.int .i64 1,.int .i64 n,.string s,.slice A a.length c]] w _
   cases b1
   ·have hn:n∉l:=by simpa using HB.out
    have HN:=Lib.hid hn
    obtain ⟨i0,hi,hz0,hz1,hz2⟩:=info_parts int_info
    have hw1:=(hw.alloc hw.size (.cells #[.int .i64 1,.int .i64 n,.string s,.slice A a.length c] 56)).alloc (by have:=hw.size;simp;omega) (.cells #[.int .i64 n] 3)
    have HS:=Lib.hid hw1.size
    clear hn
    go_enter Tryz.func90,Tryz.ntmps90
    go_wp2_with fail
    refine (qh.out _ (B0.out _)).mono ?_
    rintro e w' ⟨rfl,rfl⟩
    go_wp2_with (at_builtin;refine wpList_append_own _ rfl _ _ 86 rfl w0.heap.size 3 i0 (.int .i64 0) 1 8 Tryz.underlying86 hi hz0 hz1 hz2 rfl (by decide) _ l.length (icells l) rfl ((HW.out.alloc _).alloc _) ⟨w.heap.size+1,0,none⟩ 1 1 [.int .i64 n] rfl rfl (one_new _ _ _ _) (icells_one [n]) (by unfold maxLen;omega) (by omega) HS.out ?_;intro v' w1 hown1 hg1 _;obtain ⟨d0,d1,d2,d3⟩:=box4g hg1 (fun k hk=>(World.ownsRow.lt HW.out k hk).2))
    have hb1:Below w0.heap.size w0 w1:=hw1.grown hg1 HS.out (fun k hk=>(World.ownsRow.lt HW.out k hk).1)
    have HP:=Lib.hid (OwnI.put hown1 HN.out)
    clear hown1 hg1
    go_wp2_with fail
    refine (qa.out _).mono ?_
    rintro e w2 ⟨rfl,hb2⟩
    go_wp2_with fail
    refine wp_loop_rounds 1 ?_
    rw [rounds_succ]
    go_wp2_with fail
    go_ret
    refine Grows.mk rfl ?_ (hb1.trans (hb2.mono hb1.size))
    rw [HO.out,addAll_one]
    exact HP.out.below hb2
   ·have hn:n∈l:=by simpa using HB.out
    have HN:=Lib.hid hn
    clear hn
    go_enter Tryz.func90,Tryz.ntmps90
    go_wp2_with fail
    refine (qh.out _ (B0.out _)).mono ?_
    rintro e w' ⟨rfl,rfl⟩
    go_wp2_with fail
    refine (qa.out _).mono ?_
    rintro e w2 ⟨rfl,hb2⟩
    have hb3:Below w.heap.size w w2:=(B0.out _).trans (hb2.mono (by simp))
    go_wp2_with fail
    refine wp_loop_rounds 1 ?_
    rw [rounds_succ]
    go_wp2_with fail
    go_ret
    refine Grows.mk rfl ?_ (hw.trans (hb3.mono hw.size))
    rw [HO.out,addAll_one]
    unfold addV
    rw [if_pos HN.out]
    exact HW.out.below hb3
  ·have k1':(k==1)=false:=by simp [k1]
   have hl:=hat.ulst
   have ih:∀x∈(Tm.mk k n s A c a).used,VarsAt x:=by
    unfold Tm.used
    split
    ·exact ih0
    ·intro x hx;cases hx
   have HO:=Lib.hid (show (Tm.mk k n s A c a).occ=occL (Tm.mk k n s A c a).used by rw [hocc];exact if_neg k1)
   have hol:=occ_length.2 (Tm.mk k n s A c a).used
   rw [hsu] at hsz
   rw [HO.out]
   clear ih0 hocc hat hat1 hI k1 HO hsu
   generalize (Tm.mk k n s A c a).used=us at *
   generalize (Tm.mk k n s A c a).uat=U at *
   generalize (Tm.mk k n s A c a).ucap=uq at *
   have QI:=Lib.hid ih
   have hlen:us.length≤9223372036854775807:=by have:=hl.1;have:=hl.2.1;unfold maxLen at *;omega
   have HW:=Lib.hid hown
   clear ih hown
   show Calls Tryz.prog 90 #[.slice V l.length q,.agg #[.int .i64 k,.int .i64 n,.string s,.slice A a.length c]] w _
   go_enter Tryz.func90,Tryz.ntmps90
   go_wp2_with fail
   refine (qa.out _).mono ?_
   rintro e w2 ⟨rfl,hb2⟩
   have hb3:Below w.heap.size w w2:=((Below.refl _ _).alloc (Nat.le_refl _) _).trans (hb2.mono (by simp))
   have hb4:Below w0.heap.size w0 w2:=hw.trans (hb3.mono hw.size)
   go_wp2_with fail
   go_loopw [0,6] (fun z i wr=>∃(j:Nat) (x:Value),j≤us.length∧i=.int .i64 j∧z=x∧Hid (OwnI wr w0.heap.size x (addAll l (occL (us.take j))))∧Below w0.heap.size w0 wr) (fun _ i _=>us.length - (intOf i).toNat)
   case atStart=>exact ⟨0,_,Nat.zero_le _,rfl,rfl,Lib.hid (HW.out.below hb3),hb4⟩
   case round =>
    obtain ⟨j,x,hj,rfl,rfl,HX,hb⟩:=hrel
    by_cases hlt:j < us.length
    ·obtain ⟨b,o,rfl,⟨c0,c1,c2,c3⟩,_⟩:=(hl.below hb).get hlt
     have hy:=hl.mem (getD_mem hlt)
     have hmem:=getD_mem hlt
     have hn:=sizeL_next hlt
     have ht:=sizeL_take us (j+1)
     have ho:=occ_length.2 (us.take j)
     have ha:=addAll_length l (occL (us.take j))
     have HN:=Lib.hid (occL_next hlt)
     generalize us.getD j default=y at *
     have hB:(addAll l (occL (us.take j))).length+y.size≤1000000:=by omega
     have Q1:=Lib.hid (QI.out y hmem _ (addAll l (occL (us.take j))) w0 wr hy hb HX.out hB)
     clear hy QI hmem hn ht ho ha hB
     obtain ⟨k',n',s',A',c',a'⟩:=y
     simp only [Tm.kind,Tm.num,Tm.name,Tm.at_,Tm.args,Tm.cap] at c0 c1 c2 c3
     go_wp2_with fail
     refine Q1.out.mono ?_
     rintro e w5 ⟨v5,rfl,hown5,hb5⟩
     go_wp2_with fail
     go_roundw
     case rel=>exact ⟨j+1,v5,by omega,by go_num,rfl,Lib.hid (by rw [HN.out,addAll_append];exact hown5),hb5⟩
     case measure=>simp [intOf];omega
    ·obtain rfl:j=us.length:=by omega
     go_wp2_with fail
     go_ret
     refine Grows.mk rfl ?_ hb
     have:=HX.out
     rw [List.take_length] at this
     exact this
end Go.Proofs.YtaojnljppcnhjaaGreatDoor
namespace Go.Proofs.YtaojnljppcnhjaaGreatDoor
open Go.RowKit
theorem ref_vars_at (t:Tm) (w:World) (ht:t.At w) (hs:t.size≤1000000):Calls Tryz.prog 62 #[t.val] w (Grows w (addAll [] t.occ)):=by
 have Q:=Lib.hid (fun W (h:Below w.heap.size w W)=>vars_at t (.slice none 0 0) [] w W ht h (OwnI.nil _ _) (by simpa using hs))
 obtain ⟨k,n,s,A,c,a⟩:=t
 show Calls Tryz.prog 62 #[.agg #[.int .i64 k,.int .i64 n,.string s,.slice A a.length c]] w _
 generalize (Tm.mk k n s A c a).occ=oc at *
 clear ht hs
 go_enter Tryz.func62,Tryz.ntmps62
 go_wp2_with fail
 refine (Q.out _ ((Below.refl _ _).alloc (Nat.le_refl _) _)).mono ?_
 rintro e w1 ⟨v,rfl,hown,hb⟩
 go_wp2_with fail
 go_ret
 exact Grows.mk rfl hown hb
end Go.Proofs.YtaojnljppcnhjaaGreatDoor
