/-
  PgTok.
  PgFun.
  PgRead.
 PgListP.
 PgListTm.
 PgAtom.
 RzTok.
-/
import Derived.Test.YtaojnljppcnhjaaGreatDoorMf6
import Derived.Maps.AppendAt
import Derived.WalkSpells
import Derived.Lib.SliceRun
import Derived.Laws.Rows
import Derived.Deep.AppendLies
import Derived.Deep.LoopGhost
namespace Go.Proofs.YtaojnljppcnhjaaGreatDoor
open Go.RowKit
section
variable {w:World} {R:Nat} {A:Option Addr} {c:Nat} {l:List Tk} {i:Nat}
set_option maxHeartbeats 1000000 in
theorem p_next_at (h:Pq w R A c l i) :
  Calls Tryz.prog 44 #[.pointer (some ⟨R,0,none⟩)] w fun e w'=>e=.returned (tokV (l.getD i default))∧Below w.heap.size w w':=by
 obtain ⟨X,hX⟩:∃X,X=w.alloc (.cells #[.int .i64 0,.int .i64 0,.string ⟨#[]⟩] 67):=⟨_,rfl⟩
 have HX:=Lib.hid (show Below w.heap.size w X by rw [hX];exact below1 w _)
 have hXX:Pq X R A c l i:=h.below HX.out
 have hnew:∀j,X.cell? ⟨w.heap.size,j,none⟩=(#[.int .i64 0,.int .i64 0,.string ⟨#[]⟩]:Array Value)[j]?:=fun j=>by rw [hX];exact World.cell?_alloc_at _ _ _ _ rfl
 have n0:X.cell? ⟨w.heap.size,0,none⟩=some (.int .i64 0):=hnew 0
 have n1:X.cell? ⟨w.heap.size,1,none⟩=some (.int .i64 0):=hnew 1
 have n2:X.cell? ⟨w.heap.size,2,none⟩=some (.string ⟨#[]⟩):=hnew 2
 have f0:∀j,X.frozen? ⟨w.heap.size,j,none⟩=false:=fun j=>by rw [hX];exact World.frozen?_alloc_at _ _ _ _ rfl
 have fr0:=f0 0
 have fr1:=f0 1
 have fr2:=f0 2
 clear hnew f0 h
 obtain ⟨g,rfl,t0,t1,t2⟩:=hXX.tok
 have h0:=hXX.l0
 have h1:=hXX.l1
 have hil:(i:Int) < (l.length:Int):=by have:=hXX.ilt;omega
 have hi0:(0:Int)≤(i:Int):=by omega
 have hlen:=hXX.toks.1
 have hcap:=hXX.toks.2.1
 have hgR:=hXX.low g rfl
 have hRX:=hXX.lt
 clear hXX
 generalize l.getD i default=t at t0 t1 t2 ⊢
 obtain ⟨k,p,x⟩:=t
 simp only at t0 t1 t2
 generalize l.length=n at h0 hil hlen
 go_enter Tryz.func44,Tryz.ntmps44
 go_wp2_with fail
 rw [←hX]
 clear hX
 go_region
 generalize hY:(((X.setCell _ _).setCell _ _).setCell _ _).drew=Y
 have HB:Below w.heap.size w Y:=by
  rw [←hY]
  exact (((HX.out.setCell (Nat.le_refl _) _).setCell (Nat.le_refl _) _).setCell (Nat.le_refl _) _).drew
 obtain ⟨q0,q1,q2⟩:Y.cell? ⟨w.heap.size,0,none⟩=some (.int .i64 k)∧Y.cell? ⟨w.heap.size,1,none⟩=some (.int .i64 (p:Int))∧Y.cell? ⟨w.heap.size,2,none⟩=some (.string (S x)):=by
  rw [←hY]
  exact put3_cells n0 n1 n2
 clear hY
 go_wp2_with fail
 refine bodyPost_ret (v:=tokV (k,p,x)) (by simp [results,Tryz.results44,go_sem,q0,q1,q2]) rfl ⟨rfl,HB⟩
theorem p_next_of (h:Pq w R A c l i) {k:Int} {p:Nat} {x:List UInt8} (ht:l.getD i default=(k,p,x)) :
  Calls Tryz.prog 44 #[.pointer (some ⟨R,0,none⟩)] w fun e w'=>e=.returned (.agg #[.int .i64 k,.int .i64 (p:Int),.string (S x)])∧Below w.heap.size w w':=by
 have:=p_next_at h
 rw [ht] at this
 exact this
def AccR (R:Nat) (A:Option Addr) (c:Nat) (l:List Tk) (i:Nat) (b:Bool) (w:World) (en:Ending) (w':World):Prop :=
 en=.returned (.bool b)∧Kq R w w'∧Pq w' R A c l (if b then i+1 else i)
theorem good_next {l:List Tk} (h:GoodT l) {i:Nat} (hi:i < l.length) (hne:(l.getD i default).2.2≠[]):i+1 < l.length:=by
 refine (ended_step h.ended hi fun e=>?_).1
 rw [h.kinds i hi] at e
 revert hne e
 cases (l.getD i default).2.2 with
 | nil=>exact fun h _=>h rfl
 | cons x r =>
  intro _ e
  simp only [kindO] at e
  split at e
  ·omega
  ·split at e
   ·omega
   ·split at e<;>omega
set_option maxHeartbeats 1000000 in
set_option maxRecDepth 10000 in
theorem accept_at (hg:GoodT l) (h:Pq w R A c l i) (s:List UInt8) (hs:s≠[]) {b:Bool} (hb:((l.getD i default).2.2==s)=b) :
  Calls Tryz.prog 45 #[.pointer (some ⟨R,0,none⟩),.string (S s)] w (AccR R A c l i b w):=by
 have HN:=Lib.hid (show b=true→i+1 < l.length from fun hb2=>good_next hg h.ilt (by rw [hb2] at hb;rw [beq_iff_eq.1 hb];exact hs))
 have HI:=Lib.hid (show (i:Int)+1≤16386 by have:=h.ilt;have:=hg.small;omega)
 generalize ht:l.getD i default=t at hb
 obtain ⟨k,p,x⟩:=t
 have Q:=Lib.hid (p_next_of h ht)
 have H:=Lib.hid (fun W (hb:Below w.heap.size w W)=>h.below hb)
 have ft:=tok_text k p (S x)
 have hb':(x==s)=b:=hb
 have hn':(x != s) = !b:=by rw [←hb'];rfl
 have HS:=Lib.hid hs
 clear h hb ht hs hg
 cases b
 ·go_enter Tryz.func45,Tryz.ntmps45
  go_wp2_with (go_at_call 44;refine Q.out.mono ?_;rintro en w1 ⟨rfl,hb1⟩;have H1:=Lib.hid hb1;clear hb1)
  go_ret
  exact ⟨rfl,Below.kp H1.out R Z0,H.out _ H1.out⟩
 ·have hi1:(i:Int)+1≤9223372036854775807:=by have:=HI.out;omega
  go_enter Tryz.func45,Tryz.ntmps45
  go_wp2_with (go_at_call 44;refine Q.out.mono ?_;rintro en w1 ⟨rfl,hb1⟩;have H1:=Lib.hid hb1;clear hb1;have l1:=(H.out _ H1.out).l1;have f1:=(H.out _ H1.out).fr 1)
  go_ret
  exact ⟨rfl,(Below.kp H1.out R Z0).set 1 none _,(H.out _ H1.out).set (q:=i+1) (by first|exact HN.out rfl|exact HN.out trivial)⟩
set_option maxHeartbeats 1000000 in
set_option maxRecDepth 10000 in
theorem expect_at (hg:GoodT l) (h:Pq w R A c l i) (s:List UInt8) (hs:s≠[]) {b:Bool} (hb:((l.getD i default).2.2==s)=b) :
  Calls Tryz.prog 56 #[.pointer (some ⟨R,0,none⟩),.string (S s)] w fun en w'=>en=.returned (.int .i64 (if b then 0 else 16))∧Kq R w w'∧Pq w' R A c l (if b then i+1 else i):=by
 have Q:=Lib.hid (accept_at hg h s hs hb)
 clear h hb hs hg
 cases b
 ·go_enter Tryz.func56,Tryz.ntmps56
  go_wp2_with (go_at_call 45;refine Q.out.mono ?_;rintro en w1 ⟨rfl,hb1⟩;have H1:=Lib.hid hb1;clear hb1)
  go_ret
  exact ⟨rfl,H1.out⟩
 ·go_enter Tryz.func56,Tryz.ntmps56
  go_wp2_with (go_at_call 45;refine Q.out.mono ?_;rintro en w1 ⟨rfl,hb1⟩;have H1:=Lib.hid hb1;clear hb1)
  go_ret
  exact ⟨rfl,H1.out⟩
def NameQ (R:Nat) (A:Option Addr) (c:Nat) (l:List Tk) (i:Nat) (w:World) (en:Ending) (w':World):Prop :=
 ∃(t:List UInt8) (er:Int) (j:Nat),en=.returned (.tuple #[.string (S t),.int .i64 er])∧Kq R w w'∧Pq w' R A c l j∧t.length≤16384 ∧
  ((er=0∧j=i+1∧t=(l.getD i default).2.2∧∀ns,nmS (leftT l i) ns=.ok t (leftT l j) ns)∨((er=16∨er=7)∧j=i∧t=[]∧∀ns,nmS (leftT l i) ns=.err (leftT l j).length er))
set_option maxHeartbeats 1000000 in
set_option maxRecDepth 10000 in
theorem p_name_at (hg:GoodT l) (h:Pq w R A c l i) :
  Calls Tryz.prog 79 #[.pointer (some ⟨R,0,none⟩)] w (NameQ R A c l i w):=by
 have HI:=Lib.hid (show (i:Int)+1≤16386 by have:=h.ilt;have:=hg.small;omega)
 have hi1:(i:Int)+1≤9223372036854775807:=by have:=HI.out;omega
 have hx0:∃t,l.getD i default=t:=⟨_,rfl⟩
 obtain ⟨t,ht⟩:=hx0
 obtain ⟨k,p,x⟩:=t
 have HC:=Lib.hid (left_cons h.ilt)
 have HN:=Lib.hid (show x≠[]→i+1 < l.length from fun hne=>good_next hg h.ilt (by rw [ht];exact hne))
 have HX:=Lib.hid (show x.length≤16384 by have:=hg.texts i h.ilt;rw [ht] at this;exact this)
 have HK:=Lib.hid (show k=kindO x by have:=hg.kinds i h.ilt;rw [ht] at this;exact this)
 have Q:=Lib.hid (p_next_of h ht)
 have H:=Lib.hid h
 have HT:=Lib.hid ht
 have hR:=h.lt
 clear h ht hg
 obtain ⟨b,hk⟩:∃b,(k==1)=b:=⟨_,rfl⟩
 have hk2:(k != 1) = !b:=by rw [←hk];rfl
 obtain ⟨r,hr⟩:∃r,resB x=r:=⟨_,rfl⟩
 have QR:=Lib.hid (fun W=>res_at (S x) W (r:=r) hr)
 have HR:=Lib.hid hr
 have HB:=Lib.hid hk
 clear hr
 cases b
 ·have hkf:k≠1:=by simpa using HB.out
  go_enter Tryz.func79,Tryz.ntmps79
  go_wp2_with (go_at_call 44;refine Q.out.mono ?_;rintro en w2 ⟨rfl,hb2⟩;have H2:=Lib.hid hb2;clear hb2)
  refine bodyPost_ret (v:=.tuple #[.string ⟨#[]⟩,.int .i64 16]) (by simp [results,Tryz.results79,go_sem]) rfl ?_
  have hb3:=H2.out.alloc H2.out.size (.cells #[.int .i64 k,.int .i64 (p:Int),.string (S x)] 67)
  exact ⟨[],16,i,rfl,Below.kp hb3 R Z0,H.out.below hb3,by simp,.inr ⟨.inl rfl,rfl,rfl,fun ns=>by rw [HC.out,HT.out,nmS,if_pos hkf]⟩⟩
 ·obtain rfl:k=1:=by simpa using HB.out
  cases r
  ·go_enter Tryz.func79,Tryz.ntmps79
   go_wp2_with (first
    | (go_at_call 44;refine Q.out.mono ?_;rintro en w2 ⟨rfl,hb2⟩;have H2:=Lib.hid hb2;clear hb2;have hb3:=H2.out.alloc H2.out.size (.cells #[.int .i64 1,.int .i64 (p:Int),.string (S x)] 67);have HP:=Lib.hid (H.out.below hb3);have l1:=HP.out.l1;have f1:=HP.out.fr 1;have H3:=Lib.hid hb3;have hne:¬w2.heap.size=R:=(by have:=H2.out.size;omega);clear hb3)
    | (go_at_call 102;refine (QR.out _).mono ?_;rintro en w3 ⟨rfl,rfl⟩))
   refine bodyPost_ret (v:=.tuple #[.string (S x),.int .i64 0]) (by simp [results,Tryz.results79,go_sem]) rfl ?_
   have hxne:x≠[]:=fun e=>by have:=HK.out;rw [e] at this;exact absurd this (by decide)
   refine ⟨x,0,i+1,rfl,(Below.kp H3.out R Z0).set 1 none _,HP.out.set (q:=i+1) (HN.out hxne),HX.out,.inl ⟨rfl,rfl,by rw [HT.out],fun ns=>?_⟩⟩
   rw [HC.out,HT.out,nmS,if_neg (by simp),HR.out]
   rfl
  ·go_enter Tryz.func79,Tryz.ntmps79
   go_wp2_with (first
    | (go_at_call 44;refine Q.out.mono ?_;rintro en w2 ⟨rfl,hb2⟩;have H2:=Lib.hid hb2;clear hb2)
    | (go_at_call 102;refine (QR.out _).mono ?_;rintro en w3 ⟨rfl,rfl⟩))
   refine bodyPost_ret (v:=.tuple #[.string ⟨#[]⟩,.int .i64 7]) (by simp [results,Tryz.results79,go_sem]) rfl ?_
   have hb3:=H2.out.alloc H2.out.size (.cells #[.int .i64 1,.int .i64 (p:Int),.string (S x)] 67)
   refine ⟨[],7,i,rfl,Below.kp hb3 R Z0,H.out.below hb3,by simp,.inr ⟨.inr rfl,rfl,rfl,fun ns=>?_⟩⟩
   rw [HC.out,HT.out,nmS,if_neg (by simp),HR.out]
   rfl
end
end Go.Proofs.YtaojnljppcnhjaaGreatDoor
namespace Go.Proofs.YtaojnljppcnhjaaGreatDoor
open Go.RowKit
theorem RowAt.cells {w:World} {l:List Tm} {b o:Nat} (h:RowAt w l b o):∀(j:Nat) (u:Value),(pcells l)[j]?=some u→w.cell? ((⟨b,o,none⟩:Addr).add j)=some u:=by
 induction l generalizing o with
 | nil=>intro j u hu;simp [pcells] at hu
 | cons t r ih =>
  intro j u hu
  simp only [RowAt] at h
  obtain ⟨⟨h0,h1,h2,h3⟩,_,hr⟩:=h
  rw [add_plain]
  simp only [pcells,List.flatMap_cons] at hu
  by_cases hj:j < 4
  ·rw [List.getElem?_append_left (by rw [pcell_len];exact hj)] at hu
   match j,hj with
   | 0,_=>rw [←hu];exact h0
   | 1,_=>rw [←hu];exact h1
   | 2,_=>rw [←hu];exact h2
   | 3,_=>rw [←hu];exact h3
  ·rw [List.getElem?_append_right (by rw [pcell_len];omega),pcell_len] at hu
   have:=ih hr (j - 4) u hu
   rw [add_plain,show o+4+(j - 4)=o+j by omega] at this
   exact this
theorem term_info:(Tryz.prog.info? 56).map (fun i=>(i.zero,i.size,i.bytes))=some (some (.agg #[.int .i64 0,.int .i64 0,.string ⟨#[]⟩,.slice none 0 0]),4,56):=by kernel_rfl
def Cloned (w:World) (l:List Tm) (e:Ending) (w':World):Prop:=∃g cap,e=.returned (.slice (some ⟨g,0,none⟩) l.length cap)∧w.heap.size≤g∧g < w'.heap.size∧l.length≤cap∧cap≤maxLen∧(∀j u,(pcells l)[j]?=some u→w'.cell? ⟨g,j,none⟩=some u)∧Below w.heap.size w w'∧∀j,w'.frozen? ⟨g,j,none⟩=false
set_option maxHeartbeats 400000 in
theorem clone_at (l:List Tm) (b o c:Nat) (w:World) (h0:0 < l.length) (hl:RowAt w l b o) (hsz:l.length≤1000000) :
  Calls Tryz.prog 166 #[.slice (some ⟨b,o,none⟩) l.length c] w (Cloned w l):=by
 obtain ⟨i0,hi,hz0,hz1,hz2⟩:=info_parts term_info
 have hn:=fun (W:World)=>Lib.run_eql_slice_nil (P:=Tryz.prog) W 52 56 (some ⟨b,o,none⟩) l.length c 0 0 Tryz.underlying52
 go_enter Tryz.func166,Tryz.ntmps166
 have hl1:RowAt (w.alloc (.cells #[] 56)) l b o:=(At_keep ((Below.refl _ _).alloc (Nat.le_refl _) _)).2 _ _ _ hl
 have HC:=Lib.hid hl1.cells
 have HO:=Lib.hid (World.ownsRow_lit (base:=w.heap.size) (e:=56) (size:=4) w #[] 0 (Nat.le_refl _) (Nat.zero_le _) rfl)
 clear hl hl1
 go_wp2_with (at_builtin;refine wpList_append_own _ rfl _ _ 52 rfl w.heap.size 56 i0 _ 4 56 Tryz.underlying52 hi hz0 hz1 hz2 rfl (by decide) _ 0 [] rfl HO.out ⟨b,o,none⟩ l.length c (pcells l) rfl (pcells_length l) HC.out (pcells_one l) (by unfold maxLen;omega) (by omega) (by simp) ?_;intro v' w1 hown1 hg1 _)
 have HG:=Lib.hid hg1
 have HW:=Lib.hid hown1
 clear hg1 hown1
 go_ret
 obtain ⟨hlen,hv⟩:=HW.out
 rcases hv with ⟨_,h⟩|⟨g,cap,cur,rfl,hb,hheap,hle,hcap,_,hcur⟩
 ·omega
 ·refine ⟨g,cap,by simp only [Nat.zero_add];rfl,hb,?_,by omega,hcap,fun j u hu=>?_,?_,fun j=>by simp [World.frozen?,hheap]⟩
  ·rcases Nat.lt_or_ge g w1.heap.size with h|h
   ·exact h
   ·rw [Array.getElem?_eq_none h] at hheap;cases hheap
  ·have hj:j < (pcells l).length:=(List.getElem?_eq_some_iff.1 hu).1
   rw [pcells_length] at hj
   rw [World.ownsRow.cellAt HW.out j (by omega)]
   simpa using hu
  ·exact ((Below.refl _ _).alloc (Nat.le_refl _) _).grown HG.out (by simp) (fun k hk=>(World.ownsRow.lt HO.out k hk).1)
theorem clip_at (A:Option Addr) (n c:Nat) (w:World) (hn:n≤c) (_hc:c≤9223372036854775807) :
  Calls Tryz.prog 165 #[.slice A n c] w fun e w'=>e=.returned (.slice A n n)∧w=w':=by
 go_enter Tryz.func165,Tryz.ntmps165
 go_wp2_with fail
 go_ret
 exact ⟨rfl,rfl⟩
theorem clone_none (w:World) :
  Calls Tryz.prog 166 #[.slice none 0 0] w fun e w'=>e=.returned (.slice none 0 0)∧w=w':=by
 have hn:=fun (W:World)=>Lib.run_eql_slice_nil (P:=Tryz.prog) W 52 56 none 0 0 0 0 Tryz.underlying52
 go_enter Tryz.func166,Tryz.ntmps166
 go_wp2_with fail
 go_ret
 exact ⟨rfl,rfl⟩
def FunQ (lo:Nat) (w:World) (s:ByteArray) (l:List Tm) (e:Ending) (w':World):Prop :=
 ∃A,e=.returned (Tm.mk 2 0 s A l.length l).val∧Below w.heap.size w w'∧SitG elTm lo w' [.mk 2 0 s A l.length l]∧∀b∈blkA A l.length,w.heap.size≤b
theorem sit_fun {lo g:Nat} {w w':World} {s:ByteArray} {l:List Tm} (hs:s.size≤maxLen) (hl:SitG elTm lo w l) (hb:Below w.heap.size w w') (h0:0 < l.length) (hsz:l.length≤1000000) (hlo:lo≤w.heap.size) (hg:w.heap.size≤g) (hg':g < w'.heap.size)
  (hc:∀j u,(pcells l)[j]?=some u→w'.cell? ⟨g,j,none⟩=some u) (hfz:∀j,w'.frozen? ⟨g,j,none⟩=false):SitG elTm lo w' [.mk 2 0 s (some ⟨g,0,none⟩) l.length l]:=by
 have hl2:=hl.below hb
 have e:elTm.blkL [Tm.mk 2 0 s (some ⟨g,0,none⟩) l.length l]=g :: elTm.blkL l:=by
  simp only [Elt.blkL,List.flatMap_cons,List.flatMap_nil,List.append_nil]
  show (Tm.mk 2 0 s (some ⟨g,0,none⟩) l.length l).blk=g :: l.flatMap Tm.blk
  rw [Tm.blk,blkA,if_neg (by omega),blkO,blkL_flat]
  rfl
 refine ⟨fun x hx=>?_,?_,fun b hb2=>?_,fun b hb2=>?_⟩
 ·rw [List.mem_singleton.1 hx]
  refine (At_iff _ _).2 ⟨⟨by simp only [Tm.kind];unfold Fits;omega,by simp only [Tm.num];unfold Fits;omega,hs⟩,Nat.le_refl _,by unfold maxLen;simp only [Tm.cap];omega,fun _=>⟨g,0,rfl,RowAt.of fun i hi=>⟨fun j u hu=>?_,hl2.at_ _ (getD_mem hi)⟩⟩⟩
  have hj:j < 4:=by
   have:=(List.getElem?_eq_some_iff.1 hu).1
   simpa [Tm.cells] using this
  rw [Nat.zero_add]
  exact hc _ _ ((pcells_get l hi hj).trans hu)
 ·rw [e,List.nodup_cons]
  refine ⟨fun hx=>?_,hl.nd⟩
  have:=(hl.bd g hx).2
  omega
 ·rw [e] at hb2
  rcases List.mem_cons.1 hb2 with rfl|hb2
  ·exact ⟨Nat.le_trans hlo hg,hg'⟩
  ·exact hl2.bd b hb2
 ·rw [e] at hb2
  rcases List.mem_cons.1 hb2 with rfl|hb2
  ·exact hfz
  ·exact hl2.fz b hb2
set_option maxHeartbeats 400000 in
theorem fun_some (lo:Nat) (s:ByteArray) (l:List Tm) (b o c:Nat) (w:World) (h0:0 < l.length) (hl:RowAt w l b o) (hsz:l.length≤1000000) (hs:s.size≤maxLen) (hlo:lo≤w.heap.size) (hsit:SitG elTm lo w l) :
  Calls Tryz.prog 156 #[.string s,.slice (some ⟨b,o,none⟩) l.length c] w (FunQ lo w s l):=by
 have Q1:=Lib.hid (fun W (h:Below w.heap.size w W)=>clone_at l b o c W h0 ((At_keep h).2 _ _ _ hl) hsz)
 have HS:=Lib.hid hsit
 clear hl hsit
 go_enter Tryz.func156,Tryz.ntmps156
 go_wp2_with fail
 refine (Q1.out _ ((Below.refl _ _).alloc (Nat.le_refl _) _)).mono ?_
 rintro e w1 ⟨g,cap,rfl,hg,hg',hle,hcap,hc,hb,hfg⟩
 have hcap':cap≤9223372036854775807:=by unfold maxLen at hcap;exact hcap
 obtain ⟨d0,d1,d2,d3,hb1⟩:=box4 hb
 have f0:∀j,w1.frozen? ⟨w.heap.size,j,none⟩=false:=fun j=>by
  rw [hb.frozen (p:=⟨w.heap.size,j,none⟩) (by simp),World.frozen?_alloc_at _ _ _ _ rfl]
 have HC:=Lib.hid hc
 have HFg:=Lib.hid hfg
 have HB:=Lib.hid hb
 have hgw:w.heap.size < g:=by simp at hg;omega
 have f00:=f0 0
 have f01:=f0 1
 have f02:=f0 2
 have f03:=f0 3
 clear hc hb f0 hg hfg
 go_wp2_with fail
 refine (clip_at _ _ _ _ hle hcap').mono ?_
 rintro e w2 ⟨rfl,rfl⟩
 go_wp2_with fail
 have hb2:Below w.heap.size w ((((w1.setCell ⟨w.heap.size,0,none⟩ (.int .i64 2)).setCell ⟨w.heap.size,1,none⟩ (.int .i64 0)).setCell ⟨w.heap.size,2,none⟩ (.string s)).setCell ⟨w.heap.size,3,none⟩ (.slice (some ⟨g,0,none⟩) l.length l.length)) :=
  (((hb1.setCell (Nat.le_refl _) _).setCell (Nat.le_refl _) _).setCell (Nat.le_refl _) _).setCell (Nat.le_refl _) _
 refine bodyPost_ret (v:=.agg #[.int .i64 2,.int .i64 0,.string s,.slice (some ⟨g,0,none⟩) l.length l.length]) (by simp [results,Tryz.results156,go_sem,d0,d1,d2,d3]) rfl ⟨some ⟨g,0,none⟩,rfl,hb2,?_,fun b hb=>by rw [blkA,if_neg (by omega),blkO,List.mem_singleton] at hb;simp only at hb;omega⟩
 refine sit_fun hs HS.out hb2 h0 hsz hlo (by omega) (by simpa [World.setCell] using hg') (fun j u hu=>?_) (fun j=>by rw [World.frozen?_setCell,World.frozen?_setCell,World.frozen?_setCell,World.frozen?_setCell];exact HFg.out j)
 have hne:∀q:Nat,(⟨g,j,none⟩:Addr)≠⟨w.heap.size,q,none⟩:=fun q e=>by injection e with e _;omega
 rw [World.cell?_setCell_other _ _ _ _ (hne 3).symm,World.cell?_setCell_other _ _ _ _ (hne 2).symm,World.cell?_setCell_other _ _ _ _ (hne 1).symm,World.cell?_setCell_other _ _ _ _ (hne 0).symm]
 exact HC.out _ _ hu
theorem fun_nil (lo:Nat) (s:ByteArray) (w:World) (hs:s.size≤maxLen) :
  Calls Tryz.prog 156 #[.string s,.slice none 0 0] w (FunQ lo w s []):=by
 go_enter Tryz.func156,Tryz.ntmps156
 go_wp2_with fail
 refine (clone_none _).mono ?_
 rintro e w1 ⟨rfl,rfl⟩
 go_wp2_with fail
 refine (clip_at _ _ _ _ (Nat.le_refl _) (by omega)).mono ?_
 rintro e w2 ⟨rfl,rfl⟩
 go_wp2_with fail
 refine bodyPost_ret (v:=.agg #[.int .i64 2,.int .i64 0,.string s,.slice none 0 0]) (by simp [results,Tryz.results156,go_sem]) rfl ⟨none,rfl,(Below.refl _ _).alloc (Nat.le_refl _) _,⟨fun x hx=>?_,by simp [Elt.blkL,elTm,Tm.blk,blkA,blkL],fun b hb=>?_,fun b hb=>?_⟩,fun b hb=>(by simp [blkA] at hb)⟩
 ·rw [List.mem_singleton.1 hx]
  exact (At_iff _ _).2 ⟨⟨by simp only [Tm.kind];unfold Fits;omega,by simp only [Tm.num];unfold Fits;omega,hs⟩,Lst.nil _⟩
 ·simp [Elt.blkL,elTm,Tm.blk,blkA,blkL] at hb
 ·simp [Elt.blkL,elTm,Tm.blk,blkA,blkL] at hb
theorem fun_q (lo:Nat) (s:ByteArray) (l:List Tm) (A:Option Addr) (c:Nat) (w:World) (hl:Lst w A l c) (hA:l=[]→A=none∧c=0) (hsz:l.length≤1000000) (hs:s.size≤maxLen) (hlo:lo≤w.heap.size) (hsit:SitG elTm lo w l) :
  Calls Tryz.prog 156 #[.string s,.slice A l.length c] w (FunQ lo w s l):=by
 by_cases h0:l=[]
 ·obtain ⟨rfl,rfl⟩:=hA h0
  subst h0
  exact fun_nil lo s w hs
 ·have hp:0 < l.length:=List.length_pos_iff.2 h0
  obtain ⟨b,o,rfl,hr⟩:=hl.2.2 hp
  exact fun_some lo s l b o c w hp hr hsz hs hlo hsit
end Go.Proofs.YtaojnljppcnhjaaGreatDoor
namespace Go.Proofs.YtaojnljppcnhjaaGreatDoor
open Go.RowKit
def kV (l:List Tk) (i:Nat):Bool:=(l.getD i default).1==2
def xV (l:List Tk) (i:Nat):List UInt8:=(l.getD i default).2.2
abbrev nsL (l:List Tk) (a i:Nat):List (List UInt8):=nsU (kV l) (xV l) a i
abbrev gL (l:List Tk) (a:Nat) (v:Int):Int:=gU (kV l) (xV l) a v
def OkV (l:List Tk) (i j:Nat) (us:List Tm):Prop:=neatL us∧(occL us).Nodup∧∀v∈occL us,(i:Int)≤v∧v < (j:Int)∧kV l v.toNat=true
theorem OkV.nil (l:List Tk) (i j:Nat):OkV l i j []:=⟨trivial,by simp [occL],fun v hv=>by simp [occL] at hv⟩
theorem OkV.wide {l:List Tk} {i j i' j':Nat} {us:List Tm} (h:OkV l i j us) (hi:i'≤i) (hj:j≤j'):OkV l i' j' us:=⟨h.1,h.2.1,fun v hv=>by have:=h.2.2 v hv;exact ⟨by omega,by omega,this.2.2⟩⟩
theorem OkV.append {l:List Tk} {i j j' k:Nat} {us vs:List Tm} (h:OkV l i j us) (h2:OkV l j' k vs) (h1:j≤j') (hi:i≤j') (hk:j≤k):OkV l i k (us++vs):=by
 refine ⟨(neatL_append us vs).2 ⟨h.1,h2.1⟩,?_,fun v hv=>?_⟩
 ·rw [occL_append,List.nodup_append]
  refine ⟨h.2.1,h2.2.1,fun x hx y hy e=>?_⟩
  have:=h.2.2 x hx
  have:=h2.2.2 y hy
  omega
 ·rw [occL_append] at hv
  rcases List.mem_append.1 hv with hv|hv
  ·have:=h.2.2 v hv;exact ⟨by omega,by omega,this.2.2⟩
  ·have:=h2.2.2 v hv;exact ⟨by omega,by omega,this.2.2⟩
theorem OkV.swap {l:List Tk} {i j:Nat} {us vs:List Tm} (h:OkV l i j (us++vs)):OkV l i j (vs++us):=by
 refine ⟨(neatL_append vs us).2 ((neatL_append us vs).1 h.1).symm,?_,fun v hv=>h.2.2 v ?_⟩
 ·have:=h.2.1
  rw [occL_append] at this ⊢
  exact (List.perm_append_comm.nodup_iff).1 this
 ·rw [occL_append] at hv ⊢
  exact List.mem_append.2 (List.mem_append.1 hv).symm
theorem OkV.int (l:List Tk) (i j:Nat) (n:Int) (A:Option Addr) (c:Nat):OkV l i j [.mk 0 n ⟨#[]⟩ A c []]:=⟨⟨.inl ⟨rfl,rfl,rfl⟩,trivial⟩,by simp [occL,Tm.occ],fun v hv=>by simp [occL,Tm.occ] at hv⟩
theorem OkV.var {l:List Tk} {i:Nat} (hk:(l.getD i default).1=2) (A:Option Addr) (c:Nat):OkV l i (i+1) [.mk 1 (i:Int) ⟨#[]⟩ A c []]:=⟨⟨.inr (.inl ⟨rfl,rfl,rfl⟩),trivial⟩,by simp [occL,Tm.occ],fun v hv=>by
 simp only [occL,Tm.occ,if_true,List.append_nil,List.mem_singleton] at hv
 subst hv
 exact ⟨by omega,by omega,by rw [Int.toNat_natCast,kV,hk];rfl⟩⟩
theorem OkV.fun_ {l:List Tk} {i j:Nat} {us:List Tm} (h:OkV l i j us) (s:ByteArray) (A:Option Addr) (c:Nat):OkV l i j [.mk 2 0 s A c us]:=by
 have e:occL [Tm.mk 2 0 s A c us]=occL us:=by simp [occL,Tm.occ]
 exact ⟨⟨.inr (.inr ⟨rfl,rfl,h.1⟩),trivial⟩,by rw [e];exact h.2.1,fun v hv=>h.2.2 v (by rw [e] at hv;exact hv)⟩
structure Rdr (α β:Type) where
 E:Elt α
 val:α→Value
 h:(Int→Int)→α→β
 tms:α→List Tm
def rdTm:Rdr Tm Tm:=⟨elTm,Tm.val,Tm.num2,fun t=>[t]⟩
def rdAm:Rdr Am As:=⟨elAm,Am.val,fun g x=>(x.name.data.toList,numL2 g x.args),Am.args⟩
def rdGl:Rdr Gl Gs:=⟨elGl,Gl.val,fun g x=>(x.op,x.name.data.toList,numL2 g x.args),Gl.args⟩
def rdDl:Rdr Dl Dl:=⟨elDl,fun x=>.agg #[.string (S x.1),.int .i64 x.2],fun _ x=>x,fun _=>[]⟩
section
variable {α β:Type} (D:Rdr α β)
def ElR (f:Rd1 β) (R:Nat) (A:Option Addr) (c:Nat) (l:List Tk) (a i:Nat) (w:World) (en:Ending) (w':World):Prop :=
 ∃(x:α) (j:Nat) (er:Int),en=.returned (.tuple #[D.val x,.int .i64 er])∧Kq R w w'∧Pq w' R A c l j∧SitG D.E w.heap.size w' [x] ∧
  ((er=0∧f (leftT l i) (nsL l a i)=.ok (D.h (gL l a) x) (leftT l j) (nsL l a j)∧i < j∧OkV l i j (D.tms x))∨(er≠0∧f (leftT l i) (nsL l a i)=.err (leftT l j).length er))
def listS (f:Rd1 β) (most:Nat) (acc:List β) (ts:List Tok) (ns:List (List UInt8)):PS (List β) :=
 if acc.length=most then .err ts.length 6 else
 match f ts ns with
 | .err l e=>.err l e
 | .ok x r ns2=>if isS [44] r then (if _h:r.tail.length < ts.length then listS f most (acc++[x]) r.tail ns2 else .err 0 0) else .ok (acc++[x]) r ns2
termination_by ts.length
decreasing_by exact _h
def ListR (T:TypeId) (f:Rd1 β) (most:Nat) (R:Nat) (A:Option Addr) (c:Nat) (l:List Tk) (a i:Nat) (w:World) (en:Ending) (w':World):Prop :=
 ∃(xs:List α) (j:Nat) (er:Int) (r:Value),en=.returned (.tuple #[r,.int .i64 er])∧Kq R w w'∧Pq w' R A c l j∧RowG D.E T w.heap.size w' r xs ∧
  ((er=0∧listS f most [] (leftT l i) (nsL l a i)=.ok (xs.map (D.h (gL l a))) (leftT l j) (nsL l a j)∧i < j∧OkV l i j (xs.flatMap D.tms)∧0 < xs.length∧xs.length≤16385)∨(er≠0∧xs=[]∧r=.slice none 0 0∧listS f most [] (leftT l i) (nsL l a i)=.err (leftT l j).length er))
def ListL (T:TypeId) (f:Rd1 β) (most:Nat) (R:Nat) (A:Option Addr) (c:Nat) (l:List Tk) (a i n:Nat) (w:World) (gk:Nat) (r:Value) (wr:World) (q:Nat) (xs:List α):Prop :=
 Kq R w wr∧Pq wr R A c l q∧RowG D.E T w.heap.size wr r xs∧listS f most [] (leftT l i) (nsL l a i)=listS f most (xs.map (D.h (gL l a))) (leftT l q) (nsL l a q)∧i≤q∧(xs≠[]→i < q)∧OkV l i q (xs.flatMap D.tms) ∧
  xs.length≤q∧(leftT l q).length≤n∧l.length - q≤gk
end
theorem isS_left {l:List Tk} (hg:GoodT l) {i:Nat} (hi:i < l.length) {s:List UInt8} (hs:kindO s=4):isS s (leftT l i)=((l.getD i default).2.2==s):=by
 rw [left_isS hi,hg.acc hi hs]
theorem listS_comma {β:Type} {f:Rd1 β} {most:Nat} {acc:List β} {l:List Tk} {q j:Nat} {ns ns2:List (List UInt8)} {y:β} (hm:acc.length≠most) (hf:f (leftT l q) ns=.ok y (leftT l j) ns2) (hq:q < j) (hj:j+1 < l.length) (hc:isS [44] (leftT l j)=true) :
  listS f most acc (leftT l q) ns=listS f most (acc++[y]) (leftT l (j+1)) ns2:=by
 rw [listS,if_neg hm,hf]
 simp only [hc,if_true,left_tail]
 rw [dif_pos (by rw [left_length,left_length];omega)]
theorem listS_stop {β:Type} {f:Rd1 β} {most:Nat} {acc:List β} {ts r:List Tok} {ns ns2:List (List UInt8)} {y:β} (hm:acc.length≠most) (hf:f ts ns=.ok y r ns2) (hc:isS [44] r=false) :
  listS f most acc ts ns=.ok (acc++[y]) r ns2:=by
 rw [listS,if_neg hm,hf]
 simp only [hc]
 rfl
theorem listS_err {β:Type} {f:Rd1 β} {most:Nat} {acc:List β} {ts:List Tok} {ns:List (List UInt8)} {n:Nat} {e:Int} (hm:acc.length≠most) (hf:f ts ns=.err n e):listS f most acc ts ns=.err n e:=by
 rw [listS,if_neg hm,hf]
theorem listS_much {β:Type} {f:Rd1 β} {most:Nat} {acc:List β} {ts:List Tok} {ns:List (List UInt8)} (hm:acc.length=most):listS f most acc ts ns=.err ts.length 6:=by
 rw [listS,if_pos hm]
end Go.Proofs.YtaojnljppcnhjaaGreatDoor
namespace Go.Proofs.YtaojnljppcnhjaaGreatDoor
open Go.RowKit
section
variable {α:Type} {E:Elt α} {T:TypeId} {lo:Nat} {w:World} {r:Value} {l:List α}
theorem RowG.zform (h:RowG E T lo w r l):∃B cap,r=.slice B l.length cap:=by
 rcases h.row.2 with ⟨e,h1⟩|⟨g,cap,cur,e,_⟩
 ·exact ⟨none,0,by rw [e,h1]⟩
 ·exact ⟨_,cap,e⟩
end
end Go.Proofs.YtaojnljppcnhjaaGreatDoor
namespace Go.Proofs.YtaojnljppcnhjaaGreatDoor
open Go.RowKit
theorem news2_Tm (w:World) (o:Obj) (u:Tm) (T:TypeId):∀j v,(elTm.cells u)[j]?=some v→((w.alloc o).alloc (.cells #[.int .i64 u.kind,.int .i64 u.num,.string u.name,.slice u.at_ u.args.length u.cap] T)).cell? ((⟨w.heap.size+1,0,none⟩:Addr).add j)=some v:=by
 intro j v hv
 have e:(w.alloc o).heap.size=w.heap.size+1:=by simp
 rw [add_plain,Nat.zero_add,← e,World.cell?_alloc_at _ _ _ _ rfl,← hv,show (#[.int .i64 u.kind,.int .i64 u.num,.string u.name,.slice u.at_ u.args.length u.cap]:Array Value)=(elTm.cells u).toArray from rfl,List.getElem?_toArray]
set_option maxHeartbeats 4000000 in
set_option maxRecDepth 10000 in
theorem list_Tm_at {R:Nat} {A:Option Addr} {c:Nat} {l:List Tk} (hg:GoodT l) (a n most:Nat) (hmost:most≤9223372036854775807) (ex:Rd1 Tm)
  (hE:∀(i:Nat) (w:World),Pq w R A c l i→a≤i→(leftT l i).length≤n→Calls Tryz.prog 129 #[.pointer (some ⟨R,0,none⟩)] w (ElR rdTm ex R A c l a i w))
  (i:Nat) (w:World) (h:Pq w R A c l i) (ha:a≤i) (hn:(leftT l i).length≤n) :
  Calls Tryz.prog 128 #[.pointer (some ⟨R,0,none⟩),.int .i64 (most:Int),.func (.func 129) #[.pointer (some ⟨R,0,none⟩)] #[]] w (ListR rdTm 56 ex most R A c l a i w):=by
 obtain ⟨i0,hi,hz0,hz1,hz2⟩:=info_parts term_info
 have HG:=Lib.hid hg
 have Q:=Lib.hid hE
 have hR:=h.lt
 have H0:=Lib.hid (show ListL rdTm 56 ex most R A c l a i n w (l.length - i) (.slice none 0 0) w i [] from
  ⟨Kp.refl _ _ _,h,RowG.nil _ _ _ _,rfl,Nat.le_refl _,fun h=>absurd rfl h,OkV.nil _ _ _,Nat.zero_le _,hn,Nat.le_refl _⟩)
 have HA:=Lib.hid ha
 have HM:=Lib.hid hmost
 clear hg hE h hn ha hmost
 go_enter Tryz.func128,Tryz.ntmps128
 go_wp2_with fail
 go_loopg [8] (l.length - i) (fun gk z wr=>∃(q:Nat) (xs:List Tm) (x:Value),z=x∧Hid (ListL rdTm 56 ex most R A c l a i n w gk x wr q xs))
 case atStart=>exact ⟨i,[],_,rfl,H0⟩
 case round =>
  clear H0
  obtain ⟨q,xs,z,hzx,hI⟩:=hrel
  have hzx':=hzx.symm
  clear hzx
  subst hzx'
  obtain ⟨B,zc,rfl⟩:=RowG.zform hI.out.2.2.1
  obtain ⟨k1,k2,k3,k4,k5,k6,k7,k8,k9,k10⟩:=hI.out
  have hqs:xs.length≤16385:=by have:=k2.ilt;have:=HG.out.small;omega
  have hlen:(xs.length:Int)≤16385:=by omega
  have hle2:xs.length≤9223372036854775807:=by omega
  clear k1 k3 k4 k5 k6 k7 k8 k9 k10
  by_cases hm:xs.length=most
  ·have hm':(((xs.length:Nat):Int)==(most:Int))=true:=by simp [hm]
   have HX:=Lib.hid hm
   clear hm k2
   go_wp2_with fail
   refine bodyPost_ret (v:=.tuple #[.slice none 0 0,.int .i64 6]) (by simp [results,Tryz.results128,go_sem]) rfl ?_
   obtain ⟨k1,k2,k3,k4,k5,k6,k7,k8,k9,k10⟩:=hI.out
   exact ⟨[],q,6,.slice none 0 0,rfl,k1,k2,RowG.nil _ _ _ _,.inr ⟨by omega,rfl,rfl,by rw [k4,listS_much (by rw [List.length_map];exact HX.out)]⟩⟩
  ·have hm':(((xs.length:Nat):Int)==(most:Int))=false:=by simp;omega
   have HX:=Lib.hid (show (xs.map (Rdr.h rdTm (gL l a))).length≠most by rw [List.length_map];exact hm)
   have Q1:=Lib.hid (Q.out q wr k2 (by have:=hI.out.2.2.2.2.1;have:=HA.out;omega) hI.out.2.2.2.2.2.2.2.2.1)
   clear hm k2
   go_wp2_with fail
   refine Q1.out.mono ?_
   rintro e w2 ⟨u,j,er,he,hk,hp,hs,ho⟩
   have he2:e=.returned (.tuple #[.agg #[.int .i64 u.kind,.int .i64 u.num,.string u.name,.slice u.at_ u.args.length u.cap],.int .i64 er]):=he
   clear he
   subst he2
   have HS:=Lib.hid hs
   have HK:=Lib.hid hk
   have HP:=Lib.hid hp
   have HR2:=Lib.hid (show R < w2.heap.size from hp.lt)
   clear hk hp hs
   rcases ho with ⟨rfl,hf,hqj,hv⟩|⟨her,hf⟩
   ·have HF:=Lib.hid hf
    have HJ:=Lib.hid hqj
    have HV:=Lib.hid hv
    clear hf hqj hv
    obtain ⟨b,hb⟩:∃b,((l.getD j default).2.2==[44])=b:=⟨_,rfl⟩
    have HB:=Lib.hid hb
    have HLo:=Lib.hid (show w.heap.size≤wr.heap.size from hI.out.1.size)
    have hlo2:w.heap.size≤w2.heap.size:=Nat.le_trans HLo.out HK.out.size
    have HRow:=Lib.hid (hI.out.2.2.1.kq HK.out hR)
    have HOr:=Lib.hid (own_lt hI.out.2.2.1.row)
    have HOb:=Lib.hid hI.out.2.2.1.sit.bd
    have QA:=Lib.hid (fun W (hW:Pq W R A c l j)=>accept_at HG.out hW [44] (by decide) HB.out)
    clear hb
    cases b
    ·have HC:=Lib.hid (show isS [44] (leftT l j)=false by rw [isS_left HG.out HP.out.ilt (by decide)];exact HB.out)
     go_wp2_with (first
      | (at_builtin; refine wpList_append_lies _ rfl _ _ 52 rfl w.heap.size 56 i0 _ 4 56 Tryz.underlying52 hi hz0 hz1 hz2 rfl (by decide) (.slice B xs.length zc) xs.length (Elt.cellsL elTm xs) rfl ((HRow.out.row.alloc _).alloc _) ⟨w2.heap.size + 1, 0, none⟩ 1 1 (Elt.cells elTm u) rfl rfl (news2_Tm w2 _ u _) (Elt.one elTm u) (by decide) (by unfold maxLen; omega) (by omega) (by simp; omega) _ rfl ?_; intro g cap w4 hown hg hat hglt
         have hbox := ((Below.refl w2.heap.size w2).alloc (Nat.le_refl _) (.cells #[.int .i64 u.kind, .int .i64 u.num, .string u.name, .slice u.at_ u.args.length u.cap] 56)).alloc (by simp) (.cells #[.int .i64 u.kind, .int .i64 u.num, .string u.name, .slice u.at_ u.args.length u.cap] 56)
         have HRow4 := Lib.hid (HRow.out.next HLo.out (fun k hk => (HOr.out k hk).2) (fun b hb => (HOb.out b hb).2) HS.out hbox hown hg hat)
         have HK4 := Lib.hid (show Kq R w w4 from ((((hI.out.1.trans HK.out).alloc _).alloc _).grown hg (fun k hk => (HOr.out k hk).1)))
         have HP4 := Lib.hid (((HP.out.alloc _).alloc _).grown hg (fun k hk => by have := (HOr.out k hk).1; omega))
         clear hown hg hat hglt hbox)
      | (go_at_call 45;refine (QA.out _ HP4.out).mono ?_;rintro e w5 ⟨rfl,hk5,hp5⟩;have HK5:=Lib.hid hk5;have HP5:=Lib.hid hp5;clear hk5 hp5))
     refine bodyPost_ret (v:=.tuple #[.slice (some ⟨g,0,none⟩) (xs.length+1) cap,.int .i64 0]) (by simp [results,Tryz.results128,go_sem]) rfl ?_
     obtain ⟨k1,k2,k3,k4,k5,k6,k7,k8,k9,k10⟩:=hI.out
     refine ⟨xs++[u],j,0,_,rfl,HK4.out.trans HK5.out,HP5.out,HRow4.out.kq HK5.out hR,.inl ⟨rfl,?_,by have:=HJ.out;omega,?_,by simp,by have:=HJ.out;have:=HP.out.ilt;have:=HG.out.small;simp only [List.length_append,List.length_cons,List.length_nil];omega⟩⟩
     ·rw [k4,listS_stop HX.out HF.out HC.out,List.map_append];rfl
     ·rw [List.flatMap_append,List.flatMap_cons,List.flatMap_nil,List.append_nil]
      exact k7.append HV.out (Nat.le_refl _) k5 (by have:=HJ.out;omega)
    ·have HN:=Lib.hid (show j+1 < l.length from good_next HG.out HP.out.ilt (by rw [beq_iff_eq.1 HB.out];decide))
     have HC:=Lib.hid (show isS [44] (leftT l j)=true by rw [isS_left HG.out HP.out.ilt (by decide)];exact HB.out)
     go_wp2_with (first
      | (at_builtin; refine wpList_append_lies _ rfl _ _ 52 rfl w.heap.size 56 i0 _ 4 56 Tryz.underlying52 hi hz0 hz1 hz2 rfl (by decide) (.slice B xs.length zc) xs.length (Elt.cellsL elTm xs) rfl ((HRow.out.row.alloc _).alloc _) ⟨w2.heap.size + 1, 0, none⟩ 1 1 (Elt.cells elTm u) rfl rfl (news2_Tm w2 _ u _) (Elt.one elTm u) (by decide) (by unfold maxLen; omega) (by omega) (by simp; omega) _ rfl ?_; intro g cap w4 hown hg hat hglt
         have hbox := ((Below.refl w2.heap.size w2).alloc (Nat.le_refl _) (.cells #[.int .i64 u.kind, .int .i64 u.num, .string u.name, .slice u.at_ u.args.length u.cap] 56)).alloc (by simp) (.cells #[.int .i64 u.kind, .int .i64 u.num, .string u.name, .slice u.at_ u.args.length u.cap] 56)
         have HRow4 := Lib.hid (HRow.out.next HLo.out (fun k hk => (HOr.out k hk).2) (fun b hb => (HOb.out b hb).2) HS.out hbox hown hg hat)
         have HK4 := Lib.hid (show Kq R w w4 from ((((hI.out.1.trans HK.out).alloc _).alloc _).grown hg (fun k hk => (HOr.out k hk).1)))
         have HP4 := Lib.hid (((HP.out.alloc _).alloc _).grown hg (fun k hk => by have := (HOr.out k hk).1; omega))
         clear hown hg hat hglt hbox)
      | (go_at_call 45;refine (QA.out _ HP4.out).mono ?_;rintro e w5 ⟨rfl,hk5,hp5⟩;have HK5:=Lib.hid hk5;have HP5:=Lib.hid hp5;clear hk5 hp5))
     have HN2:=Lib.hid (show ListL rdTm 56 ex most R A c l a i n w (gk - 1) (.slice (some ⟨g,0,none⟩) (xs.length+1) cap) w5 (j+1) (xs++[u]) by
      obtain ⟨k1,k2,k3,k4,k5,k6,k7,k8,k9,k10⟩:=hI.out
      have hj:=HJ.out
      have hn:=HN.out
      refine ⟨HK4.out.trans HK5.out,HP5.out,HRow4.out.kq HK5.out hR,?_,by omega,fun _=>by omega,?_,by simp only [List.length_append,List.length_cons,List.length_nil];omega,by rw [left_length] at k9 ⊢;omega,by omega⟩
      ·rw [k4,listS_comma HX.out HF.out HJ.out HN.out HC.out,List.map_append,show nsL l a (j+1)=nsL l a j from nsU_no (by
        have:=HC.out
        rw [left_isS HP.out.ilt] at this
        simp only [isT,Bool.and_eq_true,beq_iff_eq] at this
        simp only [kV,this.1]
        rfl)]
       rfl
      ·rw [List.flatMap_append,List.flatMap_cons,List.flatMap_nil,List.append_nil]
       exact (k7.append HV.out (Nat.le_refl _) k5 (by omega)).wide (Nat.le_refl _) (by omega))
     have HGk:=Lib.hid (show gk - 1 < gk by have:=HJ.out;have:=HN.out;have:=hI.out.2.2.2.2.2.2.2.2.2;omega)
     go_wp2_with fail
     go_roundg (gk - 1)
     case measure=>exact HGk.out
     case rel=>exact ⟨j+1,xs++[u],_,rfl,HN2⟩
   ·have hne:(er != 0)=true:=bne_iff_ne.2 her
    have HF:=Lib.hid hf
    have HE:=Lib.hid her
    clear her hf
    go_wp2_with fail
    refine bodyPost_ret (v:=.tuple #[.slice none 0 0,.int .i64 er]) (by simp [results,Tryz.results128,go_sem]) rfl ?_
    obtain ⟨k1,k2,k3,k4,k5,k6,k7,k8,k9,k10⟩:=hI.out
    exact ⟨[],j,er,.slice none 0 0,rfl,(k1.trans HK.out).alloc _,HP.out.alloc _,RowG.nil _ _ _ _,.inr ⟨HE.out,rfl,rfl,by rw [k4,listS_err HX.out HF.out]⟩⟩
end Go.Proofs.YtaojnljppcnhjaaGreatDoor
namespace Go.Proofs.YtaojnljppcnhjaaGreatDoor
open Go.RowKit
theorem args_list {ex:Rd1 Tm} {M:Nat}:∀(n:Nat) (ts:List Tok),ts.length≤n→ts≠[]→∀acc ns,acc.length+ts.length≤M →
  argsS ex acc ts ns=match listS ex M acc ts.tail ns with
   | .ok l r ns2=>wantS [41] l r ns2
   | .err n e=>.err n e
 | 0,ts,hn,h0,_,_,_=>absurd (List.length_eq_zero_iff.1 (by omega)) h0
 | n+1,ts,hn,h0,acc,ns,hM=>by
  have hp:0 < ts.length:=List.length_pos_iff.2 h0
  rw [argsS,listS,if_neg (by omega)]
  cases hex:ex ts.tail ns with
  | err l e=>rfl
  | ok x r ns2 =>
   simp only
   by_cases hc:isS [44] r=true
   ·rw [if_pos hc,if_pos hc]
    have hr:r≠[]:=by rintro rfl;cases hc
    have hrp:0 < r.length:=List.length_pos_iff.2 hr
    by_cases hlt:r.length < ts.length
    ·rw [dif_pos hlt,dif_pos (by rw [List.length_tail,List.length_tail];omega)]
     exact args_list n r (by omega) hr (acc++[x]) ns2 (by simp only [List.length_append,List.length_cons,List.length_nil];omega)
    ·rw [dif_neg hlt,dif_neg (by rw [List.length_tail,List.length_tail];omega)]
   ·rw [if_neg hc,if_neg hc]
theorem BoxL.get4 {w:World} {T:Nat} {v0 v1 v2 v3:Value} (h:BoxL w T [v0,v1,v2,v3]):w.cell? ⟨T,0,none⟩=some v0∧w.cell? ⟨T,1,none⟩=some v1∧w.cell? ⟨T,2,none⟩=some v2∧w.cell? ⟨T,3,none⟩=some v3 ∧
  w.frozen? ⟨T,0,none⟩=false∧w.frozen? ⟨T,1,none⟩=false∧w.frozen? ⟨T,2,none⟩=false∧w.frozen? ⟨T,3,none⟩=false:=⟨h.cells 0 _ rfl,h.cells 1 _ rfl,h.cells 2 _ rfl,h.cells 3 _ rfl,h.free 0,h.free 1,h.free 2,h.free 3⟩
theorem BoxL.get3 {w:World} {T:Nat} {v0 v1 v2:Value} (h:BoxL w T [v0,v1,v2]):w.cell? ⟨T,0,none⟩=some v0∧w.cell? ⟨T,1,none⟩=some v1∧w.cell? ⟨T,2,none⟩=some v2 ∧
  w.frozen? ⟨T,0,none⟩=false∧w.frozen? ⟨T,1,none⟩=false∧w.frozen? ⟨T,2,none⟩=false:=⟨h.cells 0 _ rfl,h.cells 1 _ rfl,h.cells 2 _ rfl,h.free 0,h.free 1,h.free 2⟩
theorem BoxL.get2 {w:World} {T:Nat} {v0 v1:Value} (h:BoxL w T [v0,v1]):w.cell? ⟨T,0,none⟩=some v0∧w.cell? ⟨T,1,none⟩=some v1 ∧
  w.frozen? ⟨T,0,none⟩=false∧w.frozen? ⟨T,1,none⟩=false:=⟨h.cells 0 _ rfl,h.cells 1 _ rfl,h.free 0,h.free 1⟩
theorem end4 {w W:World} {R:Nat} {A:Option Addr} {c:Nat} {l:List Tk} {j lo:Nat} {α:Type} {E:Elt α} {L:List α} (hR:R < w.heap.size) (hk:Kq R w W) (hp:Pq W R A c l j) (hs:SitG E lo W L) (hlo:w.heap.size < lo) (v0 v1 v2 v3:Value) :
  Kq R w ((((W.setCell ⟨w.heap.size,0,none⟩ v0).setCell ⟨w.heap.size,1,none⟩ v1).setCell ⟨w.heap.size,2,none⟩ v2).setCell ⟨w.heap.size,3,none⟩ v3)∧Pq ((((W.setCell ⟨w.heap.size,0,none⟩ v0).setCell ⟨w.heap.size,1,none⟩ v1).setCell ⟨w.heap.size,2,none⟩ v2).setCell ⟨w.heap.size,3,none⟩ v3) R A c l j∧SitG E w.heap.size ((((W.setCell ⟨w.heap.size,0,none⟩ v0).setCell ⟨w.heap.size,1,none⟩ v1).setCell ⟨w.heap.size,2,none⟩ v2).setCell ⟨w.heap.size,3,none⟩ v3) L:=by
 have hn:w.heap.size∉E.blkL L:=fun h=>by have:=(hs.bd _ h).1;omega
 exact ⟨(((hk.put (p:=⟨w.heap.size,0,none⟩) (Nat.le_refl _) _).put (p:=⟨w.heap.size,1,none⟩) (Nat.le_refl _) _).put (p:=⟨w.heap.size,2,none⟩) (Nat.le_refl _) _).put (p:=⟨w.heap.size,3,none⟩) (Nat.le_refl _) _,
  (((hp.put (p:=⟨w.heap.size,0,none⟩) hR _).put (p:=⟨w.heap.size,1,none⟩) hR _).put (p:=⟨w.heap.size,2,none⟩) hR _).put (p:=⟨w.heap.size,3,none⟩) hR _,
  ((((hs.low (by omega)).put (p:=⟨w.heap.size,0,none⟩) hn _).put (p:=⟨w.heap.size,1,none⟩) hn _).put (p:=⟨w.heap.size,2,none⟩) hn _).put (p:=⟨w.heap.size,3,none⟩) hn _⟩
theorem end2 {w W:World} {R:Nat} {A:Option Addr} {c:Nat} {l:List Tk} {j lo:Nat} {α:Type} {E:Elt α} {L:List α} (hR:R < w.heap.size) (hk:Kq R w W) (hp:Pq W R A c l j) (hs:SitG E lo W L) (hlo:w.heap.size < lo) (v0 v1:Value) :
  Kq R w ((W.setCell ⟨w.heap.size,0,none⟩ v0).setCell ⟨w.heap.size,1,none⟩ v1)∧Pq ((W.setCell ⟨w.heap.size,0,none⟩ v0).setCell ⟨w.heap.size,1,none⟩ v1) R A c l j∧SitG E w.heap.size ((W.setCell ⟨w.heap.size,0,none⟩ v0).setCell ⟨w.heap.size,1,none⟩ v1) L:=by
 have hn:w.heap.size∉E.blkL L:=fun h=>by have:=(hs.bd _ h).1;omega
 exact ⟨(hk.put (p:=⟨w.heap.size,0,none⟩) (Nat.le_refl _) _).put (p:=⟨w.heap.size,1,none⟩) (Nat.le_refl _) _,
  (hp.put (p:=⟨w.heap.size,0,none⟩) hR _).put (p:=⟨w.heap.size,1,none⟩) hR _,
  ((hs.low (by omega)).put (p:=⟨w.heap.size,0,none⟩) hn _).put (p:=⟨w.heap.size,1,none⟩) hn _⟩
theorem end3 {w W:World} {R:Nat} {A:Option Addr} {c:Nat} {l:List Tk} {j lo:Nat} {α:Type} {E:Elt α} {L:List α} (hR:R < w.heap.size) (hk:Kq R w W) (hp:Pq W R A c l j) (hs:SitG E lo W L) (hlo:w.heap.size < lo) (v0 v1 v2:Value) :
  Kq R w (((W.setCell ⟨w.heap.size,0,none⟩ v0).setCell ⟨w.heap.size,1,none⟩ v1).setCell ⟨w.heap.size,2,none⟩ v2)∧Pq (((W.setCell ⟨w.heap.size,0,none⟩ v0).setCell ⟨w.heap.size,1,none⟩ v1).setCell ⟨w.heap.size,2,none⟩ v2) R A c l j∧SitG E w.heap.size (((W.setCell ⟨w.heap.size,0,none⟩ v0).setCell ⟨w.heap.size,1,none⟩ v1).setCell ⟨w.heap.size,2,none⟩ v2) L:=by
 have hn:w.heap.size∉E.blkL L:=fun h=>by have:=(hs.bd _ h).1;omega
 exact ⟨((hk.put (p:=⟨w.heap.size,0,none⟩) (Nat.le_refl _) _).put (p:=⟨w.heap.size,1,none⟩) (Nat.le_refl _) _).put (p:=⟨w.heap.size,2,none⟩) (Nat.le_refl _) _,
  ((hp.put (p:=⟨w.heap.size,0,none⟩) hR _).put (p:=⟨w.heap.size,1,none⟩) hR _).put (p:=⟨w.heap.size,2,none⟩) hR _,
  (((hs.low (by omega)).put (p:=⟨w.heap.size,0,none⟩) hn _).put (p:=⟨w.heap.size,1,none⟩) hn _).put (p:=⟨w.heap.size,2,none⟩) hn _⟩
theorem Kq.from_new {w W:World} {R:Nat} {o:Obj} (hk:Kq R (w.alloc o) W):Kq R w W:=((Kp.refl R Z0 w).alloc o).trans hk
section
variable {R:Nat} {A:Option Addr} {c:Nat} {l:List Tk}
def ExprQ (R:Nat) (A:Option Addr) (c:Nat) (l:List Tk) (a n:Nat) (ex:Rd1 Tm):Prop :=
 ∀(i:Nat) (w:World),Pq w R A c l i→a≤i→(leftT l i).length≤n→Calls Tryz.prog 129 #[.pointer (some ⟨R,0,none⟩)] w (ElR rdTm ex R A c l a i w)
theorem nsL_no {l:List Tk} {a i:Nat} {k:Int} (h:(l.getD i default).1=k) (hk:k≠2):nsL l a (i+1)=nsL l a i:=nsU_no (by rw [kV,h];simpa using hk)
theorem nsL_s {l:List Tk} {a i:Nat} {s:List UInt8} (hi:i < l.length) (h:isS s (leftT l i)=true):nsL l a (i+1)=nsL l a i:=by
 rw [left_isS hi] at h
 simp only [isT,Bool.and_eq_true,beq_iff_eq] at h
 exact nsL_no h.1 (by decide)
set_option maxHeartbeats 4000000 in
set_option maxRecDepth 10000 in
theorem group_at (hg:GoodT l) {a n:Nat} {ex:Rd1 Tm} (hE:ExprQ R A c l a n ex) (i:Nat) (w:World) (h:Pq w R A c l i) (ha:a≤i) (hn:(leftT l i).length≤n) :
  Calls Tryz.prog 132 #[.pointer (some ⟨R,0,none⟩)] w (ElR rdTm (fun ts ns=>match ex ts ns with
   | .ok x r ns2=>wantS [41] x r ns2
   | .err l e=>.err l e) R A c l a i w):=by
 have HG:=Lib.hid hg
 have hR:=h.lt
 have Q:=Lib.hid (hE i _ (h.alloc (.cells #[.int .i64 0,.int .i64 0,.string ⟨#[]⟩,.slice none 0 0] 56)) ha hn)
 have HI:=Lib.hid h.ilt
 clear hg hE h hn
 go_enter Tryz.func132,Tryz.ntmps132
 go_wp2_with fail
 refine Q.out.mono ?_
 rintro e w2 ⟨u,j,er,he,hk,hp,hs,ho⟩
 have he2:e=.returned (.tuple #[.agg #[.int .i64 u.kind,.int .i64 u.num,.string u.name,.slice u.at_ u.args.length u.cap],.int .i64 er]):=he
 clear he
 subst he2
 have hTR:w.heap.size≠R:=by omega
 have HB:=Lib.hid ((BoxL.new w [.int .i64 0,.int .i64 0,.string ⟨#[]⟩,.slice none 0 0] 56).kq hk hTR)
 have HU:=Lib.hid (BoxL.new w2 [.int .i64 u.kind,.int .i64 u.num,.string u.name,.slice u.at_ u.args.length u.cap] 56)
 have HK:=Lib.hid (Kq.from_new hk)
 have hsz:w.heap.size+1≤w2.heap.size:=by have:=hk.size;simpa using this
 have HS:=Lib.hid (hs.low (lo':=w.heap.size+1) (by simp))
 have HP:=Lib.hid hp
 clear hk hs hp
 rcases ho with ⟨rfl,hf,hij,hv⟩|⟨her,hf⟩
 ·obtain ⟨b,hb⟩:∃b,((l.getD j default).2.2==[41])=b:=⟨_,rfl⟩
  have HF:=Lib.hid hf
  have HJ:=Lib.hid hij
  have HV:=Lib.hid hv
  have HX:=Lib.hid (show isS [41] (leftT l j)=b by rw [isS_left HG.out HP.out.ilt (by decide)];exact hb)
  have QX:=Lib.hid (fun W (hW:Pq W R A c l j)=>expect_at HG.out hW [41] (by decide) hb)
  have HN:=Lib.hid (show b=true→j+1 < l.length from fun e=>good_next HG.out HP.out.ilt (by rw [e] at hb;rw [beq_iff_eq.1 hb];decide))
  clear hf hij hv hb
  cases b
  ·go_wp2_with (go_at_call 56;refine (QX.out _ (HP.out.alloc _)).mono ?_;rintro e w3 ⟨rfl,hk3,hp3⟩;have HK3:=Lib.hid ((HK.out.alloc _).trans hk3);have hsz3:w2.heap.size+1≤w3.heap.size:=(by have:=hk3.size;simpa using this);obtain ⟨c0,c1,c2,c3,f0,f1,f2,f3⟩:=((HB.out.alloc (.cells #[.int .i64 u.kind,.int .i64 u.num,.string u.name,.slice u.at_ u.args.length u.cap] 56)).kq hk3 hTR).get4;obtain ⟨d0,d1,d2,d3,_⟩:=(HU.out.kq hk3 (by have:=HB.out.lt;omega)).get4;have HP3:=Lib.hid hp3;have HS3:=Lib.hid ((HS.out.below ((Below.refl _ _).alloc (Nat.le_refl _) _)).kq hk3 (by omega));clear hk3 hp3)
   refine bodyPost_ret (v:=.tuple #[.agg #[.int .i64 u.kind,.int .i64 u.num,.string u.name,.slice u.at_ u.args.length u.cap],.int .i64 16]) (by simp [results,Tryz.results132,go_sem,c0,c1,c2,c3]) rfl ?_
   obtain ⟨e1,e2,e3⟩:=end4 hR HK3.out HP3.out HS3.out (Nat.lt_succ_self _) (.int .i64 u.kind) (.int .i64 u.num) (.string u.name) (.slice u.at_ u.args.length u.cap)
   refine ⟨u,j,16,rfl,e1,e2,e3,.inr ⟨by omega,?_⟩⟩
   simp only [HF.out,wantS,HX.out]
   rfl
  ·go_wp2_with (go_at_call 56;refine (QX.out _ (HP.out.alloc _)).mono ?_;rintro e w3 ⟨rfl,hk3,hp3⟩;have HK3:=Lib.hid ((HK.out.alloc _).trans hk3);have hsz3:w2.heap.size+1≤w3.heap.size:=(by have:=hk3.size;simpa using this);obtain ⟨c0,c1,c2,c3,f0,f1,f2,f3⟩:=((HB.out.alloc (.cells #[.int .i64 u.kind,.int .i64 u.num,.string u.name,.slice u.at_ u.args.length u.cap] 56)).kq hk3 hTR).get4;obtain ⟨d0,d1,d2,d3,_⟩:=(HU.out.kq hk3 (by have:=HB.out.lt;omega)).get4;have HP3:=Lib.hid hp3;have HS3:=Lib.hid ((HS.out.below ((Below.refl _ _).alloc (Nat.le_refl _) _)).kq hk3 (by omega));clear hk3 hp3)
   refine bodyPost_ret (v:=.tuple #[.agg #[.int .i64 u.kind,.int .i64 u.num,.string u.name,.slice u.at_ u.args.length u.cap],.int .i64 0]) (by simp [results,Tryz.results132,go_sem,c0,c1,c2,c3]) rfl ?_
   obtain ⟨e1,e2,e3⟩:=end4 hR HK3.out HP3.out HS3.out (Nat.lt_succ_self _) (.int .i64 u.kind) (.int .i64 u.num) (.string u.name) (.slice u.at_ u.args.length u.cap)
   have hj:=HJ.out
   refine ⟨u,j+1,0,rfl,e1,e2,e3,.inl ⟨rfl,?_,by omega,HV.out.wide (Nat.le_refl _) (by omega)⟩⟩
   simp only [HF.out,wantS,HX.out,left_tail,if_true]
   rw [nsL_s HP.out.ilt HX.out]
 ·have hne:(er==0)=false:=by simpa using her
  have HF:=Lib.hid hf
  have HE:=Lib.hid her
  obtain ⟨c0,c1,c2,c3,f0,f1,f2,f3⟩:=(HB.out.alloc (.cells #[.int .i64 u.kind,.int .i64 u.num,.string u.name,.slice u.at_ u.args.length u.cap] 56)).get4
  clear her hf
  go_wp2_with fail
  refine bodyPost_ret (v:=.tuple #[.agg #[.int .i64 u.kind,.int .i64 u.num,.string u.name,.slice u.at_ u.args.length u.cap],.int .i64 er]) (by simp [results,Tryz.results132,go_sem,c0,c1,c2,c3]) rfl ?_
  obtain ⟨e1,e2,e3⟩:=end4 hR (HK.out.alloc _) (HP.out.alloc _) (HS.out.below ((Below.refl _ _).alloc (Nat.le_refl _) _)) (Nat.lt_succ_self _) (.int .i64 u.kind) (.int .i64 u.num) (.string u.name) (.slice u.at_ u.args.length u.cap)
  refine ⟨u,j,er,rfl,e1,e2,e3,.inr ⟨HE.out,?_⟩⟩
  simp only [HF.out]
end
end Go.Proofs.YtaojnljppcnhjaaGreatDoor
namespace Go.Proofs.YtaojnljppcnhjaaGreatDoor
open Go.RowKit
section
variable {w:World} {R:Nat} {A:Option Addr} {c:Nat} {l:List Tk} {i:Nat} {z:Value} {ns:List (List UInt8)} {at_:Nat} {er:Int}
theorem step_next (hg:GoodT l) (hi:i < l.length) (hne:(l.getD i default).2.2≠[]):stepI l i=i+1:=by
 rw [stepI,if_pos (good_next hg hi hne)]
theorem z_is_at (hg:GoodT l) (h:Pr w R A c l i z ns at_ er) (s:List UInt8) (hs:kindO s=4) {b:Bool} (hb:((l.getD i default).2.2==s)=b) :
  Calls Tryz.prog 47 #[.pointer (some ⟨R,0,none⟩),.string (S s)] w fun en w'=>en=.returned (.bool b)∧Below w.heap.size w w':=by
 have:=r_is_at h s
 rw [←hg.acc h.ilt hs,hb] at this
 exact this
def NameZ (R:Nat) (A:Option Addr) (c:Nat) (l:List Tk) (i:Nat) (z:Value) (ns:List (List UInt8)) (w:World) (en:Ending) (w':World):Prop :=
 ∃(t:List UInt8) (b:Bool),en=.returned (.tuple #[.string (S t),.bool b])∧t.length≤16384∧Kp R z z w w' ∧
  ((b=true∧(l.getD i default).1=1∧(∀ns,nmS (leftT l i) ns=.ok t (leftT l (i+1)) ns)∧∃a,Pr w' R A c l (i+1) z ns a 0) ∨
   (b=false∧∃e,e≠0∧(∀ns,nmS (leftT l i) ns=.err (leftT l i).length e)∧Pr w' R A c l i z ns (offT l (leftT l i).length) e))
theorem z_name_at (hg:GoodT l) (h:Pr w R A c l i z ns at_ 0) :
  Calls Tryz.prog 49 #[.pointer (some ⟨R,0,none⟩)] w (NameZ R A c l i z ns w):=by
 refine (r_name_at h).mono ?_
 rintro en w' (⟨h1,h2,rfl,hk,a,hp⟩|⟨e,he,rfl,hk,hp⟩)
 ·have hne:(l.getD i default).2.2≠[]:=fun e=>by
   have:=hg.kinds i h.ilt
   rw [e,h1] at this
   exact absurd this (by decide)
  rw [step_next hg h.ilt hne] at hp
  refine ⟨_,true,rfl,hg.texts i h.ilt,hk,.inl ⟨rfl,h1,fun ns=>?_,a,hp⟩⟩
  rw [left_cons h.ilt,nmS,if_neg (by rw [h1];simp),h2]
  rfl
 ·refine ⟨[],false,rfl,by simp,hk,.inr ⟨rfl,e,?_,fun ns=>?_,by rw [off_here h.ilt];exact hp⟩⟩
  ·rcases he with ⟨_,rfl⟩|⟨_,_,rfl⟩<;>decide
  ·rcases he with ⟨h1,rfl⟩|⟨h1,h2,rfl⟩
   ·rw [left_cons h.ilt,nmS,if_pos h1]
   ·rw [left_cons h.ilt,nmS,if_neg (by rw [h1];simp),if_pos h2]
def WantZ (b:Bool) (R:Nat) (A:Option Addr) (c:Nat) (l:List Tk) (i:Nat) (z:Value) (ns:List (List UInt8)) (w:World) (en:Ending) (w':World):Prop :=
 en=.returned (.bool b)∧Kp R z z w w'∧((b=true∧∃a,Pr w' R A c l (i+1) z ns a 0)∨(b=false∧Pr w' R A c l i z ns (offT l (leftT l i).length) 16))
theorem z_want_at (hg:GoodT l) (h:Pr w R A c l i z ns at_ 0) (s:List UInt8) (hs:kindO s=4) {b:Bool} (hb:((l.getD i default).2.2==s)=b) :
  Calls Tryz.prog 50 #[.pointer (some ⟨R,0,none⟩),.string (S s)] w (WantZ b R A c l i z ns w):=by
 refine (r_want_at h s).mono ?_
 have hT:=hg.acc h.ilt hs
 rw [hb] at hT
 rintro en w' (⟨h1,rfl,hk,a,hp⟩|⟨h1,rfl,hk,hp⟩)
 ·rw [h1] at hT
  subst hT
  have hne:(l.getD i default).2.2≠[]:=fun e=>by
   rw [e] at hb
   rw [←beq_iff_eq.1 hb] at hs
   exact absurd hs (by decide)
  rw [step_next hg h.ilt hne] at hp
  exact ⟨rfl,hk,.inl ⟨rfl,a,hp⟩⟩
 ·rw [h1] at hT
  subst hT
  exact ⟨rfl,hk,.inr ⟨rfl,by rw [off_here h.ilt];exact hp⟩⟩
theorem z_next_at (hg:GoodT l) (h:Pr w R A c l i z ns at_ er) (hne:(l.getD i default).2.2≠[]) :
  Calls Tryz.prog 48 #[.pointer (some ⟨R,0,none⟩)] w fun en w'=>en=.returned (.tuple #[])∧Kp R z z w w'∧Pr w' R A c l (i+1) z ns at_ er:=by
 have:=r_next_at h
 rw [step_next hg h.ilt hne] at this
 exact this
end
end Go.Proofs.YtaojnljppcnhjaaGreatDoor
