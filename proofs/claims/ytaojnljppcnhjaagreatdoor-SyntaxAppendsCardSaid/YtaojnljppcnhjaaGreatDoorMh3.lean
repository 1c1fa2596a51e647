/-
  PrTok.
  PrFail.
  PaRest.
 SyExt.
 SySuf.
 SyApp.
-/
import Derived.Test.YtaojnljppcnhjaaGreatDoorMh2
import Derived.Deep.QuietTactic
import Derived.BigQuiet
import Derived.BigRegion
import Derived.Deep.LoopGhost
import Derived.WalkSpells
import Derived.Lib.Strings
namespace Go.Proofs.YtaojnljppcnhjaaGreatDoor
open Go.RowKit
theorem put3_cells {X:World} {b:Nat} {u0 u1 u2 v0 v1 v2:Value} (h0:X.cell? ⟨b,0,none⟩=some u0) (h1:X.cell? ⟨b,1,none⟩=some u1) (h2:X.cell? ⟨b,2,none⟩=some u2) :
  (((X.setCell ⟨b,0,none⟩ v0).setCell ⟨b,1,none⟩ v1).setCell ⟨b,2,none⟩ v2).drew.cell? ⟨b,0,none⟩=some v0 ∧
  (((X.setCell ⟨b,0,none⟩ v0).setCell ⟨b,1,none⟩ v1).setCell ⟨b,2,none⟩ v2).drew.cell? ⟨b,1,none⟩=some v1 ∧
  (((X.setCell ⟨b,0,none⟩ v0).setCell ⟨b,1,none⟩ v1).setCell ⟨b,2,none⟩ v2).drew.cell? ⟨b,2,none⟩=some v2:=by
 refine ⟨?_,?_,?_⟩
 ·show (((X.setCell ⟨b,0,none⟩ v0).setCell ⟨b,1,none⟩ v1).setCell ⟨b,2,none⟩ v2).cell? ⟨b,0,none⟩=some v0
  rw [World.cell?_setCell_other _ _ _ _ (by simp),World.cell?_setCell_other _ _ _ _ (by simp)]
  exact World.cell?_setCell_same _ _ _ (by rw [h0])
 ·show (((X.setCell ⟨b,0,none⟩ v0).setCell ⟨b,1,none⟩ v1).setCell ⟨b,2,none⟩ v2).cell? ⟨b,1,none⟩=some v1
  rw [World.cell?_setCell_other _ _ _ _ (by simp)]
  exact World.cell?_setCell_same _ _ _ (by rw [World.cell?_setCell_other _ _ _ _ (by simp),h1])
 ·show (((X.setCell ⟨b,0,none⟩ v0).setCell ⟨b,1,none⟩ v1).setCell ⟨b,2,none⟩ v2).cell? ⟨b,2,none⟩=some v2
  exact World.cell?_setCell_same _ _ _ (by rw [World.cell?_setCell_other _ _ _ _ (by simp),World.cell?_setCell_other _ _ _ _ (by simp),h2])
section
variable {w:World} {R:Nat} {A:Option Addr} {c:Nat} {l:List Tk} {i:Nat} {z:Value} {ns:List (List UInt8)} {at_:Nat} {er:Int}
set_option maxHeartbeats 1000000 in
theorem r_tok_at (h:Pr w R A c l i z ns at_ er) :
  Calls Tryz.prog 27 #[.pointer (some ⟨R,0,none⟩)] w fun e w'=>e=.returned (tokV (l.getD i default))∧Below w.heap.size w w':=by
 obtain ⟨X,hX⟩:∃X,X=w.alloc (.cells #[.int .i64 0,.int .i64 0,.string ⟨#[]⟩] 67):=⟨_,rfl⟩
 have HX:=Lib.hid (show Below w.heap.size w X by rw [hX];exact below1 w _)
 have hXX:Pr X R A c l i z ns at_ er:=h.below HX.out
 have hnew:∀j,X.cell? ⟨w.heap.size,j,none⟩=(#[.int .i64 0,.int .i64 0,.string ⟨#[]⟩]:Array Value)[j]?:=fun j=>by rw [hX];exact World.cell?_alloc_at _ _ _ _ rfl
 have n0:X.cell? ⟨w.heap.size,0,none⟩=some (.int .i64 0):=hnew 0
 have n1:X.cell? ⟨w.heap.size,1,none⟩=some (.int .i64 0):=hnew 1
 have n2:X.cell? ⟨w.heap.size,2,none⟩=some (.string ⟨#[]⟩):=hnew 2
 have f0:∀j,X.frozen? ⟨w.heap.size,j,none⟩=false:=fun j=>by rw [hX];exact World.frozen?_alloc_at _ _ _ _ rfl
 have fr0:=f0 0
 have fr1:=f0 1
 have fr2:=f0 2
 clear hnew f0 h
 obtain ⟨g,rfl,t0,t1,t2⟩:=hXX.tok
 have h0:=hXX.l0
 have h1:=hXX.l1
 have hil:(i:Int) < (l.length:Int):=by have:=hXX.ilt;omega
 have hi0:(0:Int)≤(i:Int):=by omega
 have hlen:=hXX.toks.1
 have hcap:=hXX.toks.2.1
 have hgR:=hXX.low g rfl
 have hRX:=hXX.lt
 clear hXX
 generalize l.getD i default=t at t0 t1 t2 ⊢
 obtain ⟨k,p,x⟩:=t
 simp only at t0 t1 t2
 generalize l.length=n at h0 hil hlen
 go_enter Tryz.func27,Tryz.ntmps27
 go_wp2_with fail
 rw [←hX]
 clear hX
 go_region
 generalize hY:(((X.setCell _ _).setCell _ _).setCell _ _).drew=Y
 have HB:Below w.heap.size w Y:=by
  rw [←hY]
  exact (((HX.out.setCell (Nat.le_refl _) _).setCell (Nat.le_refl _) _).setCell (Nat.le_refl _) _).drew
 obtain ⟨q0,q1,q2⟩:Y.cell? ⟨w.heap.size,0,none⟩=some (.int .i64 k)∧Y.cell? ⟨w.heap.size,1,none⟩=some (.int .i64 (p:Int))∧Y.cell? ⟨w.heap.size,2,none⟩=some (.string (S x)):=by
  rw [←hY]
  exact put3_cells n0 n1 n2
 clear hY
 go_wp2_with fail
 refine bodyPost_ret (v:=tokV (k,p,x)) (by simp [results,Tryz.results27,go_sem,q0,q1,q2]) rfl ⟨rfl,HB⟩
end
end Go.Proofs.YtaojnljppcnhjaaGreatDoor
namespace Go.Proofs.YtaojnljppcnhjaaGreatDoor
open Go.RowKit
section
variable {w:World} {R:Nat} {A:Option Addr} {c:Nat} {l:List Tk} {i:Nat} {z:Value} {ns:List (List UInt8)} {at_:Nat} {er:Int}
def FailedAt (R:Nat) (A:Option Addr) (c:Nat) (l:List Tk) (i:Nat) (z:Value) (ns:List (List UInt8)) (w:World) (p:Nat) (e:Int) (w':World):Prop:=Kp R z z w w'∧Pr w' R A c l i z ns p e
set_option maxHeartbeats 1000000 in
set_option maxRecDepth 10000 in
theorem r_fail_at (h:Pr w R A c l i z ns at_ 0) (p:Nat) (e:Int) :
  Calls Tryz.prog 31 #[.pointer (some ⟨R,0,none⟩),.int .i64 (p:Int),.int .i64 e] w fun en w'=>en=.returned (.bool false)∧FailedAt R A c l i z ns w p e w':=by
 have H:=Lib.hid h
 have h3:=h.l3
 have h4:=h.l4
 have f3:=h.fr 3
 have f4:=h.fr 4
 clear h
 go_enter Tryz.func31,Tryz.ntmps31
 go_wp2_with fail
 go_ret
 exact ⟨rfl,((Kp.refl R z w).set 3 none _).set 4 none _,H.out.setE p e⟩
def stepI (l:List Tk) (i:Nat):Nat:=if i+1 < l.length then i+1 else i
set_option maxHeartbeats 1000000 in
set_option maxRecDepth 10000 in
theorem r_next_at (h:Pr w R A c l i z ns at_ er) :
  Calls Tryz.prog 48 #[.pointer (some ⟨R,0,none⟩)] w fun en w'=>en=.returned (.tuple #[])∧Kp R z z w w'∧Pr w' R A c l (stepI l i) z ns at_ er:=by
 have H:=Lib.hid h
 have h0:=h.l0
 have h1:=h.l1
 have f1:=h.fr 1
 have hil:=h.ilt
 have hlen:=h.toks.1
 have hcap:=h.toks.2.1
 clear h
 unfold maxLen at hcap
 by_cases hi:i+1 < l.length
 ·have hd:decide ((i:Int) < (l.length:Int) - 1)=true:=by simp;omega
  have HE:=Lib.hid (show ∀n,Kp R z z w ((w.drewN n).setCell ⟨R,1,none⟩ (.int .i64 ((i:Int)+1)))∧Pr ((w.drewN n).setCell ⟨R,1,none⟩ (.int .i64 ((i:Int)+1))) R A c l (stepI l i) z ns at_ er from fun n=>by
   rw [stepI,if_pos hi]
   exact ⟨((Kp.refl R z w).drewN n).set 1 none _,(H.out.drewN n).setI (q:=i+1) hi⟩)
  go_enter Tryz.func48,Tryz.ntmps48
  go_wp2_with fail
  go_quiet (fail)
  go_wp2_with fail
  go_end0
  exact ⟨rfl,HE.out nq⟩
 ·have hd:decide ((i:Int) < (l.length:Int) - 1)=false:=by simp;omega
  have HE:=Lib.hid (show ∀n,Kp R z z w (w.drewN n)∧Pr (w.drewN n) R A c l (stepI l i) z ns at_ er from fun n=>by
   rw [stepI,if_neg hi]
   exact ⟨(Kp.refl R z w).drewN n,H.out.drewN n⟩)
  go_enter Tryz.func48,Tryz.ntmps48
  go_wp2_with fail
  go_quiet (fail)
  go_wp2_with fail
  go_end0
  exact ⟨rfl,HE.out nq⟩
def isT (kd:Int) (s:List UInt8) (t:Tk):Bool:=t.1==kd&&t.2.2==s
theorem r_tok_of (h:Pr w R A c l i z ns at_ er) {k:Int} {p:Nat} {x:List UInt8} (ht:l.getD i default=(k,p,x)) :
  Calls Tryz.prog 27 #[.pointer (some ⟨R,0,none⟩)] w fun e w'=>e=.returned (.agg #[.int .i64 k,.int .i64 (p:Int),.string (S x)])∧Below w.heap.size w w':=by
 have:=r_tok_at h
 rw [ht] at this
 exact this
theorem tok_kind (k p:Int) (x:ByteArray) (W:World):Sem.run Tryz.prog (Instr.field 67 (.agg #[.int .i64 k,.int .i64 p,.string x]) 0) W=.ok (.int .i64 k) W:=by kernel_rfl
theorem tok_at (k p:Int) (x:ByteArray) (W:World):Sem.run Tryz.prog (Instr.field 67 (.agg #[.int .i64 k,.int .i64 p,.string x]) 1) W=.ok (.int .i64 p) W:=by kernel_rfl
theorem tok_text (k p:Int) (x:ByteArray) (W:World):Sem.run Tryz.prog (Instr.field 67 (.agg #[.int .i64 k,.int .i64 p,.string x]) 2) W=.ok (.string x) W:=by kernel_rfl
set_option maxHeartbeats 1000000 in
set_option maxRecDepth 10000 in
theorem r_is_at (h:Pr w R A c l i z ns at_ er) (s:List UInt8) :
  Calls Tryz.prog 47 #[.pointer (some ⟨R,0,none⟩),.string (S s)] w fun en w'=>en=.returned (.bool (isT 4 s (l.getD i default)))∧Below w.heap.size w w':=by
 generalize ht:l.getD i default=t
 obtain ⟨k,p,x⟩:=t
 have Q:=Lib.hid (fun W (hb:Below w.heap.size w W)=>r_tok_of (h.below hb) ht)
 clear h
 have hp:∃r,(x==s)=r:=⟨_,rfl⟩
 obtain ⟨r,hr⟩:=hp
 have HE:=Lib.hid (show isT 4 s (k,p,x)=((k==4)&&r) by rw [←hr];rfl)
 have fk:=tok_kind k p (S x)
 have ft:=tok_text k p (S x)
 obtain ⟨b,hk⟩:∃b,(k==4)=b:=⟨_,rfl⟩
 have H0:=Lib.hid (Below.refl w.heap.size w)
 clear ht
 rw [HE.out,hk]
 cases b
 ·go_enter Tryz.func47,Tryz.ntmps47
  go_wp2_with (go_at_call 27;refine (Q.out _ H0.out).mono ?_;rintro en w1 ⟨rfl,hb1⟩)
  go_ret
  exact ⟨rfl,by assumption⟩
 ·go_enter Tryz.func47,Tryz.ntmps47
  go_wp2_with (first|(go_at_call 27;refine (Q.out _ H0.out).mono ?_;rintro en w1 ⟨rfl,hb1⟩;have H1:=Lib.hid hb1;clear hb1)|(go_at_call 27;refine (Q.out _ H1.out).mono ?_;rintro en w2 ⟨rfl,hb2⟩;have H2:=Lib.hid (H1.out.trans (hb2.mono H1.out.size));clear hb2))
  go_ret
  exact ⟨by simp,H2.out⟩
set_option maxHeartbeats 1000000 in
set_option maxRecDepth 10000 in
theorem r_word_at (h:Pr w R A c l i z ns at_ er) (s:List UInt8) :
  Calls Tryz.prog 25 #[.pointer (some ⟨R,0,none⟩),.string (S s)] w fun en w'=>en=.returned (.bool (isT 1 s (l.getD i default)))∧Below w.heap.size w w':=by
 generalize ht:l.getD i default=t
 obtain ⟨k,p,x⟩:=t
 have Q:=Lib.hid (fun W (hb:Below w.heap.size w W)=>r_tok_of (h.below hb) ht)
 clear h
 have hp:∃r,(x==s)=r:=⟨_,rfl⟩
 obtain ⟨r,hr⟩:=hp
 have HE:=Lib.hid (show isT 1 s (k,p,x)=((k==1)&&r) by rw [←hr];rfl)
 have fk:=tok_kind k p (S x)
 have ft:=tok_text k p (S x)
 obtain ⟨b,hk⟩:∃b,(k==1)=b:=⟨_,rfl⟩
 have H0:=Lib.hid (Below.refl w.heap.size w)
 clear ht
 rw [HE.out,hk]
 cases b
 ·go_enter Tryz.func25,Tryz.ntmps25
  go_wp2_with (go_at_call 27;refine (Q.out _ H0.out).mono ?_;rintro en w1 ⟨rfl,hb1⟩)
  go_ret
  exact ⟨rfl,by assumption⟩
 ·go_enter Tryz.func25,Tryz.ntmps25
  go_wp2_with (first|(go_at_call 27;refine (Q.out _ H0.out).mono ?_;rintro en w1 ⟨rfl,hb1⟩;have H1:=Lib.hid hb1;clear hb1)|(go_at_call 27;refine (Q.out _ H1.out).mono ?_;rintro en w2 ⟨rfl,hb2⟩;have H2:=Lib.hid (H1.out.trans (hb2.mono H1.out.size));clear hb2))
  go_ret
  exact ⟨by simp,H2.out⟩
end
end Go.Proofs.YtaojnljppcnhjaaGreatDoor
namespace Go.Proofs.YtaojnljppcnhjaaGreatDoor
open Go
def markT (l:List Tk) (i:Nat):Bool:=match i with
 | 0=>false
 | j+1=>(l.getD (j+1) default).1==3&&((l.getD j default).2.2==[45]&&(l.getD (j+1) default).2.1==(l.getD j default).2.1+1)
def leftT (l:List Tk) (i:Nat):List Tok:=if i < l.length then ((l.getD i default).1,(l.getD i default).2.2,markT l i) :: leftT l (i+1) else []
termination_by l.length - i
theorem left_cons {l:List Tk} {i:Nat} (h:i < l.length):leftT l i=((l.getD i default).1,(l.getD i default).2.2,markT l i) :: leftT l (i+1):=by rw [leftT,if_pos h]
theorem left_end {l:List Tk} {i:Nat} (h:l.length≤i):leftT l i=[]:=by rw [leftT,if_neg (by omega)]
theorem left_len (l:List Tk):∀(n i:Nat),l.length - i=n→(leftT l i).length=n
 | 0,i,h=>by rw [left_end (by omega)];rfl
 | n+1,i,h=>by rw [left_cons (by omega),List.length_cons,left_len l n (i+1) (by omega)]
theorem left_length (l:List Tk) (i:Nat):(leftT l i).length=l.length - i:=left_len l _ i rfl
theorem left_tail {l:List Tk} {i:Nat}:(leftT l i).tail=leftT l (i+1):=by
 by_cases h:i < l.length
 ·rw [left_cons h];rfl
 ·rw [left_end (by omega),left_end (by omega)];rfl
theorem left_isS {l:List Tk} {i:Nat} (h:i < l.length) (s:List UInt8):isS s (leftT l i)=isT 4 s (l.getD i default):=by rw [left_cons h];rfl
def Ended (l:List Tk):Prop:=0 < l.length∧∀i,i < l.length→((l.getD i default).1=0↔i+1=l.length)
theorem ended_step {l:List Tk} (h:Ended l) {i:Nat} (hi:i < l.length) (hk:(l.getD i default).1≠0):i+1 < l.length∧stepI l i=i+1:=by
 have h1:¬i+1=l.length:=fun e=>hk ((h.2 i hi).2 e)
 have h2:i+1 < l.length:=by omega
 exact ⟨h2,by rw [stepI,if_pos h2]⟩
def offT (l:List Tk) (left:Nat):Nat:=(l.getD (l.length - left) default).2.1
theorem off_here {l:List Tk} {i:Nat} (h:i < l.length):offT l (leftT l i).length=(l.getD i default).2.1:=by
 rw [offT,left_length,show l.length - (l.length - i)=i by omega]
def absP (at_:Nat) (prev:List UInt8):List Tk→List Tok
 | []=>[]
 | x :: r=>(x.1,x.2.2,(x.1==3&&(prev==[45]&&x.2.1==at_+1))) :: absP x.2.1 x.2.2 r
theorem left_abs (l:List Tk):∀(n j:Nat),l.length - (j+1)=n→absP (l.getD j default).2.1 (l.getD j default).2.2 (l.drop (j+1))=leftT l (j+1)
 | 0,j,h=>by rw [left_end (by omega),List.drop_eq_nil_of_le (by omega)];rfl
 | n+1,j,h=>by
  have hlt:j+1 < l.length:=by omega
  have hi:=left_abs l n (j+1) (by omega)
  have hg:l[j+1]=l.getD (j+1) default:=by simp [List.getD_eq_getElem?_getD,List.getElem?_eq_getElem hlt]
  rw [List.drop_eq_getElem_cons hlt,left_cons hlt,absP,hg,hi]
  rfl
theorem left_all (l:List Tk):absP 0 [] l=leftT l 0:=by
 cases l with
 | nil=>rw [left_end (by simp)];rfl
 | cons x r =>
  have h:=left_abs (x :: r) r.length 0 (by simp)
  rw [left_cons (by simp),← h]
  simp [absP,markT]
end Go.Proofs.YtaojnljppcnhjaaGreatDoor
namespace Go.Proofs.YtaojnljppcnhjaaGreatDoor
open Go
abbrev EndT:List Tok:=[(0,[],false)]
def ExtW {α:Type} (f:Rd1 α):Prop:=∀a ns v r ns2,f (a++EndT) ns=.ok v r ns2→∃b,r=b++EndT∧b.length < a.length∧∀x,b≠[]→f (a++x) ns=.ok v (b++x) ns2
def ExtS {α:Type} (f:Rd1 α):Prop:=∀a ns v r ns2,f (a++EndT) ns=.ok v r ns2→∃b,r=b++EndT∧b.length < a.length∧∀x,f (a++x) ns=.ok v (b++x) ns2
theorem isS_true {s:List UInt8} {b:List Tok} (h:isS s (b++EndT)=true):∃c d,b=c :: d∧∀x,isS s (b++x)=true:=by
 cases b with
 | nil=>cases h
 | cons c d=>exact ⟨c,d,rfl,fun x=>h⟩
theorem isS_false {s:List UInt8} {b:List Tok} (h:isS s (b++EndT)=false) (hb:b≠[]):∀x,isS s (b++x)=false:=by
 cases b with
 | nil=>exact absurd rfl hb
 | cons c d=>exact fun x=>h
theorem want_ext (s:List UInt8) {α:Type} (v:α):ExtS (wantS s v):=by
 intro a ns w r ns2 h
 unfold wantS at h
 cases hs:isS s (a++EndT) with
 | false=>rw [hs] at h;cases h
 | true =>
  obtain ⟨c,d,rfl,hx⟩:=isS_true hs
  rw [hs] at h
  injection h with h1 h2 h3
  subst h1 h2 h3
  refine ⟨d,rfl,by simp,fun x=>?_⟩
  unfold wantS
  rw [hx x];rfl
theorem want_then {s:List UInt8} {α:Type} {v w:α} {b:List Tok} {ns ns2:List (List UInt8)} {r:List Tok} (h:wantS s v (b++EndT) ns=.ok w r ns2):b≠[]∧∃d,r=d++EndT∧d.length < b.length∧∀x,wantS s v (b++x) ns=.ok w (d++x) ns2:=by
 obtain ⟨d,h1,h2,h3⟩:=want_ext s v b ns w r ns2 h
 exact ⟨by rintro rfl;simp at h2,d,h1,h2,h3⟩
theorem nm_ext:ExtS nmS:=by
 intro a ns w r ns2 h
 cases a with
 | nil =>
  simp only [List.nil_append,EndT,nmS] at h
  rw [if_pos (by decide)] at h;cases h
 | cons c d =>
  obtain ⟨k,t,g⟩:=c
  simp only [List.cons_append,nmS] at h
  by_cases hk:k≠1
  ·rw [if_pos hk] at h;cases h
  ·rw [if_neg hk] at h
   cases hr:resB t with
   | true=>rw [hr,if_pos rfl] at h;cases h
   | false =>
    rw [hr,if_neg (by decide)] at h
    injection h with h1 h2 h3
    subst h1 h2 h3
    refine ⟨d,rfl,by simp,fun x=>?_⟩
    simp only [List.cons_append,nmS]
    rw [if_neg hk,hr,if_neg (by decide)]
section
variable {ex:Rd1 Tm} (hex:ExtW ex)
include hex
theorem args_ext:∀(n:Nat) (a:List Tok),a.length≤n→∀(c:Tok) (acc:List Tm) ns v r ns2,argsS ex acc (c :: a++EndT) ns=.ok v r ns2→∃b,r=b++EndT∧b.length < a.length+1∧∀x,argsS ex acc (c :: a++x) ns=.ok v (b++x) ns2
 | n,a,hn,c,acc,ns,v,r,ns2,h=>by
  rw [argsS] at h
  simp only [List.cons_append,List.tail_cons] at h
  cases he:ex (a++EndT) ns with
  | err l e=>rw [he] at h;cases h
  | ok y r1 ns1 =>
   rw [he] at h
   simp only at h
   obtain ⟨b,rfl,hb,hx⟩:=hex a ns y r1 ns1 he
   cases hs:isS [44] (b++EndT) with
   | true =>
    obtain ⟨c2,b2,rfl,hsx⟩:=isS_true hs
    rw [hs,if_pos rfl] at h
    split at h
    ·match n,hn with
     | 0,hn=>simp only [List.length_cons] at hb;omega
     | n+1,hn =>
      simp only [List.length_cons] at hb
      obtain ⟨b3,h1,h2,h3⟩:=args_ext n b2 (by omega) c2 _ _ _ _ _ h
      refine ⟨b3,h1,by omega,fun x=>?_⟩
      rw [argsS]
      simp only [List.cons_append,List.tail_cons]
      rw [hx x (by simp)]
      simp only
      rw [hsx x,if_pos rfl,dif_pos (by simp only [List.length_append,List.length_cons];omega)]
      exact h3 x
    ·cases h
   | false =>
    rw [hs,if_neg (by decide)] at h
    obtain ⟨hb0,d,h1,h2,h3⟩:=want_then h
    refine ⟨d,h1,by omega,fun x=>?_⟩
    rw [argsS]
    simp only [List.cons_append,List.tail_cons]
    rw [hx x hb0]
    simp only
    rw [isS_false hs hb0 x,if_neg (by decide)]
    exact h3 x
theorem atom_ext:ExtW (atomS ex):=by
 intro a ns v r ns2 h
 unfold atomS at h
 cases hm:nmS (a++EndT) ns with
 | err l e=>rw [hm] at h;cases h
 | ok t r1 ns1 =>
  rw [hm] at h
  simp only at h
  obtain ⟨b,rfl,hb,hx⟩:=nm_ext a ns t r1 ns1 hm
  cases hs:isS [40] (b++EndT) with
  | true =>
   obtain ⟨c,d,rfl,hsx⟩:=isS_true hs
   rw [hs,if_pos rfl] at h
   cases ha:argsS ex [] (c :: d++EndT) ns1 with
   | err l e=>rw [ha] at h;cases h
   | ok l r2 ns3 =>
    rw [ha] at h
    injection h with h1 h2 h3
    subst h1 h2 h3
    obtain ⟨b3,e1,e2,e3⟩:=args_ext hex d.length d (Nat.le_refl _) c [] ns1 l r2 ns3 ha
    simp only [List.length_cons] at hb
    refine ⟨b3,e1,by omega,fun x _=>?_⟩
    unfold atomS
    rw [hx x]
    simp only
    rw [hsx x,if_pos rfl,e3 x]
  | false =>
   rw [hs,if_neg (by decide)] at h
   injection h with h1 h2 h3
   subst h1 h2 h3
   refine ⟨b,rfl,hb,fun x hb0=>?_⟩
   unfold atomS
   rw [hx x]
   simp only
   rw [isS_false hs hb0 x,if_neg (by decide)]
theorem opnd_ext:ExtW (opndS ex):=by
 intro a ns v r ns2 h
 cases a with
 | nil =>
  exfalso
  have e:opndS ex (([]:List Tok)++EndT) ns=.err 1 16:=rfl
  rw [e] at h;cases h
 | cons c d =>
  obtain ⟨k,t,g⟩:=c
  simp only [List.cons_append,opndS] at h
  by_cases h3:k=3
  ·rw [if_pos h3] at h
   injection h with h1 h2 h4
   subst h1 h2 h4
   exact ⟨d,rfl,by simp,fun x _=>by simp only [List.cons_append,opndS];rw [if_pos h3]⟩
  ·rw [if_neg h3] at h
   by_cases h2:k=2
   ·rw [if_pos h2] at h
    injection h with h1 h4 h5
    subst h1 h4 h5
    exact ⟨d,rfl,by simp,fun x _=>by simp only [List.cons_append,opndS];rw [if_neg h3,if_pos h2]⟩
   ·rw [if_neg h2] at h
    by_cases h1:k=1
    ·rw [if_pos h1] at h
     cases ha:atomS ex ((k,t,g) :: d++EndT) ns with
     | err l e=>simp only [List.cons_append] at ha;rw [ha] at h;cases h
     | ok y r2 ns3 =>
      obtain ⟨b,e1,e2,e3⟩:=atom_ext hex _ _ _ _ _ ha
      simp only [List.cons_append] at ha
      rw [ha] at h
      injection h with h4 h5 h6
      subst h4 h5 h6
      refine ⟨b,e1,e2,fun x hb=>?_⟩
      have:=e3 x hb
      simp only [List.cons_append] at this ⊢
      simp only [opndS]
      rw [if_neg h3,if_neg h2,if_pos h1,this]
    ·rw [if_neg h1] at h
     cases hs:isS [45] ((k,t,g) :: (d++EndT)) with
     | true =>
      rw [hs,if_pos rfl] at h
      cases d with
      | nil =>
       simp only [List.nil_append,EndT] at h
       rw [if_neg (by simp)] at h;cases h
      | cons c2 d2 =>
       obtain ⟨k2,t2,g2⟩:=c2
       simp only [List.cons_append] at h
       by_cases hg:k2=3∧g2=true
       ·rw [if_pos hg] at h
        injection h with h4 h5 h6
        subst h4 h5 h6
        refine ⟨d2,rfl,by simp only [List.length_cons];omega,fun x _=>?_⟩
        simp only [List.cons_append,opndS]
        rw [if_neg h3,if_neg h2,if_neg h1,show isS [45] ((k,t,g) :: (k2,t2,g2) :: (d2++x))=true from hs,if_pos rfl,if_pos hg]
       ·rw [if_neg hg] at h;cases h
     | false =>
      rw [hs,if_neg (by decide)] at h
      cases hs2:isS [40] ((k,t,g) :: (d++EndT)) with
      | false=>rw [hs2,if_neg (by decide)] at h;cases h
      | true =>
       rw [hs2,if_pos rfl] at h
       cases he:ex (d++EndT) ns with
       | err l e=>rw [he] at h;cases h
       | ok y r2 ns3 =>
        rw [he] at h
        simp only at h
        obtain ⟨b,rfl,hb,hx⟩:=hex _ _ _ _ _ he
        obtain ⟨hb0,d2,e1,e2,e3⟩:=want_then h
        refine ⟨d2,e1,by simp only [List.length_cons];omega,fun x _=>?_⟩
        simp only [List.cons_append,opndS]
        rw [if_neg h3,if_neg h2,if_neg h1,show isS [45] ((k,t,g) :: (d++x))=false from hs,if_neg (by decide),show isS [40] ((k,t,g) :: (d++x))=true from hs2,if_pos rfl,hx x hb0]
        exact e3 x
omit hex in
theorem chain_ext {ops:List (List UInt8)} {o:Rd1 Tm} (ho:ExtW o):∀(n:Nat) (a:List Tok),a.length≤n→∀(y:Tm) ns v r ns2,chainS ops o y (a++EndT) ns=.ok v r ns2→∃b,r=b++EndT∧b.length≤a.length∧∀x,b≠[]→chainS ops o y (a++x) ns=.ok v (b++x) ns2
 | n,a,hn,y,ns,v,r,ns2,h=>by
  cases a with
  | nil =>
   have e:chainS ops o y (([]:List Tok)++EndT) ns=.ok y EndT ns:=by
    simp only [List.nil_append,EndT]
    rw [chainS,if_neg (by simp)]
   rw [e] at h
   injection h with h1 h2 h3
   exact ⟨[],h2.symm,Nat.le_refl _,fun x hb=>absurd rfl hb⟩
  | cons c d =>
   obtain ⟨k,t,g⟩:=c
   simp only [List.cons_append] at h ⊢
   rw [chainS] at h
   by_cases hk:k=4∧t∈ops
   ·rw [if_pos hk] at h
    cases he:o (d++EndT) ns with
    | err l e=>rw [he] at h;cases h
    | ok z r2 ns3 =>
     rw [he] at h
     simp only at h
     obtain ⟨b,rfl,hb,hx⟩:=ho _ _ _ _ _ he
     split at h
     ·match n,hn with
      | 0,hn=>simp at hn
      | n+1,hn =>
       simp only [List.length_cons] at hn
       obtain ⟨b2,e1,e2,e3⟩:=chain_ext ho n b (by omega) _ _ _ _ _ h
       refine ⟨b2,e1,by simp only [List.length_cons];omega,fun x hb2=>?_⟩
       have hbn:b≠[]:=by
        rintro rfl
        simp only [List.length_nil] at e2
        exact hb2 (List.length_eq_zero_iff.1 (by omega))
       rw [chainS,if_pos hk,hx x hbn]
       simp only
       rw [dif_pos (by simp only [List.length_append,List.length_cons];omega)]
       exact e3 x hb2
     ·cases h
   ·rw [if_neg hk] at h
    injection h with h1 h2 h3
    subst h1 h2 h3
    refine ⟨(k,t,g) :: d,rfl,Nat.le_refl _,fun x _=>?_⟩
    simp only [List.cons_append]
    rw [chainS,if_neg hk]
omit hex in
theorem level_ext {ops:List (List UInt8)} {o:Rd1 Tm} (ho:ExtW o):ExtW (levelS ops o):=by
 intro a ns v r ns2 h
 unfold levelS at h
 cases he:o (a++EndT) ns with
 | err l e=>rw [he] at h;cases h
 | ok z r2 ns3 =>
  rw [he] at h
  simp only at h
  obtain ⟨b,rfl,hb,hx⟩:=ho _ _ _ _ _ he
  obtain ⟨b2,e1,e2,e3⟩:=chain_ext ho b.length b (Nat.le_refl _) _ _ _ _ _ h
  refine ⟨b2,e1,by omega,fun x hb2=>?_⟩
  have hbn:b≠[]:=by
   rintro rfl
   simp only [List.length_nil] at e2
   exact hb2 (List.length_eq_zero_iff.1 (by omega))
  unfold levelS
  rw [hx x hbn]
  exact e3 x hb2
end
theorem expr_ext:∀n,ExtW (exprS n)
 | 0=>fun _ _ _ _ _ h=>by cases h
 | n+1=>level_ext (level_ext (opnd_ext (expr_ext n)))
theorem cmp_app {b:List Tok} (hb:b≠[]) (x y:List Tok):cmpS (b++x)=cmpS (b++y):=by
 cases b with
 | nil=>exact absurd rfl hb
 | cons c d=>rfl
section
variable {ex:Rd1 Tm} (hex:ExtW ex)
include hex
theorem goal_ext:ExtW (goalS ex):=by
 intro a ns v r ns2 h
 cases a with
 | nil =>
  exfalso
  simp only [List.nil_append,EndT,goalS] at h
  rw [if_neg (by simp)] at h
  cases he:ex [(0,[],false)] ns with
  | err l e=>rw [he] at h;cases h
  | ok y r2 ns3 =>
   obtain ⟨b,_,hb,_⟩:=hex [] ns y r2 ns3 he
   simp at hb
 | cons c d =>
  obtain ⟨k,t,g⟩:=c
  simp only [List.cons_append,goalS] at h
  by_cases hr:k=1∧resB t=true
  ·rw [if_pos hr] at h
   by_cases t1:t=[116,114,117,101]
   ·rw [if_pos t1] at h
    injection h with h1 h2 h3
    subst h1 h2 h3
    exact ⟨d,rfl,by simp,fun x _=>by simp only [List.cons_append,goalS];rw [if_pos hr,if_pos t1]⟩
   ·rw [if_neg t1] at h
    by_cases t2:t=[102,97,105,108]
    ·rw [if_pos t2] at h
     injection h with h1 h2 h3
     subst h1 h2 h3
     exact ⟨d,rfl,by simp,fun x _=>by simp only [List.cons_append,goalS];rw [if_pos hr,if_neg t1,if_pos t2]⟩
    ·rw [if_neg t2] at h
     by_cases t3:t=[105,110,116]∨t=[103,114,111,117,110,100]
     ·rw [if_pos t3] at h
      cases hs:isS [40] (d++EndT) with
      | false=>rw [hs,if_neg (by decide)] at h;cases h
      | true =>
       obtain ⟨c2,d2,rfl,hsx⟩:=isS_true hs
       rw [hs,if_pos rfl] at h
       simp only [List.cons_append,List.tail_cons] at h
       cases he:ex (d2++EndT) ns with
       | err l e=>rw [he] at h;cases h
       | ok y r2 ns3 =>
        rw [he] at h
        simp only at h
        obtain ⟨b,rfl,hb,hx⟩:=hex _ _ _ _ _ he
        obtain ⟨hb0,d3,e1,e2,e3⟩:=want_then h
        refine ⟨d3,e1,by simp only [List.length_cons];omega,fun x _=>?_⟩
        have hsx':=hsx x
        simp only [List.cons_append] at hsx'
        simp only [List.cons_append,goalS]
        rw [if_pos hr,if_neg t1,if_neg t2,if_pos t3,hsx',if_pos rfl,List.tail_cons,hx x hb0]
        exact e3 x
     ·rw [if_neg t3] at h;cases h
  ·rw [if_neg hr] at h
   cases he:ex ((k,t,g) :: d++EndT) ns with
   | err l e=>simp only [List.cons_append] at he;rw [he] at h;cases h
   | ok y r2 ns3 =>
    obtain ⟨b,rfl,hb,hx⟩:=hex _ _ _ _ _ he
    simp only [List.cons_append] at he hx
    rw [he] at h
    simp only at h
    by_cases hc:(cmpS (b++EndT)).1=0
    ·rw [if_pos hc] at h
     by_cases hn:k=1∧y.name.data.toList=t
     ·rw [if_pos hn] at h
      injection h with h1 h2 h3
      subst h1 h2 h3
      refine ⟨b,rfl,hb,fun x hb0=>?_⟩
      simp only [List.cons_append,goalS]
      rw [if_neg hr,hx x hb0]
      simp only
      rw [cmp_app hb0 x EndT,if_pos hc,if_pos hn]
     ·rw [if_neg hn] at h;cases h
    ·rw [if_neg hc] at h
     have hb0:b≠[]:=by rintro rfl;exact hc rfl
     obtain ⟨c2,d2,rfl⟩:∃c2 d2,b=c2 :: d2:=by
      cases b with
      | nil=>exact absurd rfl hb0
      | cons c2 d2=>exact ⟨c2,d2,rfl⟩
     simp only [List.cons_append,List.tail_cons] at h
     cases he2:ex (d2++EndT) ns3 with
     | err l e=>rw [he2] at h;cases h
     | ok z r3 ns4 =>
      rw [he2] at h
      simp only at h
      injection h with h1 h2 h3
      subst h1 h2 h3
      obtain ⟨b3,rfl,hb3,hx3⟩:=hex _ _ _ _ _ he2
      simp only [List.length_cons] at hb
      refine ⟨b3,rfl,by simp only [List.length_cons];omega,fun x hb30=>?_⟩
      have hx1:=hx x (by simp)
      have hcx:cmpS (c2 :: (d2++x))=cmpS (c2 :: (d2++EndT)):=rfl
      simp only [List.cons_append] at hx1 hc
      simp only [List.cons_append,goalS]
      rw [if_neg hr,hx1]
      simp only
      rw [hcx,if_neg hc,List.tail_cons,hx3 x hb30]
theorem goals_ext (most:Nat):∀(n:Nat) (a:List Tok),a.length≤n→∀(acc:List Gs) ns v r ns2,goalsS ex most acc (a++EndT) ns=.ok v r ns2→∃b,r=b++EndT∧b.length < a.length∧∀x,b≠[]→goalsS ex most acc (a++x) ns=.ok v (b++x) ns2
 | n,a,hn,acc,ns,v,r,ns2,h=>by
  rw [goalsS] at h
  by_cases hm:most≤acc.length
  ·rw [if_pos hm] at h;cases h
  ·rw [if_neg hm] at h
   cases he:goalS ex (a++EndT) ns with
   | err l e=>rw [he] at h;cases h
   | ok y r1 ns1 =>
    rw [he] at h
    simp only at h
    obtain ⟨b,rfl,hb,hx⟩:=goal_ext hex _ _ _ _ _ he
    cases hg:rightG y with
    | false=>rw [hg,if_pos rfl] at h;cases h
    | true =>
     rw [hg,if_neg (by decide)] at h
     cases hs:isS [44] (b++EndT) with
     | true =>
      obtain ⟨c2,d2,rfl,hsx⟩:=isS_true hs
      rw [hs,if_pos rfl] at h
      simp only [List.length_cons] at hb
      rw [dif_pos (by simp only [List.cons_append,List.tail_cons,List.length_append];omega)] at h
      simp only [List.cons_append,List.tail_cons] at h
      ·match n,hn with
       | 0,hn=>omega
       | n+1,hn =>
        obtain ⟨b3,h1,h2,h3⟩:=goals_ext most n d2 (by omega) _ _ _ _ _ h
        refine ⟨b3,h1,by omega,fun x hb3=>?_⟩
        rw [goalsS,if_neg hm,hx x (by simp)]
        simp only
        rw [hg,if_neg (by decide),hsx x,if_pos rfl]
        rw [dif_pos (by simp only [List.cons_append,List.tail_cons,List.length_append];omega)]
        exact h3 x hb3
     | false =>
      rw [hs,if_neg (by decide)] at h
      injection h with h1 h2 h3
      subst h1 h2 h3
      refine ⟨b,rfl,hb,fun x hb0=>?_⟩
      rw [goalsS,if_neg hm,hx x hb0]
      simp only
      rw [hg,if_neg (by decide),isS_false hs hb0 x,if_neg (by decide)]
theorem heads_ext (before:Nat):∀(n:Nat) (a:List Tok),a.length≤n→∀(acc:List As) ns v r ns2,headsS ex before acc (a++EndT) ns=.ok v r ns2→∃b,r=b++EndT∧b.length < a.length∧∀x,b≠[]→headsS ex before acc (a++x) ns=.ok v (b++x) ns2
 | n,a,hn,acc,ns,v,r,ns2,h=>by
  rw [headsS] at h
  by_cases hm:4≤before+acc.length
  ·rw [if_pos hm] at h;cases h
  ·rw [if_neg hm] at h
   cases he:atomS ex (a++EndT) ns with
   | err l e=>rw [he] at h;cases h
   | ok y r1 ns1 =>
    rw [he] at h
    simp only at h
    obtain ⟨b,rfl,hb,hx⟩:=atom_ext hex _ _ _ _ _ he
    cases hg:rightA y.1 y.2 with
    | false=>rw [hg,if_pos rfl] at h;cases h
    | true =>
     rw [hg,if_neg (by decide)] at h
     cases hs:isS [44] (b++EndT) with
     | true =>
      obtain ⟨c2,d2,rfl,hsx⟩:=isS_true hs
      rw [hs,if_pos rfl] at h
      simp only [List.length_cons] at hb
      rw [dif_pos (by simp only [List.cons_append,List.tail_cons,List.length_append];omega)] at h
      simp only [List.cons_append,List.tail_cons] at h
      ·match n,hn with
       | 0,hn=>omega
       | n+1,hn =>
        obtain ⟨b3,h1,h2,h3⟩:=heads_ext before n d2 (by omega) _ _ _ _ _ h
        refine ⟨b3,h1,by omega,fun x hb3=>?_⟩
        rw [headsS,if_neg hm,hx x (by simp)]
        simp only
        rw [hg,if_neg (by decide),hsx x,if_pos rfl]
        rw [dif_pos (by simp only [List.cons_append,List.tail_cons,List.length_append];omega)]
        exact h3 x hb3
     | false =>
      rw [hs,if_neg (by decide)] at h
      injection h with h1 h2 h3
      subst h1 h2 h3
      refine ⟨b,rfl,hb,fun x hb0=>?_⟩
      rw [headsS,if_neg hm,hx x hb0]
      simp only
      rw [hg,if_neg (by decide),isS_false hs hb0 x,if_neg (by decide)]
end
end Go.Proofs.YtaojnljppcnhjaaGreatDoor
namespace Go.Proofs.YtaojnljppcnhjaaGreatDoor
open Go
def Suf {α:Type} (f:Rd1 α):Prop:=∀ts ns v r ns2,f ts ns=.ok v r ns2→r <:+ ts
theorem tail_suf {α:Type} (l:List α):l.tail <:+ l:=List.tail_suffix l
theorem want_suf (s:List UInt8) {α:Type} (v:α):Suf (wantS s v):=by
 intro ts ns w r ns2 h
 unfold wantS at h
 split at h
 ·injection h with _ h2 _;subst h2;exact tail_suf _
 ·cases h
theorem nm_suf:Suf nmS:=by
 intro ts ns w r ns2 h
 unfold nmS at h
 split at h
 ·cases h
 ·split at h
  ·cases h
  ·split at h
   ·cases h
   ·injection h with _ h2 _;subst h2;exact List.suffix_cons _ _
section
variable {ex:Rd1 Tm} (hex:Suf ex)
include hex
theorem args_suf:∀(n:Nat) (ts:List Tok),ts.length≤n→∀acc ns v r ns2,argsS ex acc ts ns=.ok v r ns2→r <:+ ts
 | n,ts,hn,acc,ns,v,r,ns2,h=>by
  rw [argsS] at h
  split at h
  ·cases h
  ·rename_i y r1 ns1 he
   have h1:=(hex _ _ _ _ _ he).trans (tail_suf ts)
   split at h
   ·split at h
    ·rename_i hl
     match n,hn with
     | 0,hn=>omega
     | n+1,hn=>exact (args_suf n r1 (by omega) _ _ _ _ _ h).trans h1
    ·cases h
   ·exact (want_suf _ _ _ _ _ _ _ h).trans h1
theorem atom_suf:Suf (atomS ex):=by
 intro ts ns v r ns2 h
 unfold atomS at h
 split at h
 ·cases h
 ·rename_i t r1 ns1 he
  have h1:=nm_suf _ _ _ _ _ he
  split at h
  ·split at h
   ·rename_i l r2 ns3 ha
    injection h with _ h2 _;subst h2
    exact (args_suf hex _ _ (Nat.le_refl _) _ _ _ _ _ ha).trans h1
   ·cases h
  ·injection h with _ h2 _;subst h2;exact h1
theorem opnd_suf:Suf (opndS ex):=by
 intro ts ns v r ns2 h
 unfold opndS at h
 split at h
 ·cases h
 ·rename_i k t g d
  split at h
  ·injection h with _ h2 _;subst h2;exact List.suffix_cons _ _
  ·split at h
   ·injection h with _ h2 _;subst h2;exact List.suffix_cons _ _
   ·split at h
    ·split at h
     ·rename_i x r2 ns3 ha
      injection h with _ h2 _;subst h2
      exact atom_suf hex _ _ _ _ _ ha
     ·cases h
    ·split at h
     ·split at h
      ·cases h
      ·rename_i k2 t2 g2 r2
       split at h
       ·injection h with _ h2 _;subst h2
        exact (List.suffix_cons _ _).trans (List.suffix_cons _ _)
       ·cases h
     ·split at h
      ·split at h
       ·rename_i x r2 ns3 he
        exact ((want_suf _ _ _ _ _ _ _ h).trans (hex _ _ _ _ _ he)).trans (List.suffix_cons _ _)
       ·cases h
      ·cases h
omit hex in
theorem chain_suf {ops:List (List UInt8)} {o:Rd1 Tm} (ho:Suf o):∀(n:Nat) (ts:List Tok),ts.length≤n→∀y ns v r ns2,chainS ops o y ts ns=.ok v r ns2→r <:+ ts
 | n,ts,hn,y,ns,v,r,ns2,h=>by
  cases ts with
  | nil =>
   rw [chainS] at h
   injection h with _ h2 _;subst h2;exact List.suffix_refl _
  | cons c d =>
   obtain ⟨k,t,g⟩:=c
   rw [chainS] at h
   split at h
   ·split at h
    ·rename_i z r2 ns3 he
     have h1:=(ho _ _ _ _ _ he).trans (List.suffix_cons (k,t,g) d)
     split at h
     ·rename_i hl
      match n,hn with
      | 0,hn=>simp at hn
      | n+1,hn=>exact (chain_suf ho n r2 (by omega) _ _ _ _ _ h).trans h1
     ·cases h
    ·cases h
   ·injection h with _ h2 _;subst h2;exact List.suffix_refl _
omit hex in
theorem level_suf {ops:List (List UInt8)} {o:Rd1 Tm} (ho:Suf o):Suf (levelS ops o):=by
 intro ts ns v r ns2 h
 unfold levelS at h
 split at h
 ·rename_i x r1 ns1 he
  exact (chain_suf ho _ _ (Nat.le_refl _) _ _ _ _ _ h).trans (ho _ _ _ _ _ he)
 ·cases h
end
theorem expr_suf:∀n,Suf (exprS n)
 | 0=>fun _ _ _ _ _ h=>by cases h
 | n+1=>level_suf (level_suf (opnd_suf (expr_suf n)))
section
variable {ex:Rd1 Tm} (hex:Suf ex)
include hex
theorem goal_suf:Suf (goalS ex):=by
 intro ts ns v r ns2 h
 unfold goalS at h
 split at h
 ·cases h
 ·rename_i k t g d
  split at h
  ·split at h
   ·injection h with _ h2 _;subst h2;exact List.suffix_cons _ _
   ·split at h
    ·injection h with _ h2 _;subst h2;exact List.suffix_cons _ _
    ·split at h
     ·split at h
      ·split at h
       ·rename_i x r2 ns3 he
        exact (((want_suf _ _ _ _ _ _ _ h).trans (hex _ _ _ _ _ he)).trans (tail_suf _)).trans (List.suffix_cons _ _)
       ·cases h
      ·cases h
     ·cases h
  ·split at h
   ·cases h
   ·rename_i x r2 ns3 he
    have h1:=hex _ _ _ _ _ he
    split at h
    ·split at h
     ·injection h with _ h2 _;subst h2;exact h1
     ·cases h
    ·split at h
     ·rename_i y r3 ns4 he2
      injection h with _ h2 _;subst h2
      exact ((hex _ _ _ _ _ he2).trans (tail_suf _)).trans h1
     ·cases h
theorem goals_suf (most:Nat):∀(n:Nat) (ts:List Tok),ts.length≤n→∀acc ns v r ns2,goalsS ex most acc ts ns=.ok v r ns2→r <:+ ts
 | n,ts,hn,acc,ns,v,r,ns2,h=>by
  rw [goalsS] at h
  split at h
  ·cases h
  ·split at h
   ·cases h
   ·rename_i y r1 ns1 he
    have h1:=goal_suf hex _ _ _ _ _ he
    split at h
    ·cases h
    ·split at h
     ·split at h
      ·rename_i hl
       match n,hn with
       | 0,hn=>omega
       | n+1,hn=>exact ((goals_suf most n r1.tail (by omega) _ _ _ _ _ h).trans (tail_suf _)).trans h1
      ·cases h
     ·injection h with _ h2 _;subst h2;exact h1
theorem heads_suf (before:Nat):∀(n:Nat) (ts:List Tok),ts.length≤n→∀acc ns v r ns2,headsS ex before acc ts ns=.ok v r ns2→r <:+ ts
 | n,ts,hn,acc,ns,v,r,ns2,h=>by
  rw [headsS] at h
  split at h
  ·cases h
  ·split at h
   ·cases h
   ·rename_i y r1 ns1 he
    have h1:=atom_suf hex _ _ _ _ _ he
    split at h
    ·cases h
    ·split at h
     ·split at h
      ·rename_i hl
       match n,hn with
       | 0,hn=>omega
       | n+1,hn=>exact ((heads_suf before n r1.tail (by omega) _ _ _ _ _ h).trans (tail_suf _)).trans h1
      ·cases h
     ·injection h with _ h2 _;subst h2;exact h1
theorem both_suf:Suf (bothS ex):=by
 intro ts ns v r ns2 h
 unfold bothS at h
 split at h
 ·cases h
 ·rename_i y r1 ns1 he
  have h1:=heads_suf hex 0 _ _ (Nat.le_refl _) _ _ _ _ _ he
  split at h
  ·injection h with _ h2 _;subst h2;exact (tail_suf _).trans h1
  ·split at h
   ·injection h with _ h2 _;subst h2;exact (tail_suf _).trans h1
   ·split at h
    ·split at h
     ·cases h
     ·rename_i z r2 ns3 he2
      have h3:=((heads_suf hex _ _ _ (Nat.le_refl _) _ _ _ _ _ he2).trans (tail_suf _)).trans h1
      split at h
      ·injection h with _ h2 _;subst h2;exact (tail_suf _).trans h3
      ·cases h
    ·cases h
theorem goals2_suf:Suf (goals2S ex):=by
 intro ts ns v r ns2 h
 unfold goals2S at h
 split at h
 ·cases h
 ·rename_i y r1 ns1 he
  have h1:=goals_suf hex _ _ _ (Nat.le_refl _) _ _ _ _ _ he
  split at h
  ·split at h
   ·cases h
   ·rename_i z r2 ns3 he2
    exact (((want_suf _ _ _ _ _ _ _ h).trans (goals_suf hex _ _ _ (Nat.le_refl _) _ _ _ _ _ he2)).trans (tail_suf _)).trans h1
  ·exact (want_suf _ _ _ _ _ _ _ h).trans h1
omit hex in
theorem label_suf:Suf labelS:=by
 intro ts ns v r ns2 h
 unfold labelS at h
 split at h
 ·injection h with _ h2 _;subst h2;exact List.suffix_refl _
 ·split at h
  ·split at h
   ·rename_i t r2 ns3 he
    injection h with _ h2 _;subst h2
    exact (tail_suf _).trans (nm_suf _ _ _ _ _ he)
   ·cases h
  ·injection h with _ h2 _;subst h2;exact List.suffix_refl _
theorem parts_suf:Suf (partsS ex):=by
 intro ts ns v r ns2 h
 unfold partsS at h
 split at h
 ·cases h
 ·rename_i y r1 ns1 he
  split at h
  ·cases h
  ·rename_i z r2 ns3 he2
   split at h
   ·cases h
   ·rename_i w r3 ns4 he3
    injection h with _ h2 _;subst h2
    exact ((goals2_suf hex _ _ _ _ _ he3).trans (both_suf hex _ _ _ _ _ he2)).trans (label_suf _ _ _ _ _ he)
theorem rule_suf {ts:List Tok} {v:Rs} {r:List Tok} {ns2:List (List UInt8)} (h:ruleS ex ts=.ok v r ns2):r <:+ ts:=by
 unfold ruleS at h
 split at h
 ·cases h
 ·rename_i y r1 ns1 he
  injection h with _ h2 _;subst h2
  exact parts_suf hex _ _ _ _ _ he
end
theorem decls_suf:∀(n:Nat) (ts:List Tok),ts.length≤n→∀acc v r ns2,declsS acc ts=.ok v r ns2→r <:+ ts
 | n,ts,hn,acc,v,r,ns2,h=>by
  rw [declsS] at h
  split at h
  ·cases h
  ·split at h
   ·cases h
   ·rename_i t r1 ns1 he
    have h1:=(nm_suf _ _ _ _ _ he).trans (tail_suf ts)
    split at h
    ·cases h
    ·rename_i u r2 ns3 he2
     have h2:=(want_suf _ _ _ _ _ _ _ he2).trans h1
     split at h
     ·cases h
     ·rename_i k d g r3
      have h3:=(List.suffix_cons (k,d,g) r3).trans h2
      split at h
      ·cases h
      ·split at h
       ·cases h
       ·split at h
        ·split at h
         ·rename_i hl
          match n,hn with
          | 0,hn=>omega
          | n+1,hn=>exact (decls_suf n r3 (by omega) _ _ _ _ h).trans h3
         ·cases h
        ·exact (want_suf _ _ _ _ _ _ _ h).trans h3
theorem allDecls_suf:∀(n:Nat) (ts:List Tok),ts.length≤n→∀acc v r ns2,allDecls acc ts=.ok v r ns2→r <:+ ts
 | n,ts,hn,acc,v,r,ns2,h=>by
  rw [allDecls] at h
  split at h
  ·split at h
   ·rename_i l r1 ns1 he
    split at h
    ·rename_i hl
     match n,hn with
     | 0,hn=>omega
     | n+1,hn=>exact (allDecls_suf n r1 (by omega) _ _ _ _ h).trans (decls_suf _ _ (Nat.le_refl _) _ _ _ _ he)
    ·cases h
   ·cases h
  ·injection h with _ h2 _;subst h2;exact List.suffix_refl _
end Go.Proofs.YtaojnljppcnhjaaGreatDoor
namespace Go.Proofs.YtaojnljppcnhjaaGreatDoor
open Go
section
variable {ex:Rd1 Tm} (hex:ExtW ex)
include hex
theorem both_ext:∀a ns v r ns2,bothS ex (a++EndT) ns=.ok v r ns2→∃b,r=b++EndT∧b.length+1 < a.length∧∀x,bothS ex (a++x) ns=.ok v (b++x) ns2:=by
 intro a ns v r ns2 h
 unfold bothS at h
 cases he:headsS ex 0 [] (a++EndT) ns with
 | err l e=>rw [he] at h;cases h
 | ok y r1 ns1 =>
  rw [he] at h
  simp only at h
  obtain ⟨b,rfl,hb,hx⟩:=heads_ext hex 0 _ a (Nat.le_refl _) _ _ _ _ _ he
  cases s1:isS [60,61,62] (b++EndT) with
  | true =>
   obtain ⟨c,d,rfl,hs⟩:=isS_true s1
   rw [s1,if_pos rfl] at h
   injection h with h1 h2 h3
   subst h1 h2 h3
   simp only [List.length_cons] at hb
   refine ⟨d,rfl,by omega,fun x=>?_⟩
   unfold bothS
   rw [hx x (by simp)]
   simp only
   rw [hs x,if_pos rfl];rfl
  | false =>
   rw [s1,if_neg (by decide)] at h
   cases s2:isS [61,61,62] (b++EndT) with
   | true =>
    obtain ⟨c,d,rfl,hs⟩:=isS_true s2
    rw [s2,if_pos rfl] at h
    injection h with h1 h2 h3
    subst h1 h2 h3
    simp only [List.length_cons] at hb
    refine ⟨d,rfl,by omega,fun x=>?_⟩
    unfold bothS
    rw [hx x (by simp)]
    simp only
    rw [isS_false s1 (by simp) x,if_neg (by decide),hs x,if_pos rfl];rfl
   | false =>
    rw [s2,if_neg (by decide)] at h
    cases s3:isS [92] (b++EndT) with
    | false=>rw [s3,if_neg (by decide)] at h;cases h
    | true =>
     obtain ⟨c,d,rfl,hs⟩:=isS_true s3
     rw [s3,if_pos rfl] at h
     simp only [List.cons_append,List.tail_cons] at h
     cases he2:headsS ex y.length [] (d++EndT) ns1 with
     | err l e=>rw [he2] at h;cases h
     | ok z r2 ns3 =>
      rw [he2] at h
      simp only at h
      obtain ⟨b2,rfl,hb2,hx2⟩:=heads_ext hex _ _ d (Nat.le_refl _) _ _ _ _ _ he2
      cases s4:isS [60,61,62] (b2++EndT) with
      | false=>rw [s4,if_neg (by decide)] at h;cases h
      | true =>
       obtain ⟨c2,d2,rfl,hs2⟩:=isS_true s4
       rw [s4,if_pos rfl] at h
       injection h with h1 h2 h3
       subst h1 h2 h3
       simp only [List.length_cons] at hb hb2
       refine ⟨d2,rfl,by omega,fun x=>?_⟩
       have i1:=isS_false s1 (by simp) x
       have i2:=isS_false s2 (by simp) x
       have i3:=hs x
       have i4:=hx x (by simp)
       unfold bothS
       rw [i4]
       simp only
       rw [i1,if_neg (by decide),i2,if_neg (by decide),i3,if_pos rfl]
       simp only [List.cons_append,List.tail_cons]
       rw [hx2 x (by simp)]
       simp only
       rw [hs2 x,if_pos rfl];rfl
theorem goals2_ext:ExtS (goals2S ex):=by
 intro a ns v r ns2 h
 unfold goals2S at h
 cases he:goalsS ex 12 [] (a++EndT) ns with
 | err l e=>rw [he] at h;cases h
 | ok y r1 ns1 =>
  rw [he] at h
  simp only at h
  obtain ⟨b,rfl,hb,hx⟩:=goals_ext hex 12 _ a (Nat.le_refl _) _ _ _ _ _ he
  cases s1:isS [124] (b++EndT) with
  | true =>
   obtain ⟨c,d,rfl,hs⟩:=isS_true s1
   rw [s1,if_pos rfl] at h
   simp only [List.cons_append,List.tail_cons] at h
   cases he2:goalsS ex 12 [] (d++EndT) ns1 with
   | err l e=>rw [he2] at h;cases h
   | ok z r2 ns3 =>
    rw [he2] at h
    simp only at h
    obtain ⟨b2,rfl,hb2,hx2⟩:=goals_ext hex 12 _ d (Nat.le_refl _) _ _ _ _ _ he2
    obtain ⟨hb0,d2,e1,e2,e3⟩:=want_then h
    simp only [List.length_cons] at hb
    refine ⟨d2,e1,by omega,fun x=>?_⟩
    have i4:=hx x (by simp)
    have i3:=hs x
    unfold goals2S
    rw [i4]
    simp only
    rw [i3,if_pos rfl]
    simp only [List.cons_append,List.tail_cons]
    rw [hx2 x hb0]
    exact e3 x
  | false =>
   rw [s1,if_neg (by decide)] at h
   obtain ⟨hb0,d2,e1,e2,e3⟩:=want_then h
   refine ⟨d2,e1,by omega,fun x=>?_⟩
   unfold goals2S
   rw [hx x hb0]
   simp only
   rw [isS_false s1 hb0 x,if_neg (by decide)]
   exact e3 x
theorem parts_ext:ExtS (partsS ex):=by
 intro a ns v r ns2 h
 unfold partsS at h
 cases he:labelS (a++EndT) ns with
 | err l e=>rw [he] at h;cases h
 | ok y r1 ns1 =>
  rw [he] at h
  simp only at h
  cases he2:bothS ex r1 ns1 with
  | err l e=>rw [he2] at h;cases h
  | ok z r2 ns3 =>
   rw [he2] at h
   simp only at h
   cases he3:goals2S ex r2 ns3 with
   | err l e=>rw [he3] at h;cases h
   | ok w r3 ns4 =>
    rw [he3] at h
    injection h with h1 h2 h3
    subst h1 h2 h3
    have hlab:∃b,r1=b++EndT∧b.length≤a.length∧(1 < b.length→∀x,labelS (a++x) ns=.ok y (b++x) ns1):=by
     cases a with
     | nil =>
      have e:labelS (([]:List Tok)++EndT) ns=.ok [] EndT ns:=by
       simp only [List.nil_append,EndT,labelS]
       rw [if_neg (by simp)]
      rw [e] at he
      injection he with h1 h2 h3
      exact ⟨[],h2.symm,Nat.le_refl _,fun h=>by simp at h⟩
     | cons c d =>
      obtain ⟨k,t,g⟩:=c
      simp only [List.cons_append,labelS] at he
      by_cases hk:k=1∧isS [64] (d++EndT)=true
      ·rw [if_pos hk] at he
       obtain ⟨c2,d2,rfl,hs⟩:=isS_true hk.2
       cases hm:nmS ((k,t,g) :: (c2 :: d2++EndT)) ns with
       | err l e=>rw [hm] at he;cases he
       | ok u r4 ns5 =>
        rw [hm] at he
        simp only at he
        injection he with h1 h2 h3
        subst h1 h2 h3
        have hm2:nmS ((k,t,g) :: (c2 :: d2++EndT)) ns=.ok u r4 ns5:=hm
        have hne:r4=c2 :: d2++EndT∧u=t∧ns5=ns:=by
         simp only [nmS] at hm2
         rw [if_neg (by simp [hk.1])] at hm2
         split at hm2
         ·cases hm2
         ·injection hm2 with h1 h2 h3;exact ⟨h2.symm,h1.symm,h3.symm⟩
        obtain ⟨rfl,rfl,rfl⟩:=hne
        refine ⟨d2,rfl,by simp only [List.length_cons];omega,fun _ x=>?_⟩
        obtain ⟨b5,q1,q2,q3⟩:=nm_ext ((k,u,g) :: c2 :: d2) _ _ _ _ hm
        have hb5:b5=c2 :: d2:=List.append_cancel_right q1.symm
        subst hb5
        have q4:=q3 x
        have i1:=hs x
        simp only [List.cons_append] at q4 i1
        simp only [List.cons_append,labelS]
        rw [if_pos ⟨hk.1,i1⟩,q4];rfl
      ·rw [if_neg hk] at he
       injection he with h1 h2 h3
       subst h1 h2 h3
       refine ⟨(k,t,g) :: d,rfl,Nat.le_refl _,fun hd x=>?_⟩
       have hd0:d≠[]:=by rintro rfl;simp at hd
       simp only [List.cons_append,labelS]
       rw [if_neg fun hh=>hk ⟨hh.1,?_⟩]
       cases d with
       | nil=>exact absurd rfl hd0
       | cons c2 d2=>exact hh.2
    obtain ⟨b1,rfl,hb1,hx1⟩:=hlab
    obtain ⟨b2,rfl,hb2,hx2⟩:=both_ext hex _ _ _ _ _ he2
    obtain ⟨b3,rfl,hb3,hx3⟩:=goals2_ext hex _ _ _ _ _ he3
    refine ⟨b3,rfl,by omega,fun x=>?_⟩
    unfold partsS
    rw [hx1 (by omega) x]
    simp only
    rw [hx2 x]
    simp only
    rw [hx3 x]
theorem rule_ext {a:List Tok} {v:Rs} {r:List Tok} {ns2:List (List UInt8)} (h:ruleS ex (a++EndT)=.ok v r ns2):∃b,r=b++EndT∧b.length < a.length∧∀x,ruleS ex (a++x)=.ok v (b++x) ns2:=by
 unfold ruleS at h
 cases he:partsS ex (a++EndT) [] with
 | err l e=>rw [he] at h;cases h
 | ok y r1 ns1 =>
  rw [he] at h
  injection h with h1 h2 h3
  subst h1 h2 h3
  obtain ⟨b,rfl,hb,hx⟩:=parts_ext hex _ _ _ _ _ he
  refine ⟨b,rfl,hb,fun x=>?_⟩
  unfold ruleS
  rw [hx x]
end
def NoEnd (l:List Tok):Prop:=∀t∈l,t.1≠0
theorem NoEnd.suffix {a b:List Tok} (h:NoEnd a) (hs:b++EndT <:+ a++EndT):NoEnd b:=by
 obtain ⟨c,hc⟩:=hs
 rw [←List.append_assoc] at hc
 have:=List.append_cancel_right hc
 intro t ht
 exact h t (by rw [←this];exact List.mem_append_right _ ht)
theorem rules_app {ex:Rd1 Tm} (hex:ExtW ex) (hsx:Suf ex) {y:List Tok} {q:Rs} {nq:List (List UInt8)} (hy:ruleS ex (y++EndT)=.ok q EndT nq) (hyn:NoEnd y):∀(n:Nat) (a:List Tok),a.length≤n→NoEnd a→∀acc l r ns,rulesS ex acc (a++EndT)=.ok l r ns→l.length < 40→rulesS ex acc (a++(y++EndT))=.ok (l++[q]) EndT []
 | n,a,hn,hna,acc,l,r,ns,h,hl=>by
  cases a with
  | nil =>
   simp only [List.nil_append,EndT] at h
   rw [rulesS,if_pos rfl] at h
   injection h with h1 _ _
   subst h1
   obtain ⟨c,d,rfl⟩:∃c d,y=c :: d:=by
    cases y with
    | nil =>
     obtain ⟨b,_,hb,_⟩:=rule_ext hex hy
     simp at hb
    | cons c d=>exact ⟨c,d,rfl⟩
   obtain ⟨k,t,g⟩:=c
   have hk:k≠0:=hyn (k,t,g) (by simp)
   have hy':ruleS ex ((k,t,g) :: (d++EndT))=.ok q EndT nq:=hy
   rw [List.nil_append,List.cons_append,rulesS,if_neg hk,if_neg (by omega),hy']
   simp only
   rw [dif_pos (by simp only [List.length_cons,List.length_append,EndT,List.length_nil];omega)]
   simp only [EndT]
   rw [rulesS,if_pos rfl]
  | cons c d =>
   obtain ⟨k,t,g⟩:=c
   have hk:k≠0:=hna (k,t,g) (by simp)
   simp only [List.cons_append] at h ⊢
   rw [rulesS,if_neg hk] at h
   by_cases h40:40≤acc.length
   ·rw [if_pos h40] at h;cases h
   ·rw [if_neg h40] at h
    cases he:ruleS ex ((k,t,g) :: d++EndT) with
    | err l e=>simp only [List.cons_append] at he;rw [he] at h;cases h
    | ok z r2 ns3 =>
     obtain ⟨b,rfl,hb,hx⟩:=rule_ext hex he
     have hsuf:=rule_suf hsx he
     simp only [List.cons_append] at he
     rw [he] at h
     simp only at h
     simp only [List.length_cons] at hb
     rw [dif_pos (by simp only [List.length_cons,List.length_append];omega)] at h
     match n,hn with
     | 0,hn=>simp at hn
     | n+1,hn =>
      simp only [List.length_cons] at hn
      have ih:=rules_app hex hsx hy hyn n b (by omega) (hna.suffix hsuf) _ _ _ _ h hl
      have hx2:=hx (y++EndT)
      simp only [List.cons_append] at hx2
      rw [rulesS,if_neg hk,if_neg h40,hx2]
      simp only
      rw [dif_pos (by simp only [List.length_cons,List.length_append];omega)]
      exact ih
end Go.Proofs.YtaojnljppcnhjaaGreatDoor
