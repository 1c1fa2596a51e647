/-
  PgProgM.
  PgProg.
  PgWhole0.
 PgWholeP.
-/
import Derived.Test.YtnghanpmmbcbbaaGreatDoorMq26
import Derived.Test.YtnghanpmmbcbbaaGreatDoorMq3
import Derived.Test.YtnghanpmmbcbbaaGreatDoorMq16
import Derived.Test.YtnghanpmmbcbbaaGreatDoorMq17
namespace Go.Proofs.YtnghanpmmbcbbaaGreatDoor
open Go.RowKit
structure Ru where
 t:List UInt8
 ks:List Am
 rs:List Am
 gs:List Gl
 bs:List Gl
 kA:Option Addr
 kc:Nat
 rA:Option Addr
 rc:Nat
 gA:Option Addr
 gc:Nat
 bA:Option Addr
 bc:Nat
 n:Nat
def Ru.kv (x:Ru):Value:=.slice x.kA x.ks.length x.kc
def Ru.rv (x:Ru):Value:=.slice x.rA x.rs.length x.rc
def Ru.gv (x:Ru):Value:=.slice x.gA x.gs.length x.gc
def Ru.bv (x:Ru):Value:=.slice x.bA x.bs.length x.bc
def Ru.cells (x:Ru):List Value:=[.string (S x.t),.slice x.kA x.ks.length x.kc,.slice x.rA x.rs.length x.rc,.slice x.gA x.gs.length x.gc,.slice x.bA x.bs.length x.bc,.int .i64 (x.n:Int)]
def Ru.p (x:Ru):Rs:=ruP x.t x.ks x.rs x.gs x.bs x.n
structure Ru.Own (x:Ru) (b:Nat):Prop where
 h:x.kv.ownBlock=some b∨x.rv.ownBlock=some b∨x.gv.ownBlock=some b∨x.bv.ownBlock=some b∨b∈elAm.blkL x.ks∨b∈elAm.blkL x.rs∨b∈elGl.blkL x.gs∨b∈elGl.blkL x.bs
structure Ru.At (lo:Nat) (w:World) (x:Ru):Prop where
 name:x.t.length≤16384
 k:RowG elAm 66 lo w x.kv x.ks
 r:RowG elAm 66 lo w x.rv x.rs
 g:RowG elGl 59 lo w x.gv x.gs
 b:RowG elGl 59 lo w x.bv x.bs
section
variable {lo:Nat} {w w':World} {x:Ru} {r:Value} {l:List Ru}
theorem Ru.At.own (h:x.At lo w) {b:Nat} (hb:x.Own b):lo≤b∧b < w.heap.size:=by
 rcases hb.h with e|e|e|e|e|e|e|e
 ·exact own_lt h.k.row b e
 ·exact own_lt h.r.row b e
 ·exact own_lt h.g.row b e
 ·exact own_lt h.b.row b e
 ·exact h.k.sit.bd b e
 ·exact h.r.sit.bd b e
 ·exact h.g.sit.bd b e
 ·exact h.b.sit.bd b e
theorem Ru.At.frame (h:x.At lo w) (hs:w.heap.size≤w'.heap.size) (hb:∀b,x.Own b→w'.heap[b]?=w.heap[b]?):x.At lo w' :=
 ⟨h.name,h.k.only hs (fun k e=>hb k ⟨.inl e⟩) (fun k e=>hb k ⟨.inr (.inr (.inr (.inr (.inl e))))⟩),
  h.r.only hs (fun k e=>hb k ⟨.inr (.inl e)⟩) (fun k e=>hb k ⟨.inr (.inr (.inr (.inr (.inr (.inl e)))))⟩),
  h.g.only hs (fun k e=>hb k ⟨.inr (.inr (.inl e))⟩) (fun k e=>hb k ⟨.inr (.inr (.inr (.inr (.inr (.inr (.inl e))))))⟩),
  h.b.only hs (fun k e=>hb k ⟨.inr (.inr (.inr (.inl e)))⟩) (fun k e=>hb k ⟨.inr (.inr (.inr (.inr (.inr (.inr (.inr e))))))⟩)⟩
theorem Ru.At.low {lo':Nat} (h:x.At lo w) (hl:lo'≤lo):x.At lo' w:=⟨h.name,h.k.low hl,h.r.low hl,h.g.low hl,h.b.low hl⟩
def rcells (l:List Ru):List Value:=l.flatMap Ru.cells
theorem rcells_append (l m:List Ru):rcells (l++m)=rcells l++rcells m:=by simp [rcells]
theorem rcells_one (x:Ru):rcells [x]=x.cells:=by simp [rcells]
theorem ru_one (x:Ru):∀v∈x.cells,v.oneCell'=true:=fun v hv=>by
 simp only [Ru.cells,List.mem_cons,List.not_mem_nil,or_false] at hv
 rcases hv with rfl|rfl|rfl|rfl|rfl|rfl<;>rfl
structure RowR (lo:Nat) (w:World) (r:Value) (l:List Ru):Prop where
 row:w.ownsRow lo 25 6 r l.length (rcells l)
 at_:∀x∈l,x.At lo w
 apart:∀k,r.ownBlock=some k→∀x∈l,¬x.Own k
theorem RowR.nil (lo:Nat) (w:World):RowR lo w (.slice none 0 0) []:=⟨⟨by simp [rcells],.inl ⟨rfl,rfl⟩⟩,fun _ h=>(by cases h),fun k hk=>(by cases hk)⟩
theorem RowR.frame (h:RowR lo w r l) (hs:w.heap.size≤w'.heap.size) (hb:∀b,lo≤b→b < w.heap.size→w'.heap[b]?=w.heap[b]?):RowR lo w' r l :=
 ⟨own_of h.row fun k hk=>hb k (own_lt h.row k hk).1 (own_lt h.row k hk).2,fun x hx=>(h.at_ x hx).frame hs fun b hbx=>hb b ((h.at_ x hx).own hbx).1 ((h.at_ x hx).own hbx).2,h.apart⟩
theorem RowR.below (h:RowR lo w r l) (hb:Below w.heap.size w w'):RowR lo w' r l:=h.frame hb.size fun b _ h2=>hb.block b h2
theorem RowR.kq {R:Nat} (h:RowR lo w r l) (k:Kp R Z0 Z0 w w') (hR:R < lo):RowR lo w' r l:=h.frame k.size fun b h1 h2=>k.block b h2 (by omega) (Z0_own b)
theorem RowR.zform (h:RowR lo w r l):∃B cap,r=.slice B l.length cap:=by
 rcases h.row.2 with ⟨e,h1⟩|⟨g,cap,cur,e,_⟩
 ·exact ⟨none,0,by rw [e,h1]⟩
 ·exact ⟨_,cap,e⟩
theorem RowR.low {lo':Nat} (h:RowR lo w r l) (hl:lo'≤lo):RowR lo' w r l:=⟨own_low h.row hl,fun x hx=>(h.at_ x hx).low hl,h.apart⟩
theorem RowR.next {m g cap:Nat} {w2 w3 w4:World} {u:Ru} (h:RowR lo w2 r l) (hm:lo≤m) (hrm:∀k,r.ownBlock=some k→k < m) (hu:u.At m w2) (hb:Below w2.heap.size w2 w3)
  (hown:w4.ownsRow lo 25 6 (.slice (some ⟨g,0,none⟩) (l.length+1) cap) (l.length+1) (rcells l++u.cells)) (hg:w3.grownBy w4 r.ownBlock) (hat:r.ownBlock=some g∨g=w3.heap.size) :
  RowR lo w4 (.slice (some ⟨g,0,none⟩) (l.length+1) cap) (l++[u]):=by
 have hall:∀x∈l++[u],x.At lo w2:=fun x hx=>by
  rcases List.mem_append.1 hx with hx|hx
  ·exact h.at_ x hx
  ·rw [List.mem_singleton.1 hx];exact hu.low hm
 have hap:∀k,r.ownBlock=some k→∀x∈l++[u],¬x.Own k:=fun k hk x hx=>by
  rcases List.mem_append.1 hx with hx|hx
  ·exact h.apart k hk x hx
  ·rw [List.mem_singleton.1 hx]
   intro ho
   have:=hrm k hk
   have:=(hu.own ho).1
   omega
 refine ⟨by rw [List.length_append,rcells_append,rcells_one];simpa using hown,fun x hx=>?_,fun k hk x hx ho=>?_⟩
 ·have h2:=hall x hx
  refine h2.frame (Nat.le_trans hb.size hg.size) fun b hbx=>?_
  have hlt:=(h2.own hbx).2
  exact (hg.block b (Nat.lt_of_lt_of_le hlt hb.size) fun e=>hap b e.symm x hx hbx).trans (hb.block b hlt)
 ·have e':g=k:=by simpa [Value.ownBlock] using hk
  subst e'
  rcases hat with h1|h1
  ·exact hap g h1 x hx ho
  ·have:=((hall x hx).own ho).2
   have:=hb.size
   omega
end
theorem ru_of {lo:Nat} {w:World} {t:List UInt8} {ks rs:List Am} {gs bs:List Gl} {kA rA gA bA:Option Addr} {kn kc rn rc gn gc bn bc n:Nat} (h:RuAt lo w t ks rs gs bs (.slice kA kn kc) (.slice rA rn rc) (.slice gA gn gc) (.slice bA bn bc)) :
  kn=ks.length∧rn=rs.length∧gn=gs.length∧bn=bs.length∧Ru.At lo w ⟨t,ks,rs,gs,bs,kA,kc,rA,rc,gA,gc,bA,bc,n⟩:=by
 obtain ⟨ht,M,m1,m2,m3,_,h⟩:=h
 obtain ⟨_,_,e1⟩:=h.k.zform
 obtain ⟨_,_,e2⟩:=h.r.zform
 obtain ⟨_,_,e3⟩:=h.g.zform
 obtain ⟨_,_,e4⟩:=h.b.zform
 injection e1 with _ e1 _
 injection e2 with _ e2 _
 injection e3 with _ e3 _
 injection e4 with _ e4 _
 have o1:=h.o1
 have o2:=h.o2
 have o3:=h.o3
 subst e1 e2 e3 e4
 exact ⟨rfl,rfl,rfl,rfl,ht,h.k,h.r.low o1,h.g.low (by omega),h.b.low (by omega)⟩
theorem rowDl {lo:Nat} {w:World} {r:Value} {ds:List Dl} (h:w.ownsRow lo 38 2 r ds.length (elDl.cellsL ds)):RowG elDl 38 lo w r ds :=
 have e:elDl.blkL ds=[]:=by
  rw [Elt.blkL,List.flatMap_eq_nil_iff]
  exact fun _ _=>rfl
 ⟨h,⟨fun _ _=>trivial,by rw [e];simp,fun b hb=>(by rw [e] at hb;cases hb),fun b hb=>(by rw [e] at hb;cases hb)⟩,fun k _ hk=>(by rw [e] at hk;cases hk)⟩
theorem isW_left {l:List Tk} (hg:GoodT l) {i:Nat} (hi:i < l.length) {s:List UInt8} (hs:kindO s=1):isW s (leftT l i)=((l.getD i default).2.2==s):=by
 rw [left_cons hi,hg.acc hi hs]
 rfl
theorem all_word {acc v:List Dl} {ts r:List Tok} {ns:List (List UInt8)} (hw:isW constraintW ts=true) (ha:acc.length≤30) (h:declarS (30 - acc.length) ts.tail=.ok v r ns) (hl:r.length < ts.length):allDecls acc ts=allDecls (acc++v) r:=by
 rw [allDecls,hw,if_pos rfl,decls_next acc ts ha,h]
 simp only
 rw [dif_pos hl]
theorem all_err {acc:List Dl} {ts:List Tok} {n:Nat} {e:Int} (hw:isW constraintW ts=true) (ha:acc.length≤30) (h:declarS (30 - acc.length) ts.tail=.err n e):allDecls acc ts=.err n e:=by
 rw [allDecls,hw,if_pos rfl,decls_next acc ts ha,h]
theorem all_end {acc:List Dl} {ts:List Tok} (hw:isW constraintW ts=false):allDecls acc ts=.ok acc ts []:=by
 rw [allDecls,hw,if_neg (by decide)]
section
variable {ex:Rd1 Tm} {acc:List Rs} {l:List Tk} {i:Nat}
theorem rules_end (hi:i < l.length) (h:(l.getD i default).1=0):rulesS ex acc (leftT l i)=.ok acc (leftT l i) []:=by
 rw [left_cons hi,rulesS,if_pos h]
theorem rules_much (hi:i < l.length) (h:(l.getD i default).1≠0) (h4:40≤acc.length):rulesS ex acc (leftT l i)=.err (leftT l i).length 6:=by
 rw [left_cons hi,rulesS,if_neg h,if_pos h4]
theorem rules_next {q:Rs} {r:List Tok} {ns:List (List UInt8)} (hi:i < l.length) (h:(l.getD i default).1≠0) (h4:¬40≤acc.length) (hq:ruleS ex (leftT l i)=.ok q r ns) (hl:r.length < (leftT l i).length):rulesS ex acc (leftT l i)=rulesS ex (acc++[q]) r:=by
 rw [left_cons hi] at hq hl ⊢
 rw [rulesS,if_neg h,if_neg h4,hq]
 simp only
 rw [dif_pos hl]
theorem rules_err {n:Nat} {e:Int} (hi:i < l.length) (h:(l.getD i default).1≠0) (h4:¬40≤acc.length) (hq:ruleS ex (leftT l i)=.err n e):rulesS ex acc (leftT l i)=.err n e:=by
 rw [left_cons hi] at hq ⊢
 rw [rulesS,if_neg h,if_neg h4,hq]
end
end Go.Proofs.YtnghanpmmbcbbaaGreatDoor
namespace Go.Proofs.YtnghanpmmbcbbaaGreatDoor
open Go.RowKit
theorem rule_info:(Tryz.prog.info? 25).map (fun i=>(i.zero,i.size,i.bytes))=some (some (.agg #[.string ⟨#[]⟩,.slice none 0 0,.slice none 0 0,.slice none 0 0,.slice none 0 0,.int .i64 0]),6,120):=by kernel_rfl
abbrev rbox (u:Ru):Array Value:=#[.string (S u.t),.slice u.kA u.ks.length u.kc,.slice u.rA u.rs.length u.rc,.slice u.gA u.gs.length u.gc,.slice u.bA u.bs.length u.bc,.int .i64 (u.n:Int)]
theorem news2_R (w:World) (o:Obj) (u:Ru) (T:TypeId):∀j v,(u.cells)[j]?=some v→((w.alloc o).alloc (.cells (rbox u) T)).cell? ((⟨w.heap.size+1,0,none⟩:Addr).add j)=some v:=by
 intro j v hv
 have e:(w.alloc o).heap.size=w.heap.size+1:=by simp
 rw [add_plain,Nat.zero_add,← e,World.cell?_alloc_at _ _ _ _ rfl,← hv,show (rbox u)=(u.cells).toArray from rfl,List.getElem?_toArray]
theorem cellsL_one {α:Type} (E:Elt α) (l:List α):∀v∈E.cellsL l,v.oneCell'=true:=fun v hv=>by
 obtain ⟨x,_,hx⟩:=List.mem_flatMap.1 hv
 exact E.one x v hx
theorem declar_len {m:Nat} {ts r:List Tok} {v:List Dl} {ns:List (List UInt8)} (h:declarS m ts=.ok v r ns):v.length≤m:=by
 unfold declarS at h
 cases he:listS declS m [] ts [] with
 | err l e=>rw [he] at h;cases h
 | ok u r2 ns2 =>
  rw [he] at h
  simp only [wantS] at h
  split at h
  ·injection h with h1 _ _
   subst h1
   exact listS_len _ _ (Nat.le_refl _) _ _ _ _ _ he (by simp)
  ·cases h
section
variable {R:Nat} {A:Option Addr} {c:Nat} {l:List Tk}
def ProgQ (ex:Rd1 Tm) (R:Nat) (A:Option Addr) (c:Nat) (l:List Tk) (i:Nat) (w:World) (en:Ending) (w':World):Prop :=
 ∃(ds:List Dl) (rz:List Ru) (dA rA:Option Addr) (dn dc rn rc:Nat) (j:Nat) (er:Int),
  en=.returned (.tuple #[.agg #[.slice dA dn dc,.slice rA rn rc],.int .i64 er])∧Kq R w w'∧Pq w' R A c l j ∧
  ((er=0∧(∃m,programS ex (leftT l i)=.ok (ds,rz.map Ru.p) (leftT l j) m)∧RowG elDl 38 w.heap.size w' (.slice dA dn dc) ds∧RowR w.heap.size w' (.slice rA rn rc) rz)∨(er≠0∧programS ex (leftT l i)=.err (leftT l j).length er))
structure Lp1 (R:Nat) (A:Option Addr) (c:Nat) (l:List Tk) (i:Nat) (w:World) (gk:Nat) (wr:World) (q:Nat) (ds:List Dl) (B:Option Addr) (zc:Nat):Prop where
 k:Kq R w wr
 p:Pq wr R A c l q
 row:RowG elDl 38 (w.heap.size+2) wr (.slice B ds.length zc) ds
 b2:BoxL wr w.heap.size [.slice none 0 0,.slice none 0 0]
 b4:BoxL wr (w.heap.size+1) [.slice B ds.length zc,.slice none 0 0]
 all:allDecls [] (leftT l i)=allDecls ds (leftT l q)
 le:ds.length≤30
 iq:i≤q
 gk:l.length - q≤gk
 sz:w.heap.size+2≤wr.heap.size
structure Lp2 (ex:Rd1 Tm) (R:Nat) (A:Option Addr) (c:Nat) (l:List Tk) (i i2:Nat) (w:World) (m:Nat) (ds:List Dl) (dA:Option Addr) (dc:Nat) (gk:Nat) (wr:World) (q:Nat) (rz:List Ru) (B:Option Addr) (zc:Nat):Prop where
 k:Kq R w wr
 p:Pq wr R A c l q
 drow:RowG elDl 38 (w.heap.size+2) wr (.slice dA ds.length dc) ds
 dless:∀k,(Value.slice dA ds.length dc).ownBlock=some k→k < m
 row:RowR m wr (.slice B rz.length zc) rz
 b2:BoxL wr w.heap.size [.slice none 0 0,.slice none 0 0]
 b4:BoxL wr (w.heap.size+1) [.slice dA ds.length dc,.slice B rz.length zc]
 all:rulesS ex [] (leftT l i2)=rulesS ex (rz.map Ru.p) (leftT l q)
 le:rz.length≤40
 iq:i≤q
 gk:l.length - q≤gk
 sz:m≤wr.heap.size
 mlo:w.heap.size+2≤m
set_option maxHeartbeats 16000000 in
set_option maxRecDepth 100000 in
theorem program_at (hg:GoodT l) {n:Nat} {ex:Rd1 Tm} (i:Nat)
  (hRu:∀(k:Nat) (w:World),Pq w R A c l k→i≤k→(leftT l k).length≤n→Calls Tryz.prog 58 #[.pointer (some ⟨R,0,none⟩)] w (RuleQ ex R A c l k w))
  (w:World) (h:Pq w R A c l i) (hn:(leftT l i).length≤n) :
  Calls Tryz.prog 60 #[.pointer (some ⟨R,0,none⟩)] w (ProgQ ex R A c l i w):=by
 obtain ⟨i0,hi,hz0,hz1,hz2⟩:=info_parts decl_info
 obtain ⟨i1,hi1,hy0,hy1,hy2⟩:=info_parts rule_info
 have HG:=Lib.hid hg
 have hR:=h.lt
 have hTR:¬w.heap.size=R:=by omega
 have hBR:¬w.heap.size+1=R:=by omega
 have hTB:¬w.heap.size=w.heap.size+1:=by omega
 have hb2:=((Below.refl w.heap.size w).alloc (Nat.le_refl _) (.cells #[.slice none 0 0,.slice none 0 0] 35)).alloc (by simp) (.cells #[.slice none 0 0,.slice none 0 0] 35)
 have HN:=Lib.hid hn
 have Q:=Lib.hid hRu
 have H0:=Lib.hid (show Lp1 R A c l i w (l.length - i) ((w.alloc (.cells #[.slice none 0 0,.slice none 0 0] 35)).alloc (.cells #[.slice none 0 0,.slice none 0 0] 35)) i [] none 0 from
  ⟨Below.kp hb2 R Z0,h.below hb2,RowG.nil _ _ _ _,(BoxL.new w [.slice none 0 0,.slice none 0 0] 35).alloc _,by
   have:=BoxL.new (w.alloc (.cells #[.slice none 0 0,.slice none 0 0] 35)) [.slice none 0 0,.slice none 0 0] 35
   rw [show (w.alloc (.cells #[.slice none 0 0,.slice none 0 0] 35)).heap.size=w.heap.size+1 by simp] at this
   exact this,rfl,by simp,Nat.le_refl _,Nat.le_refl _,by simp⟩)
 clear hg hRu h hn hb2
 go_enter Tryz.func60,Tryz.ntmps60
 go_wp2_with fail
 go_loopg [] (l.length - i) (fun gk wr=>∃(q:Nat) (ds:List Dl) (B:Option Addr) (zc:Nat),Hid (Lp1 R A c l i w gk wr q ds B zc))
 case atStart=>exact ⟨i,[],none,0,H0⟩
 case round =>
  clear H0
  obtain ⟨q,ds,B,zc,hI⟩:=hrel
  have hP:=hI.out.p
  have hsz:=hI.out.sz
  have hlen30:=hI.out.le
  have hl30:(ds.length:Int)≤30:=by omega
  obtain ⟨b,hb⟩:∃b,((l.getD q default).2.2==constraintW)=b:=⟨_,rfl⟩
  have QX:=Lib.hid (accept_at HG.out hP constraintW (by decide) hb)
  have XW:=Lib.hid (show isW constraintW (leftT l q)=b by rw [isW_left HG.out hP.ilt (by decide)];exact hb)
  clear hb hP
  cases b
  ·go_wp2_with (go_at_call 100;(with_reducible refine QX.out.mono ?_);rintro en w2 ⟨rfl,hk2,hp2⟩;have HK2:=Lib.hid hk2;have HP2:=Lib.hid (show Pq w2 R A c l q from hp2);clear hk2 hp2)
   have HAll:=Lib.hid (show allDecls [] (leftT l i)=.ok ds (leftT l q) [] by rw [hI.out.all,all_end XW.out])
   have H2:=Lib.hid (show Lp2 ex R A c l i q w w2.heap.size ds B zc (l.length - q) w2 q [] none 0 from
    ⟨hI.out.k.trans HK2.out,HP2.out,hI.out.row.kq HK2.out (by omega),fun k hk=>Nat.lt_of_lt_of_le (own_lt hI.out.row.row k hk).2 HK2.out.size,RowR.nil _ _,hI.out.b2.kq HK2.out hTR,hI.out.b4.kq HK2.out hBR,rfl,by simp,hI.out.iq,Nat.le_refl _,Nat.le_refl _,Nat.le_trans hsz HK2.out.size⟩)
   clear hI XW QX HK2 HP2 hsz hlen30 hl30
   go_loopg [] (l.length - q) (fun gk wr=>∃(q2:Nat) (rz:List Ru) (B2:Option Addr) (zc2:Nat),Hid (Lp2 ex R A c l i q w w2.heap.size ds B zc gk wr q2 rz B2 zc2))
   case atStart=>exact ⟨q,[],none,0,H2⟩
   case round =>
    clear H2
    obtain ⟨q2,rz,B2,zc2,hJ⟩:=hrel
    have hPJ:=hJ.out.p
    have hszJ:=Nat.le_trans hJ.out.mlo hJ.out.sz
    have hl40:=hJ.out.le
    have hl40':(rz.length:Int)≤40:=by omega
    have h40':rz.length≤9223372036854775807:=by omega
    have HI2:=Lib.hid hPJ.ilt
    obtain ⟨tk,htk⟩:∃tk,l.getD q2 default=tk:=⟨_,rfl⟩
    obtain ⟨k,p,x⟩:=tk
    have fk:=tok_kind k (p:Int) (S x)
    have HTk:=Lib.hid (show (l.getD q2 default).1=k by rw [htk])
    have QN:=Lib.hid (p_next_of hPJ htk)
    clear htk hPJ
    by_cases hk:k=0
    ·subst hk
     go_wp2_with (go_at_call 94;(with_reducible refine QN.out.mono ?_);rintro en w3 ⟨rfl,hb3⟩;have HK3:=Lib.hid (hJ.out.k.trans (Below.kp hb3 R Z0));have HP3:=Lib.hid (hJ.out.p.below hb3);have HB3:=Lib.hid hb3;obtain ⟨c0,c1,f0,f1⟩:=(hJ.out.b2.below hb3).get2;obtain ⟨d0,d1,g0,g1⟩:=(hJ.out.b4.below hb3).get2;clear hb3)
     refine bodyPost_ret (v:=.tuple #[.agg #[.slice B ds.length zc,.slice B2 rz.length zc2],.int .i64 0]) (by simp [results,Tryz.results60,go_sem,c0,c1]) rfl ?_
     obtain ⟨e1,e2⟩:=end22 hR HK3.out HP3.out (.slice B ds.length zc) (.slice B2 rz.length zc2)
     have hm:=hJ.out.mlo
     refine ⟨ds,rz,B,B2,ds.length,zc,rz.length,zc2,q2,0,rfl,e1,e2,.inl ⟨rfl,⟨[],?_⟩,?_,?_⟩⟩
     ·simp only [programS,HAll.out,hJ.out.all,rules_end HI2.out HTk.out]
     ·exact ((hJ.out.drow.below HB3.out).frame (Nat.le_of_eq (sets2_size _ _ _ _).symm) fun b h1 _=>sets2_block _ _ _ _ (by omega)).low (by omega)
     ·exact ((hJ.out.row.below HB3.out).frame (Nat.le_of_eq (sets2_size _ _ _ _).symm) fun b h1 _=>sets2_block _ _ _ _ (by omega)).low (by omega)
    ·have hkb:(k != 0)=true:=bne_iff_ne.2 hk
     have HKn:=Lib.hid (show (l.getD q2 default).1≠0 by rw [HTk.out];exact hk)
     clear hk
     by_cases hm:rz.length=40
     ·have hm':(((rz.length:Nat):Int)==40)=true:=by simp [hm]
      have HM:=Lib.hid hm
      clear hm
      go_wp2_with (go_at_call 94;(with_reducible refine QN.out.mono ?_);rintro en w3 ⟨rfl,hb3⟩;have HK3:=Lib.hid (hJ.out.k.trans (Below.kp hb3 R Z0));have HP3:=Lib.hid (hJ.out.p.below hb3);obtain ⟨c0,c1,f0,f1⟩:=(hJ.out.b2.below hb3).get2;obtain ⟨d0,d1,g0,g1⟩:=(hJ.out.b4.below hb3).get2;clear hb3)
      refine bodyPost_ret (v:=.tuple #[.agg #[.slice B ds.length zc,.slice B2 rz.length zc2],.int .i64 6]) (by simp [results,Tryz.results60,go_sem,c0,c1]) rfl ?_
      obtain ⟨e1,e2⟩:=end22 hR HK3.out HP3.out (.slice B ds.length zc) (.slice B2 rz.length zc2)
      refine ⟨ds,rz,B,B2,ds.length,zc,rz.length,zc2,q2,6,rfl,e1,e2,.inr ⟨by omega,?_⟩⟩
      simp only [programS,HAll.out,hJ.out.all,rules_much HI2.out HKn.out (show 40≤(rz.map Ru.p).length by rw [List.length_map,HM.out];omega)]
     ·have hm':(((rz.length:Nat):Int)==40)=false:=by simp;omega
      have HM:=Lib.hid (show ¬40≤(rz.map Ru.p).length by rw [List.length_map];omega)
      have HM2:=Lib.hid (show rz.length < 40 by omega)
      clear hm
      have QR:=Lib.hid (fun W (hW:Pq W R A c l q2)=>Q.out q2 W hW hJ.out.iq (by have:=HN.out;have:=hJ.out.iq;rw [left_length] at *;omega))
      go_wp2_with (first
       | (go_at_call 94;(with_reducible refine QN.out.mono ?_);rintro en w3 ⟨rfl,hb3⟩;have HK3:=Lib.hid (hJ.out.k.trans (Below.kp hb3 R Z0));have HP3:=Lib.hid (hJ.out.p.below hb3);have HB3:=Lib.hid hb3;obtain ⟨d0,d1,g0,g1⟩:=(hJ.out.b4.below hb3).get2;clear hb3))
      refine (QR.out _ HP3.out).mono ?_
      rintro en w4 ⟨t,ks,rs,gs,bs,kA,rA,gA,bA,kn,kc,rn,rc,gn,gc,bn,bc,nv,j,er,rfl,hk4,hp4,ho4⟩
      have hm0:=hJ.out.mlo
      have hm1:=hJ.out.sz
      have HK4:=Lib.hid (HK3.out.trans hk4)
      have HP4:=Lib.hid hp4
      have hs34:w3.heap.size≤w4.heap.size:=hk4.size
      have HK34:=Lib.hid hk4
      have HBox2:=Lib.hid ((hJ.out.b2.below HB3.out).kq hk4 hTR)
      have HBox4:=Lib.hid ((hJ.out.b4.below HB3.out).kq hk4 hBR)
      have HDr4:=Lib.hid ((hJ.out.drow.below HB3.out).kq hk4 (by omega))
      have HRr4:=Lib.hid ((hJ.out.row.below HB3.out).kq hk4 (by omega))
      clear d0 d1 g0 g1 hk4 hp4
      rcases ho4 with ⟨rfl,hf,hqj,hat⟩|⟨her,hf⟩
      ·obtain ⟨rfl,rfl,rfl,rfl,hu⟩:=ru_of (n:=nv) hat
       have HF:=Lib.hid hf
       have HJ:=Lib.hid hqj
       have HU:=Lib.hid hu
       clear hf hqj hat hu
       have hs23:w3.heap.size ≥ wr.heap.size:=HB3.out.size
       have d1:=fun o=>(HBox4.out.alloc o).get2.2.1
       have hown4:=Lib.hid (fun k hk=>own_lt HRr4.out.row k hk)
       have hlo2:=Lib.hid (show w2.heap.size≤w3.heap.size by omega)
       go_wp2_with (at_builtin;refine wpList_append_lies _ rfl _ _ 27 rfl w2.heap.size 25 i1 _ 6 120 Tryz.underlying27 hi1 hy0 hy1 hy2 rfl (by decide) (.slice B2 rz.length zc2) rz.length (rcells rz) rfl ((HRr4.out.row.alloc _).alloc _) ⟨w4.heap.size+1,0,none⟩ 1 1 (Ru.cells ⟨t,ks,rs,gs,bs,kA,kc,rA,rc,gA,gc,bA,bc,nv⟩) rfl rfl (news2_R w4 _ ⟨t,ks,rs,gs,bs,kA,kc,rA,rc,gA,gc,bA,bc,nv⟩ _) (ru_one ⟨t,ks,rs,gs,bs,kA,kc,rA,rc,gA,gc,bA,bc,nv⟩) (by decide) (by unfold maxLen;omega) (by omega) (by simp;omega) _ rfl ?_;intro g cap w5 hown hg hat hglt;have hbox:=(((Below.refl w4.heap.size w4).alloc (Nat.le_refl _) (.cells (rbox ⟨t,ks,rs,gs,bs,kA,kc,rA,rc,gA,gc,bA,bc,nv⟩) 25)).alloc (by simp) (.cells (rbox ⟨t,ks,rs,gs,bs,kA,kc,rA,rc,gA,gc,bA,bc,nv⟩) 25));have HRow5:=Lib.hid (HRr4.out.next hlo2.out (fun k hk=>Nat.lt_of_lt_of_le (own_lt (hJ.out.row.below HB3.out).row k hk).2 (Nat.le_refl _)) HU.out hbox hown hg hat);have HK5:=Lib.hid (((HK4.out.alloc _).alloc _).grown hg (fun k hk=>by have:=(hown4.out k hk).1;omega));have HP5:=Lib.hid (((HP4.out.alloc _).alloc _).grown hg (fun k hk=>by have:=(hown4.out k hk).1;omega));have HBox25:=Lib.hid (((HBox2.out.alloc _).alloc _).grown hg (fun e=>by have:=(hown4.out _ e).1;omega));have HBox45:=Lib.hid (((HBox4.out.alloc _).alloc _).grown hg (fun e=>by have:=(hown4.out _ e).1;omega));have HDr5:=Lib.hid ((HDr4.out.below hbox).only hg.size (fun k hk=>hg.block k (own_lt (HDr4.out.below hbox).row k hk).2 (fun e=>by have:=(hown4.out k e.symm).1;have:=hJ.out.dless k hk;omega)) (fun b hb=>by simp [Elt.blkL,elDl] at hb));have HSz5:=Lib.hid (Nat.le_trans hbox.size hg.size);obtain ⟨d0,d1,g0,g1⟩:=HBox45.out.get2;clear hown hg hat hglt hbox)
       have HNx:=Lib.hid (show Lp2 ex R A c l i q w w2.heap.size ds B zc (gk - 1) (w5.setCell ⟨w.heap.size+1,1,none⟩ (.slice (some ⟨g,0,none⟩) (rz.length+1) cap)) j (rz++[⟨t,ks,rs,gs,bs,kA,kc,rA,rc,gA,gc,bA,bc,nv⟩]) (some ⟨g,0,none⟩) cap by
        have el:(rz++[(⟨t,ks,rs,gs,bs,kA,kc,rA,rc,gA,gc,bA,bc,nv⟩:Ru)]).length=rz.length+1:=by simp
        have hj:=HJ.out
        have h2:=hJ.out.gk
        have h3:=HP4.out.ilt
        have hp:∀(p:Addr) (v:Value),(w5.setCell p v).heap.size=w5.heap.size:=fun p v=>by simp [World.setCell]
        refine ⟨HK5.out.put (p:=⟨w.heap.size+1,1,none⟩) (show w.heap.size≤w.heap.size+1 by omega) _,HP5.out.put (p:=⟨w.heap.size+1,1,none⟩) (show R < w.heap.size+1 by omega) _,HDr5.out.put (p:=⟨w.heap.size+1,1,none⟩) (show w.heap.size+1 < w.heap.size+2 by omega) _,hJ.out.dless,?_,HBox25.out.put (p:=⟨w.heap.size+1,1,none⟩) (show w.heap.size+1≠w.heap.size by omega) _,?_,?_,by rw [el];have:=HM2.out;omega,by have:=hJ.out.iq;omega,by omega,by rw [hp];have:=HSz5.out;omega,hJ.out.mlo⟩
        ·rw [el]
         exact HRow5.out.frame (Nat.le_of_eq (hp _ _).symm) fun b h1 _=>Below.heap_setCell _ _ _ _ (show b≠w.heap.size+1 by omega)
        ·rw [el]
         exact HBox45.out.set (j:=1) (by simp) _
        ·rw [hJ.out.all,rules_next HI2.out HKn.out HM.out HF.out.choose_spec (by rw [left_length,left_length];have:=HI2.out;omega),List.map_append]
         rfl)
       have HGk:=Lib.hid (show gk - 1 < gk by have:=HJ.out;have:=HP4.out.ilt;have:=hJ.out.gk;omega)
       go_wp2_with fail
       go_roundg (gk - 1)
       case measure=>exact HGk.out
       case rel=>exact ⟨j,_,_,_,HNx⟩
      ·have hne:(er != 0)=true:=bne_iff_ne.2 her
       have HE:=Lib.hid her
       have HF:=Lib.hid hf
       have c0:=fun o=>(HBox2.out.alloc o).get2.1
       have c1:=fun o=>(HBox2.out.alloc o).get2.2.1
       have f0:=fun o=>(HBox2.out.alloc o).get2.2.2.1
       have f1:=fun o=>(HBox2.out.alloc o).get2.2.2.2
       have d0:=fun o=>(HBox4.out.alloc o).get2.1
       have d1:=fun o=>(HBox4.out.alloc o).get2.2.1
       clear her hf
       go_wp2_with fail
       refine bodyPost_ret (v:=.tuple #[.agg #[.slice B ds.length zc,.slice B2 rz.length zc2],.int .i64 er]) (by simp [results,Tryz.results60,go_sem,c0,c1]) rfl ?_
       obtain ⟨e1,e2⟩:=end22 hR (HK4.out.alloc (.cells #[.string (S t),.slice kA kn kc,.slice rA rn rc,.slice gA gn gc,.slice bA bn bc,.int .i64 (nv:Int)] 25)) (HP4.out.alloc (.cells #[.string (S t),.slice kA kn kc,.slice rA rn rc,.slice gA gn gc,.slice bA bn bc,.int .i64 (nv:Int)] 25)) (.slice B ds.length zc) (.slice B2 rz.length zc2)
       refine ⟨ds,rz,B,B2,ds.length,zc,rz.length,zc2,j,er,rfl,e1,e2,.inr ⟨HE.out,?_⟩⟩
       simp only [programS,HAll.out,hJ.out.all,rules_err HI2.out HKn.out HM.out HF.out]
  ·have QD:=Lib.hid (fun W (hW:Pq W R A c l (q+1))=>by
    have:=declaration_at HG.out (30 - ds.length) (by omega) (q+1) W hW
    rw [show ((30 - ds.length:Nat):Int)=30 - (ds.length:Int) by omega] at this
    exact this)
   go_wp2_with (go_at_call 100;(with_reducible refine QX.out.mono ?_);rintro en w2 ⟨rfl,hk2,hp2⟩;have HK2:=Lib.hid hk2;have HP2:=Lib.hid (show Pq w2 R A c l (q+1) from hp2);obtain ⟨d0,d1,g0,g1⟩:=(hI.out.b4.kq hk2 hBR).get2;clear hk2 hp2)
   refine (QD.out _ HP2.out).mono ?_
   rintro en w3 ⟨d2,dA,dc,j,er,rfl,hk3,hp3,hr3,ho3⟩
   have hs12:=HK2.out.size
   have hs23:=hk3.size
   have HK3:=Lib.hid ((hI.out.k.trans HK2.out).trans hk3)
   have HP3:=Lib.hid hp3
   have HR3:=Lib.hid hr3
   have HBox2:=Lib.hid ((hI.out.b2.kq HK2.out hTR).kq hk3 hTR)
   have HBox4:=Lib.hid ((hI.out.b4.kq HK2.out hBR).kq hk3 hBR)
   have HRow3:=Lib.hid ((hI.out.row.kq HK2.out (by omega)).kq hk3 (by omega))
   clear d0 d1 g0 g1 hk3 hp3 hr3
   have d0:=HBox4.out.get2.1
   have d1:=HBox4.out.get2.2.1
   rcases ho3 with ⟨rfl,hf,hqj,hl0⟩|⟨her,hf⟩
   ·obtain ⟨gg,cc,he,_,_,_,_,_,_,hcell⟩:=HR3.out.form hl0
    injection he with he1 he2 he3
    subst he1 he3
    have HF:=Lib.hid hf
    have HJ:=Lib.hid hqj
    have hl2:d2.length≤30 - ds.length:=declar_len hf
    have hcell2:∀j u,(elDl.cellsL d2)[j]?=some u→w3.cell? ((⟨gg,0,none⟩:Addr).add j)=some u:=fun j u hu=>by rw [add_plain,Nat.zero_add];exact hcell j u hu
    have HCell:=Lib.hid hcell2
    have hown3:=Lib.hid (fun k hk=>own_lt HRow3.out.row k hk)
    have g0:=HBox4.out.get2.2.2.1
    have HL:=Lib.hid (And.intro hl0 hl2)
    clear hf hqj hcell he2 hcell2 hl0 hl2
    go_wp2_with (at_builtin;refine wpList_append_lies _ rfl _ _ 33 rfl (w.heap.size+2) 38 i0 _ 2 24 Tryz.underlying33 hi hz0 hz1 hz2 rfl (by decide) (.slice B ds.length zc) ds.length (elDl.cellsL ds) rfl HRow3.out.row ⟨gg,0,none⟩ d2.length dc (elDl.cellsL d2) rfl (Elt.cellsL_len elDl d2) HCell.out (cellsL_one elDl d2) HL.out.1 (by have:=HL.out.2;unfold maxLen;omega) (by have:=HL.out.2;omega) (by omega) _ rfl ?_;intro g cap w4 hown hg hat hglt;have HK4:=Lib.hid (HK3.out.grown hg (fun k hk=>by have:=(hown3.out k hk).1;omega));have HP4:=Lib.hid (HP3.out.grown hg (fun k hk=>by have:=(hown3.out k hk).1;omega));have HBox24:=Lib.hid (HBox2.out.grown hg (fun e=>by have:=(hown3.out _ e).1;omega));have HBox44:=Lib.hid (HBox4.out.grown hg (fun e=>by have:=(hown3.out _ e).1;omega));have HOwn:=Lib.hid hown;have HSz4:=Lib.hid hg.size;clear d0 d1 g0;obtain ⟨d0,d1,g0,g1⟩:=HBox44.out.get2;clear hown hg hat hglt)
    have el:(ds++d2).length=ds.length+d2.length:=by simp
    have HNx:=Lib.hid (show Lp1 R A c l i w (gk - 1) (w4.setCell ⟨w.heap.size+1,0,none⟩ (.slice (some ⟨g,0,none⟩) (ds.length+d2.length) cap)) j (ds++d2) (some ⟨g,0,none⟩) cap by
     have hj:=HJ.out
     have h2:=hI.out.gk
     have h3:=HP3.out.ilt
     have hp:∀(p:Addr) (v:Value),(w4.setCell p v).heap.size=w4.heap.size:=fun p v=>by simp [World.setCell]
     refine ⟨HK4.out.put (p:=⟨w.heap.size+1,0,none⟩) (show w.heap.size≤w.heap.size+1 by omega) _,HP4.out.put (p:=⟨w.heap.size+1,0,none⟩) (show R < w.heap.size+1 by omega) _,?_,HBox24.out.put (p:=⟨w.heap.size+1,0,none⟩) (show w.heap.size+1≠w.heap.size by omega) _,?_,?_,by rw [el];have:=HL.out.2;omega,by have:=hI.out.iq;omega,by omega,by rw [hp];have:=HSz4.out;omega⟩
     ·refine RowG.put (rowDl ?_) (p:=⟨w.heap.size+1,0,none⟩) (show w.heap.size+1 < w.heap.size+2 by omega) _
      rw [el,Elt.cellsL_append]
      exact HOwn.out
     ·rw [el]
      exact HBox44.out.set (j:=0) (by simp) _
     ·rw [hI.out.all]
      exact all_word XW.out hI.out.le (by rw [left_tail];exact HF.out) (by rw [left_length,left_length];omega))
    have HGk:=Lib.hid (show gk - 1 < gk by have:=HJ.out;have:=HP3.out.ilt;have:=hI.out.gk;omega)
    clear el
    go_wp2_with fail
    go_roundg (gk - 1)
    case measure=>exact HGk.out
    case rel=>exact ⟨j,_,_,_,HNx⟩
   ·have hne:(er != 0)=true:=bne_iff_ne.2 her
    have HE:=Lib.hid her
    have HF:=Lib.hid hf
    obtain ⟨c0,c1,f0,f1⟩:=HBox2.out.get2
    clear her hf
    go_wp2_with fail
    refine bodyPost_ret (v:=.tuple #[.agg #[.slice B ds.length zc,.slice none 0 0],.int .i64 er]) (by simp [results,Tryz.results60,go_sem,c0,c1]) rfl ?_
    obtain ⟨e1,e2⟩:=end22 hR HK3.out HP3.out (.slice B ds.length zc) (.slice none 0 0)
    refine ⟨ds,[],B,none,ds.length,zc,0,0,j,er,rfl,e1,e2,.inr ⟨HE.out,?_⟩⟩
    simp only [programS,hI.out.all,all_err XW.out hI.out.le (show declarS (30 - ds.length) (leftT l q).tail=_ by rw [left_tail];exact HF.out)]
end
end Go.Proofs.YtnghanpmmbcbbaaGreatDoor
namespace Go.Proofs.YtnghanpmmbcbbaaGreatDoor
open Go.RowKit
theorem ruat_frame {lo lo':Nat} {w w':World} {t:List UInt8} {ks rs:List Am} {gs bs:List Gl} {kv rv gv bv:Value} (h:RuAt lo w t ks rs gs bs kv rv gv bv) (hlo:lo'≤lo) (hs:w.heap.size≤w'.heap.size) (hb:∀b,lo≤b→b < w.heap.size→w'.heap[b]?=w.heap[b]?):RuAt lo' w' t ks rs gs bs kv rv gv bv:=by
 obtain ⟨ht,M,m1,m2,m3,hM,h⟩:=h
 exact ⟨ht,M,m1,m2,m3,Nat.le_trans hM hs,(h.of hs fun b h1 h2=>hb b h1 (Nat.lt_of_lt_of_le h2 hM)).low hlo⟩
def wholeS {α:Type} (f:List Tok→PS α) (s:ByteArray):Except (Nat×Int) α :=
 if (scanP s).2.2≠0 then .error ((scanP s).2.1,(scanP s).2.2)
 else match onlyS (f (leftT (scanP s).1 0)) with
  | .ok v _ _=>.ok v
  | .err n e=>.error (offT (scanP s).1 n,e)
theorem whole_ok {α:Type} {f:List Tok→PS α} {s:ByteArray} {l:List Tk} {p:Nat} (h:scanP s=(l,p,0)):wholeS f s=match onlyS (f (leftT l 0)) with
  | .ok v _ _=>.ok v
  | .err n e=>.error (offT l n,e):=by
 unfold wholeS
 rw [h,if_neg (by simp)]
theorem whole_err {α:Type} {f:List Tok→PS α} {s:ByteArray} {l:List Tk} {p:Nat} {e:Int} (h:scanP s=(l,p,e)) (he:e≠0):wholeS f s=.error (p,e):=by
 unfold wholeS
 rw [h,if_pos he]
def WholeQ {α:Type} (f:List Tok→PS α) (Z:Array Value) (M:Nat→World→Array Value→α→Prop) (s:ByteArray) (w:World) (en:Ending) (w':World):Prop :=
 ∃(V:Array Value) (p:Nat) (er:Int),en=.returned (.tuple #[.agg V,.int .i64 (p:Int),.int .i64 er])∧Below w.heap.size w w' ∧
  ((er=0∧p=0∧∃x,wholeS f s=.ok x∧M w.heap.size w' V x)∨(er≠0∧V=Z∧wholeS f s=.error (p,er)))
theorem cell_in {w:World} {p:Addr} {v:Value} (h:w.cell? p=some v):p.block < w.heap.size:=by
 rcases Nat.lt_or_ge p.block w.heap.size with h1|h1
 ·exact h1
 ·simp [World.cell?,Array.getElem?_eq_none h1] at h
theorem Below.after {m n:Nat} {a b c:World} (h:Below m a b) (h2:Below n b c) (hmn:m≤n):Below m a c :=
 ⟨h2.os.trans h.os,h2.tape.trans h.tape,h2.output.trans h.output,Nat.le_trans h.size h2.size,fun k hk=>(h2.block k (Nat.lt_of_lt_of_le hk hmn)).trans (h.block k hk)⟩
theorem new_parser {w:World} {A:Option Addr} {c:Nat} {l:List Tk} (h:TLst w A l c) (hn:0 < l.length) (t:TypeId):Pq (w.alloc (.cells #[.slice A l.length c,.int .i64 0] t)) w.heap.size A c l 0:=by
 have hb:=BoxL.new w [.slice A l.length c,.int .i64 0] t
 refine ⟨hb.lt,hb.cells 0 _ rfl,hb.cells 1 _ rfl,hb.free,h.below ((Below.refl _ _).alloc (Nat.le_refl _) _),fun g e=>?_,hn⟩
 obtain ⟨g2,e2,hr⟩:=h.2.2 hn
 rw [e] at e2
 injection e2 with e2
 injection e2 with e2
 subst e2
 exact cell_in (hr 0 hn 0 _ rfl)
end Go.Proofs.YtnghanpmmbcbbaaGreatDoor
namespace Go.Proofs.YtnghanpmmbcbbaaGreatDoor
open Go.RowKit
def MemP (lo:Nat) (w':World) (V:Array Value) (x:List Dl×List Rs):Prop:=∃(ds:List Dl) (rz:List Ru) (dA rA:Option Addr) (dn dc rn rc:Nat),V=#[.slice dA dn dc,.slice rA rn rc]∧x=(ds,rz.map Ru.p)∧RowG elDl 38 lo w' (.slice dA dn dc) ds∧RowR lo w' (.slice rA rn rc) rz
theorem MemP.frame {lo lo':Nat} {w w':World} {V:Array Value} {x:List Dl×List Rs} (h:MemP lo w V x) (hlo:lo'≤lo) (hs:w.heap.size≤w'.heap.size) (hb:∀b,lo≤b→b < w.heap.size→w'.heap[b]?=w.heap[b]?):MemP lo' w' V x:=by
 obtain ⟨ds,rz,dA,rA,dn,dc,rn,rc,e1,e2,hm⟩:=h
 exact ⟨ds,rz,dA,rA,dn,dc,rn,rc,e1,e2,(hm.1.frame hs hb).low hlo,(hm.2.frame hs hb).low hlo⟩
set_option maxHeartbeats 8000000 in
set_option maxRecDepth 100000 in
theorem whole_P {ex:Rd1 Tm} (hR:∀(R:Nat) (A:Option Addr) (c:Nat) (l:List Tk) (w:World),GoodT l→Pq w R A c l 0→Calls Tryz.prog 60 #[.pointer (some ⟨R,0,none⟩)] w (ProgQ ex R A c l 0 w))
  (s:ByteArray) (hs:s.size≤100000) (w:World) :
  Calls Tryz.prog 59 #[.string s,.func (.func 60) #[] #[]] w (WholeQ (programS ex) #[.slice none 0 0,.slice none 0 0] MemP s w):=by
 have QS:=Lib.hid (fun W=>scan_at s W hs)
 have HR:=Lib.hid hR
 have HSc:=Lib.hid (fun h0=>good_scan (s:=s) h0)
 obtain ⟨sc,hsc⟩:∃sc,scanP s=sc:=⟨_,rfl⟩
 rw [show ScanR s=fun w e w'=>∃A c,e=.returned (.tuple #[.slice A (scanP s).1.length c,.int .i64 ((scanP s).2.1:Int),.int .i64 (scanP s).2.2])∧TLst w' A (scanP s).1 c∧Below w.heap.size w w' from rfl,hsc] at QS
 rw [hsc] at HSc
 obtain ⟨l,p,e⟩:=sc
 have HW:=Lib.hid hsc
 clear hsc hR hs
 by_cases he:e=0
 ·subst he
  go_enter Tryz.func59,Tryz.ntmps59
  go_wp2_with fail
  refine (QS.out _).mono ?_
  rintro en w3 ⟨A,c,rfl,hT,hb3⟩
  have HT:=Lib.hid (show TLst w3 A l c from hT)
  have HG:=Lib.hid (show GoodT l by first|exact HSc.out rfl|exact HSc.out trivial)
  have HB3:=Lib.hid (show Below w.heap.size w w3 from Below.after (((Below.refl w.heap.size w).alloc (Nat.le_refl _) (.cells #[.slice none 0 0,.slice none 0 0] 35)).alloc (by simp) (.cells #[.slice none 0 0,.slice none 0 0] 35)) hb3 (by simp<;>omega))
  have HZ4:=Lib.hid ((BoxL.new w [.slice none 0 0,.slice none 0 0] 35).alloc (.cells #[.slice none 0 0,.slice none 0 0] 35) |>.below hb3)
  have HZ7:=Lib.hid (show BoxL w3 (w.heap.size+1) [.slice none 0 0,.slice none 0 0] by
   have:=BoxL.new (w.alloc (.cells #[.slice none 0 0,.slice none 0 0] 35)) [.slice none 0 0,.slice none 0 0] 35
   rw [show (w.alloc (.cells #[.slice none 0 0,.slice none 0 0] 35)).heap.size=w.heap.size+1 by simp] at this
   exact this.below hb3)
  have hsz3:w.heap.size+2≤w3.heap.size:=by have:=hb3.size;simpa using this
  have HP:=Lib.hid (new_parser HT.out HG.out.ended.1 132)
  have QR:=Lib.hid (HR.out _ A c l _ HG.out HP.out)
  clear hT hb3 HSc QS
  go_wp2_with fail
  refine QR.out.mono ?_
  rintro en w4 ⟨ds,rz,dA,rA,dn,dc,rn,rc,j,er,rfl,hk4,hp4,ho4⟩
  have hs34:w3.heap.size+1≤w4.heap.size:=by have:=hk4.size;simpa using this
  have HB4:=Lib.hid (show Below w.heap.size w w4 from ⟨hk4.os.trans HB3.out.os,hk4.tape.trans HB3.out.tape,hk4.output.trans HB3.out.output,by omega,fun k hk=>(hk4.block k (by simp;omega) (by omega) (Z0_own k)).trans ((Below.heap_alloc w3 _ k (by omega)).trans (HB3.out.block k hk))⟩)
  have HZ44:=Lib.hid ((HZ4.out.alloc _).kq hk4 (by omega))
  have HZ74:=Lib.hid ((HZ7.out.alloc _).kq hk4 (by omega))
  have HP4:=Lib.hid hp4
  have HO4:=Lib.hid ho4
  obtain ⟨tk,htk⟩:∃tk,l.getD j default=tk:=⟨_,rfl⟩
  obtain ⟨k,q,x⟩:=tk
  have fk:=tok_kind k (q:Int) (S x)
  have fa:=tok_at k (q:Int) (S x)
  have QN:=Lib.hid (fun W (hW:Pq W w3.heap.size A c l j)=>p_next_of hW htk)
  have HTk:=Lib.hid htk
  clear hk4 hp4 ho4 htk
  by_cases her:er=0
  ·subst her
   by_cases hk:k=0
   ·subst hk
    have c0:=fun o=>(HZ44.out.alloc o).get2.1
    have c1:=fun o=>(HZ44.out.alloc o).get2.2.1
    have f0:=fun o=>(HZ44.out.alloc o).get2.2.2.1
    have f1:=fun o=>(HZ44.out.alloc o).get2.2.2.2
    have d0:=fun o=>(HZ74.out.alloc o).get2.1
    have d1:=fun o=>(HZ74.out.alloc o).get2.2.1
    go_wp2_with (go_at_call 94;refine (QN.out _ (HP4.out.alloc _)).mono ?_;rintro en w5 ⟨rfl,hb5⟩;have HB5:=Lib.hid (Below.after (HB4.out.alloc (by omega) _) hb5 (by simp<;>omega));have HB45:=Lib.hid hb5;obtain ⟨a0,a1,a2,a3⟩:=((HZ44.out.alloc _).below hb5).get2;obtain ⟨b0,b1,b2,b3⟩:=((BoxL.new w4 [.slice dA dn dc,.slice rA rn rc] 35).below hb5).get2;clear hb5)
    refine bodyPost_ret (v:=.tuple #[.agg #[.slice dA dn dc,.slice rA rn rc],.int .i64 0,.int .i64 0]) (by simp [results,Tryz.results59,go_sem,a0,a1]) rfl ?_
    rcases HO4.out with ⟨_,⟨m,hf⟩,hm⟩|⟨h0,_⟩
    ·refine ⟨#[.slice dA dn dc,.slice rA rn rc],0,0,rfl,(HB5.out.setCell (Nat.le_refl _) _).setCell (Nat.le_refl _) _,.inl ⟨rfl,rfl,(ds,rz.map Ru.p),?_,?_⟩⟩
     ·rw [whole_ok HW.out]
      simp only [hf,onlyS]
      rw [left_cons HP4.out.ilt,HTk.out]
      rfl
     ·have hM:MemP (w3.alloc (.cells #[.slice A l.length c,.int .i64 0] 132)).heap.size w4 #[.slice dA dn dc,.slice rA rn rc] (ds,rz.map Ru.p):=⟨ds,rz,dA,rA,dn,dc,rn,rc,rfl,rfl,hm⟩
      have hsz:(w3.alloc (.cells #[.slice A l.length c,.int .i64 0] 132)).heap.size=w3.heap.size+1:=by simp
      refine hM.frame (by rw [hsz];omega) (Nat.le_trans (Nat.le_trans (by simp) HB45.out.size) (Nat.le_of_eq (sets2_size w5 w.heap.size _ _).symm)) fun b h1 h2=>?_
      rw [hsz] at h1
      exact (sets2_block w5 w.heap.size _ _ (by omega)).trans ((HB45.out.block b (by simp;omega)).trans (Below.heap_alloc w4 _ b h2))
    ·exact absurd rfl h0
   ·have hkb:(k != 0)=true:=bne_iff_ne.2 hk
    have HKn:=Lib.hid hk
    clear hk
    have c0:=fun o=>(HZ44.out.alloc o).get2.1
    have c1:=fun o=>(HZ44.out.alloc o).get2.2.1
    have f0:=fun o=>(HZ44.out.alloc o).get2.2.2.1
    have f1:=fun o=>(HZ44.out.alloc o).get2.2.2.2
    have d0:=fun o=>(HZ74.out.alloc o).get2.1
    have d1:=fun o=>(HZ74.out.alloc o).get2.2.1
    go_wp2_with (go_at_call 94;refine (QN.out _ (HP4.out.alloc _)).mono ?_;rintro en w6 ⟨rfl,hb6⟩;have HB6:=Lib.hid (Below.after (HB4.out.alloc (by omega) _) hb6 (by simp<;>omega));have HP6:=Lib.hid ((HP4.out.alloc _).below hb6);have HZ46:=Lib.hid ((HZ44.out.alloc _).below hb6);have HZ76:=Lib.hid ((HZ74.out.alloc _).below hb6);have hs6:w.heap.size+2≤w6.heap.size:=(by have:=hb6.size;simp at this;omega);obtain ⟨a0,a1,a2,a3⟩:=((HZ44.out.alloc _).below hb6).get2;obtain ⟨a4,a5,a6,a7⟩:=((HZ74.out.alloc _).below hb6).get2;clear hb6)
    clear a0 a1 a2 a3
    go_region_with (go_at_call 94;refine (QN.out _ (by first|exact HP6.out|exact HP6.out.drewN 1|exact (HP6.out.drewN 1).drewN 1)).mono ?_;rintro en w5 ⟨rfl,hb5⟩;have hb0:Below w6.heap.size w6 w5:=(by first|exact hb5|exact ⟨hb5.os,hb5.tape,hb5.output,hb5.size,hb5.block⟩);have HB5:=Lib.hid (Below.after HB6.out hb0 (by omega));obtain ⟨a0,a1,a2,a3⟩:=(HZ46.out.below hb0).get2;obtain ⟨b4,b5,b6,b7⟩:=(HZ76.out.below hb0).get2;clear hb5 hb0)
    all_goals
     go_wp2_with fail
     refine bodyPost_ret (v:=.tuple #[.agg #[.slice none 0 0,.slice none 0 0],.int .i64 (q:Int),.int .i64 16]) (by simp [results,Tryz.results59,go_sem,a0,a1]) rfl ?_
     refine ⟨#[.slice none 0 0,.slice none 0 0],q,16,rfl,?_,.inr ⟨by omega,rfl,?_⟩⟩
     ·first|exact (HB5.out.setCell (Nat.le_refl _) _).setCell (Nat.le_refl _) _|exact ((HB5.out.setCell (Nat.le_refl _) _).setCell (Nat.le_refl _) _).drew
     ·rw [whole_ok HW.out]
      rcases HO4.out with ⟨_,⟨m,hf⟩,hm⟩|⟨h0,_⟩
      ·have hne:¬((leftT l j).headD (0,[],false)).1=0:=by
        rw [left_cons HP4.out.ilt,HTk.out]
        exact HKn.out
       simp only [hf,onlyS,if_neg hne,off_here HP4.out.ilt,HTk.out]
      ·exact absurd rfl h0
  ·have hne:(er != 0)=true:=bne_iff_ne.2 her
   have hne2:(er==0)=false:=by simpa using her
   have HE:=Lib.hid her
   clear her
   have c0:=fun o=>(HZ44.out.alloc o).get2.1
   have c1:=fun o=>(HZ44.out.alloc o).get2.2.1
   have f0:=fun o=>(HZ44.out.alloc o).get2.2.2.1
   have f1:=fun o=>(HZ44.out.alloc o).get2.2.2.2
   have d0:=fun o=>(HZ74.out.alloc o).get2.1
   have d1:=fun o=>(HZ74.out.alloc o).get2.2.1
   go_wp2_with fail
   go_region_with (go_at_call 94;refine (QN.out _ (by first|exact HP4.out.alloc _|exact (HP4.out.alloc _).drewN 1|exact ((HP4.out.alloc _).drewN 1).drewN 1)).mono ?_;rintro en w5 ⟨rfl,hb5⟩;have hb0:Below (w4.alloc (.cells #[.slice dA dn dc,.slice rA rn rc] 35)).heap.size (w4.alloc (.cells #[.slice dA dn dc,.slice rA rn rc] 35)) w5:=(by first|exact hb5|exact ⟨hb5.os,hb5.tape,hb5.output,hb5.size,hb5.block⟩);have HB5:=Lib.hid (Below.after (HB4.out.alloc (by omega) _) hb0 (by simp<;>omega));obtain ⟨a0,a1,a2,a3⟩:=((HZ44.out.alloc _).below hb0).get2;obtain ⟨a4,a5,a6,a7⟩:=((HZ74.out.alloc _).below hb0).get2;clear hb5 hb0)
   all_goals
    go_wp2_with fail
    refine bodyPost_ret (v:=.tuple #[.agg #[.slice none 0 0,.slice none 0 0],.int .i64 (q:Int),.int .i64 er]) (by simp [results,Tryz.results59,go_sem,a0,a1]) rfl ?_
    refine ⟨#[.slice none 0 0,.slice none 0 0],q,er,rfl,?_,.inr ⟨HE.out,rfl,?_⟩⟩
    ·first|exact (HB5.out.setCell (Nat.le_refl _) _).setCell (Nat.le_refl _) _|exact ((HB5.out.setCell (Nat.le_refl _) _).setCell (Nat.le_refl _) _).drew
    ·rw [whole_ok HW.out]
     rcases HO4.out with ⟨h0,_⟩|⟨_,hf⟩
     ·exact absurd h0 HE.out
     ·simp only [hf,onlyS,off_here HP4.out.ilt,HTk.out]
 ·have HE:=Lib.hid he
  have hne:(e != 0)=true:=bne_iff_ne.2 he
  clear he
  go_enter Tryz.func59,Tryz.ntmps59
  go_wp2_with fail
  refine (QS.out _).mono ?_
  rintro en w3 ⟨A,c,rfl,_,hb3⟩
  have HB3:=Lib.hid (show Below w.heap.size w w3 from Below.after (((Below.refl w.heap.size w).alloc (Nat.le_refl _) (.cells #[.slice none 0 0,.slice none 0 0] 35)).alloc (by simp) (.cells #[.slice none 0 0,.slice none 0 0] 35)) hb3 (by simp<;>omega))
  obtain ⟨c0,c1,f0,f1⟩:=(((BoxL.new w [.slice none 0 0,.slice none 0 0] 35).alloc (.cells #[.slice none 0 0,.slice none 0 0] 35)).below hb3).get2
  obtain ⟨d0,d1,_,_⟩:=(show BoxL w3 (w.heap.size+1) [.slice none 0 0,.slice none 0 0] by
   have:=BoxL.new (w.alloc (.cells #[.slice none 0 0,.slice none 0 0] 35)) [.slice none 0 0,.slice none 0 0] 35
   rw [show (w.alloc (.cells #[.slice none 0 0,.slice none 0 0] 35)).heap.size=w.heap.size+1 by simp] at this
   exact this.below hb3).get2
  clear hb3
  go_wp2_with fail
  refine bodyPost_ret (v:=.tuple #[.agg #[.slice none 0 0,.slice none 0 0],.int .i64 (p:Int),.int .i64 e]) (by simp [results,Tryz.results59,go_sem,c0,c1]) rfl ?_
  exact ⟨#[.slice none 0 0,.slice none 0 0],p,e,rfl,(HB3.out.setCell (Nat.le_refl _) _).setCell (Nat.le_refl _) _,.inr ⟨HE.out,rfl,whole_err HW.out HE.out⟩⟩
end Go.Proofs.YtnghanpmmbcbbaaGreatDoor
