/-
  RzWholeP.
  PgWholeR.
  RzWholeR.
 PgWholeP.
 RzProgP.
 RzProg.
 PgWholeQ.
-/
import Derived.Test.YtaojnljppcnhjaaGreatDoorMh28
import Derived.Test.YtaojnljppcnhjaaGreatDoorMh11
import Derived.Test.YtaojnljppcnhjaaGreatDoorMh15
namespace Go.Proofs.YtaojnljppcnhjaaGreatDoor
open Go.RowKit
section
variable {α:Type} {E:Elt α} {B:Option Addr} {xs:List α} {w w':World}
structure RdL (E:Elt α) (w:World) (B:Option Addr) (xs:List α):Prop where
 at_:∀x∈xs,E.At w x
 row:0 < xs.length→∃g,B=some ⟨g,0,none⟩∧∀j u,(E.cellsL xs)[j]?=some u→w.cell? ⟨g,j,none⟩=some u
def blkR (E:Elt α) (B:Option Addr) (xs:List α):List Nat:=blkA B xs.length++E.blkL xs
theorem RdL.frame (h:RdL E w B xs) (hb:∀b∈blkR E B xs,w'.heap[b]?=w.heap[b]?):RdL E w' B xs:=by
 refine ⟨fun x hx=>E.frame (h.at_ x hx) fun b hbx=>hb b (List.mem_append.2 (.inr (List.mem_flatMap.2 ⟨x,hx,hbx⟩))),fun h0=>?_⟩
 obtain ⟨g,e,hr⟩:=h.row h0
 subst e
 refine ⟨g,rfl,fun j u hu=>?_⟩
 rw [World.cell?_of_block (a:=⟨g,j,none⟩) (hb g (List.mem_append.2 (.inl (by simp [blkA,blkO,show ¬xs.length=0 by omega]))))]
 exact hr j u hu
theorem RowZ.rd [Inhabited α] {T:TypeId} {lo cap:Nat} {z:Value} (h:RowZ E T lo z w (.slice B xs.length cap) xs):RdL E w B xs:=⟨h.sit.at_,fun h0=>h.first h0⟩
theorem RowZ.blkR {T:TypeId} {lo cap:Nat} {z:Value} (h:RowZ E T lo z w (.slice B xs.length cap) xs):∀b∈blkR E B xs,lo≤b∧b < w.heap.size∧z.ownBlock≠some b:=fun b hb=>by
 rcases List.mem_append.1 hb with hb|hb
 ·by_cases h0:xs.length=0
  ·simp [blkA,h0] at hb
  ·rcases h.row.2 with ⟨e,h1⟩|⟨g,cap',cur,e,_⟩
   ·exact absurd h1 h0
   ·injection e with e1 e2 e3
    subst e1
    have hbg:b=g:=by simpa [blkA,blkO,h0] using hb
    subst hbg
    exact ⟨(own_lt h.row b rfl).1,(own_lt h.row b rfl).2,h.zap b rfl⟩
 ·exact ⟨(h.sit.bd b hb).1,(h.sit.bd b hb).2,h.sit.out b hb⟩
end
def elRu:Elt Ru:=⟨6,Ru.cells,fun _=>rfl,ru_one,fun x=>(blkR elAm x.kA x.ks++blkR elAm x.rA x.rs)++(blkR elGl x.gA x.gs++blkR elGl x.bA x.bs),fun w x=>x.t.length≤16384∧(RdL elAm w x.kA x.ks∧RdL elAm w x.rA x.rs)∧(RdL elGl w x.gA x.gs∧RdL elGl w x.bA x.bs),fun h hb=>⟨h.1,
 ⟨h.2.1.1.frame fun b h=>hb b (List.mem_append.2 (.inl (List.mem_append.2 (.inl h)))),h.2.1.2.frame fun b h=>hb b (List.mem_append.2 (.inl (List.mem_append.2 (.inr h))))⟩,
 ⟨h.2.2.1.frame fun b h=>hb b (List.mem_append.2 (.inr (List.mem_append.2 (.inl h)))),h.2.2.2.frame fun b h=>hb b (List.mem_append.2 (.inr (List.mem_append.2 (.inr h))))⟩⟩⟩
def MemRz (lo:Nat) (w:World) (V:Array Value) (x:Rs):Prop:=∃u:Ru,V=u.cells.toArray∧x=u.p∧SitZ elRu lo Z0 w [u]
theorem pr_new {w:World} {A:Option Addr} {c:Nat} {l:List Tk} (h:TLst w A l c) (hn:0 < l.length) (t:TypeId):Pr (w.alloc (.cells #[.slice A l.length c,.int .i64 0,.slice none 0 0,.int .i64 0,.int .i64 0] t)) w.heap.size A c l 0 Z0 [] 0 0:=by
 have hb:=BoxL.new w [.slice A l.length c,.int .i64 0,.slice none 0 0,.int .i64 0,.int .i64 0] t
 refine ⟨hb.lt,hb.cells 0 _ rfl,hb.cells 1 _ rfl,hb.cells 2 _ rfl,hb.cells 3 _ rfl,hb.cells 4 _ rfl,hb.free,h.below ((Below.refl _ _).alloc (Nat.le_refl _) _),fun g e=>?_,hn,World.ownsRow_nil _ _ _ _⟩
 obtain ⟨g2,e2,hr⟩:=h.2.2 hn
 rw [e] at e2
 injection e2 with e2
 injection e2 with e2
 subst e2
 exact cell_in (hr 0 hn 0 _ rfl)
section
variable {F:Nat} {R:Nat} {A:Option Addr} {c:Nat} {l:List Tk}
end
end Go.Proofs.YtaojnljppcnhjaaGreatDoor
namespace Go.Proofs.YtaojnljppcnhjaaGreatDoor
open Go.RowKit
def MemR (lo:Nat) (w':World) (V:Array Value) (x:Rs):Prop:=∃(t:List UInt8) (ks rs:List Am) (gs bs:List Gl) (kA rA gA bA:Option Addr) (kn kc rn rc gn gc bn bc n:Nat),V=#[.string (S t),.slice kA kn kc,.slice rA rn rc,.slice gA gn gc,.slice bA bn bc,.int .i64 (n:Int)]∧x=(ruP t ks rs gs bs n)∧RuAt lo w' t ks rs gs bs (.slice kA kn kc) (.slice rA rn rc) (.slice gA gn gc) (.slice bA bn bc)
theorem MemR.frame {lo lo':Nat} {w w':World} {V:Array Value} {x:Rs} (h:MemR lo w V x) (hlo:lo'≤lo) (hs:w.heap.size≤w'.heap.size) (hb:∀b,lo≤b→b < w.heap.size→w'.heap[b]?=w.heap[b]?):MemR lo' w' V x:=by
 obtain ⟨t,ks,rs,gs,bs,kA,rA,gA,bA,kn,kc,rn,rc,gn,gc,bn,bc,n,e1,e2,hm⟩:=h
 exact ⟨t,ks,rs,gs,bs,kA,rA,gA,bA,kn,kc,rn,rc,gn,gc,bn,bc,n,e1,e2,ruat_frame hm hlo hs hb⟩
set_option maxHeartbeats 8000000 in
set_option maxRecDepth 100000 in
theorem whole_R {ex:Rd1 Tm} (hR:∀(R:Nat) (A:Option Addr) (c:Nat) (l:List Tk) (w:World),GoodT l→Pq w R A c l 0→Calls Tryz.prog 30 #[.pointer (some ⟨R,0,none⟩)] w (RuleQ ex R A c l 0 w))
  (s:ByteArray) (hs:s.size≤100000) (w:World) :
  Calls Tryz.prog 29 #[.string s,.func (.func 30) #[] #[]] w (WholeQ (ruleS ex) #[.string ⟨#[]⟩,.slice none 0 0,.slice none 0 0,.slice none 0 0,.slice none 0 0,.int .i64 0] MemR s w):=by
 have QS:=Lib.hid (fun W=>scan_at s W hs)
 have HR:=Lib.hid hR
 have HSc:=Lib.hid (fun h0=>good_scan (s:=s) h0)
 obtain ⟨sc,hsc⟩:∃sc,scanP s=sc:=⟨_,rfl⟩
 rw [show ScanR s=fun w e w'=>∃A c,e=.returned (.tuple #[.slice A (scanP s).1.length c,.int .i64 ((scanP s).2.1:Int),.int .i64 (scanP s).2.2])∧TLst w' A (scanP s).1 c∧Below w.heap.size w w' from rfl,hsc] at QS
 rw [hsc] at HSc
 obtain ⟨l,p,e⟩:=sc
 have HW:=Lib.hid hsc
 clear hsc hR hs
 by_cases he:e=0
 ·subst he
  go_enter Tryz.func29,Tryz.ntmps29
  go_wp2_with fail
  refine (QS.out _).mono ?_
  rintro en w3 ⟨A,c,rfl,hT,hb3⟩
  have HT:=Lib.hid (show TLst w3 A l c from hT)
  have HG:=Lib.hid (show GoodT l by first|exact HSc.out rfl|exact HSc.out trivial)
  have HB3:=Lib.hid (show Below w.heap.size w w3 from Below.after (((Below.refl w.heap.size w).alloc (Nat.le_refl _) (.cells #[.string ⟨#[]⟩,.slice none 0 0,.slice none 0 0,.slice none 0 0,.slice none 0 0,.int .i64 0] 35)).alloc (by simp) (.cells #[.string ⟨#[]⟩,.slice none 0 0,.slice none 0 0,.slice none 0 0,.slice none 0 0,.int .i64 0] 35)) hb3 (by simp<;>omega))
  have HZ4:=Lib.hid ((BoxL.new w [.string ⟨#[]⟩,.slice none 0 0,.slice none 0 0,.slice none 0 0,.slice none 0 0,.int .i64 0] 35).alloc (.cells #[.string ⟨#[]⟩,.slice none 0 0,.slice none 0 0,.slice none 0 0,.slice none 0 0,.int .i64 0] 35) |>.below hb3)
  have HZ7:=Lib.hid (show BoxL w3 (w.heap.size+1) [.string ⟨#[]⟩,.slice none 0 0,.slice none 0 0,.slice none 0 0,.slice none 0 0,.int .i64 0] by
   have:=BoxL.new (w.alloc (.cells #[.string ⟨#[]⟩,.slice none 0 0,.slice none 0 0,.slice none 0 0,.slice none 0 0,.int .i64 0] 35)) [.string ⟨#[]⟩,.slice none 0 0,.slice none 0 0,.slice none 0 0,.slice none 0 0,.int .i64 0] 35
   rw [show (w.alloc (.cells #[.string ⟨#[]⟩,.slice none 0 0,.slice none 0 0,.slice none 0 0,.slice none 0 0,.int .i64 0] 35)).heap.size=w.heap.size+1 by simp] at this
   exact this.below hb3)
  have hsz3:w.heap.size+2≤w3.heap.size:=by have:=hb3.size;simpa using this
  have HP:=Lib.hid (new_parser HT.out HG.out.ended.1 98)
  have QR:=Lib.hid (HR.out _ A c l _ HG.out HP.out)
  clear hT hb3 HSc QS
  go_wp2_with fail
  refine QR.out.mono ?_
  rintro en w4 ⟨t,ks,rs,gs,bs,kA,rA,gA,bA,kn,kc,rn,rc,gn,gc,bn,bc,n,j,er,rfl,hk4,hp4,ho4⟩
  have hs34:w3.heap.size+1≤w4.heap.size:=by have:=hk4.size;simpa using this
  have HB4:=Lib.hid (show Below w.heap.size w w4 from ⟨hk4.os.trans HB3.out.os,hk4.tape.trans HB3.out.tape,hk4.output.trans HB3.out.output,by omega,fun k hk=>(hk4.block k (by simp;omega) (by omega) (Z0_own k)).trans ((Below.heap_alloc w3 _ k (by omega)).trans (HB3.out.block k hk))⟩)
  have HZ44:=Lib.hid ((HZ4.out.alloc _).kq hk4 (by omega))
  have HZ74:=Lib.hid ((HZ7.out.alloc _).kq hk4 (by omega))
  have HP4:=Lib.hid hp4
  have HO4:=Lib.hid ho4
  obtain ⟨tk,htk⟩:∃tk,l.getD j default=tk:=⟨_,rfl⟩
  obtain ⟨k,q,x⟩:=tk
  have fk:=tok_kind k (q:Int) (S x)
  have fa:=tok_at k (q:Int) (S x)
  have QN:=Lib.hid (fun W (hW:Pq W w3.heap.size A c l j)=>p_next_of hW htk)
  have HTk:=Lib.hid htk
  clear hk4 hp4 ho4 htk
  by_cases her:er=0
  ·subst her
   by_cases hk:k=0
   ·subst hk
    have c0:=fun o=>(HZ44.out.alloc o).get6.1
    have c1:=fun o=>(HZ44.out.alloc o).get6.2.1
    have c2:=fun o=>(HZ44.out.alloc o).get6.2.2.1
    have c3:=fun o=>(HZ44.out.alloc o).get6.2.2.2.1
    have c4:=fun o=>(HZ44.out.alloc o).get6.2.2.2.2.1
    have c5:=fun o=>(HZ44.out.alloc o).get6.2.2.2.2.2.1
    have f0:=fun o=>(HZ44.out.alloc o).get6.2.2.2.2.2.2.1
    have f1:=fun o=>(HZ44.out.alloc o).get6.2.2.2.2.2.2.2.1
    have f2:=fun o=>(HZ44.out.alloc o).get6.2.2.2.2.2.2.2.2.1
    have f3:=fun o=>(HZ44.out.alloc o).get6.2.2.2.2.2.2.2.2.2.1
    have f4:=fun o=>(HZ44.out.alloc o).get6.2.2.2.2.2.2.2.2.2.2.1
    have f5:=fun o=>(HZ44.out.alloc o).get6.2.2.2.2.2.2.2.2.2.2.2
    have d0:=fun o=>(HZ74.out.alloc o).get6.1
    have d1:=fun o=>(HZ74.out.alloc o).get6.2.1
    have d2:=fun o=>(HZ74.out.alloc o).get6.2.2.1
    have d3:=fun o=>(HZ74.out.alloc o).get6.2.2.2.1
    have d4:=fun o=>(HZ74.out.alloc o).get6.2.2.2.2.1
    have d5:=fun o=>(HZ74.out.alloc o).get6.2.2.2.2.2.1
    go_wp2_with (go_at_call 44;refine (QN.out _ (HP4.out.alloc _)).mono ?_;rintro en w5 ⟨rfl,hb5⟩;have HB5:=Lib.hid (Below.after (HB4.out.alloc (by omega) _) hb5 (by simp<;>omega));have HB45:=Lib.hid hb5;obtain ⟨a0,a1,a2,a3,a4,a5,qa0,qa1,qa2,qa3,qa4,qa5⟩:=((HZ44.out.alloc _).below hb5).get6;obtain ⟨b0,b1,b2,b3,b4,b5,qb0,qb1,qb2,qb3,qb4,qb5⟩:=((BoxL.new w4 [.string (S t),.slice kA kn kc,.slice rA rn rc,.slice gA gn gc,.slice bA bn bc,.int .i64 (n:Int)] 35).below hb5).get6;clear hb5)
    refine bodyPost_ret (v:=.tuple #[.agg #[.string (S t),.slice kA kn kc,.slice rA rn rc,.slice gA gn gc,.slice bA bn bc,.int .i64 (n:Int)],.int .i64 0,.int .i64 0]) (by simp [results,Tryz.results29,go_sem,a0,a1,a2,a3,a4,a5]) rfl ?_
    rcases HO4.out with ⟨_,⟨m,hf⟩,_,hm⟩|⟨h0,_⟩
    ·refine ⟨#[.string (S t),.slice kA kn kc,.slice rA rn rc,.slice gA gn gc,.slice bA bn bc,.int .i64 (n:Int)],0,0,rfl,(((((HB5.out.setCell (Nat.le_refl _) _).setCell (Nat.le_refl _) _).setCell (Nat.le_refl _) _).setCell (Nat.le_refl _) _).setCell (Nat.le_refl _) _).setCell (Nat.le_refl _) _,.inl ⟨rfl,rfl,(ruP t ks rs gs bs n),?_,?_⟩⟩
     ·rw [whole_ok HW.out]
      simp only [hf,onlyS]
      rw [left_cons HP4.out.ilt,HTk.out]
      rfl
     ·have hM:MemR (w3.alloc (.cells #[.slice A l.length c,.int .i64 0] 98)).heap.size w4 #[.string (S t),.slice kA kn kc,.slice rA rn rc,.slice gA gn gc,.slice bA bn bc,.int .i64 (n:Int)] (ruP t ks rs gs bs n):=⟨t,ks,rs,gs,bs,kA,rA,gA,bA,kn,kc,rn,rc,gn,gc,bn,bc,n,rfl,rfl,hm⟩
      have hsz:(w3.alloc (.cells #[.slice A l.length c,.int .i64 0] 98)).heap.size=w3.heap.size+1:=by simp
      refine hM.frame (by rw [hsz];omega) (Nat.le_trans (Nat.le_trans (by simp) HB45.out.size) (Nat.le_of_eq (sets6_size w5 w.heap.size _ _ _ _ _ _).symm)) fun b h1 h2=>?_
      rw [hsz] at h1
      exact (sets6_block w5 w.heap.size _ _ _ _ _ _ (by omega)).trans ((HB45.out.block b (by simp;omega)).trans (Below.heap_alloc w4 _ b h2))
    ·exact absurd rfl h0
   ·have hkb:(k != 0)=true:=bne_iff_ne.2 hk
    have HKn:=Lib.hid hk
    clear hk
    have c0:=fun o=>(HZ44.out.alloc o).get6.1
    have c1:=fun o=>(HZ44.out.alloc o).get6.2.1
    have c2:=fun o=>(HZ44.out.alloc o).get6.2.2.1
    have c3:=fun o=>(HZ44.out.alloc o).get6.2.2.2.1
    have c4:=fun o=>(HZ44.out.alloc o).get6.2.2.2.2.1
    have c5:=fun o=>(HZ44.out.alloc o).get6.2.2.2.2.2.1
    have f0:=fun o=>(HZ44.out.alloc o).get6.2.2.2.2.2.2.1
    have f1:=fun o=>(HZ44.out.alloc o).get6.2.2.2.2.2.2.2.1
    have f2:=fun o=>(HZ44.out.alloc o).get6.2.2.2.2.2.2.2.2.1
    have f3:=fun o=>(HZ44.out.alloc o).get6.2.2.2.2.2.2.2.2.2.1
    have f4:=fun o=>(HZ44.out.alloc o).get6.2.2.2.2.2.2.2.2.2.2.1
    have f5:=fun o=>(HZ44.out.alloc o).get6.2.2.2.2.2.2.2.2.2.2.2
    have d0:=fun o=>(HZ74.out.alloc o).get6.1
    have d1:=fun o=>(HZ74.out.alloc o).get6.2.1
    have d2:=fun o=>(HZ74.out.alloc o).get6.2.2.1
    have d3:=fun o=>(HZ74.out.alloc o).get6.2.2.2.1
    have d4:=fun o=>(HZ74.out.alloc o).get6.2.2.2.2.1
    have d5:=fun o=>(HZ74.out.alloc o).get6.2.2.2.2.2.1
    go_wp2_with (go_at_call 44;refine (QN.out _ (HP4.out.alloc _)).mono ?_;rintro en w6 ⟨rfl,hb6⟩;have HB6:=Lib.hid (Below.after (HB4.out.alloc (by omega) _) hb6 (by simp<;>omega));have HP6:=Lib.hid ((HP4.out.alloc _).below hb6);have HZ46:=Lib.hid ((HZ44.out.alloc _).below hb6);have HZ76:=Lib.hid ((HZ74.out.alloc _).below hb6);have hs6:w.heap.size+2≤w6.heap.size:=(by have:=hb6.size;simp at this;omega);obtain ⟨a0,a1,a2,a3,a4,a5,qa0,qa1,qa2,qa3,qa4,qa5⟩:=((HZ44.out.alloc _).below hb6).get6;obtain ⟨a40,a41,a42,a43,a44,a45,qa40,qa41,qa42,qa43,qa44,qa45⟩:=((HZ74.out.alloc _).below hb6).get6;clear hb6)
    clear a0 a1 a2 a3
    go_region_with (go_at_call 44;refine (QN.out _ (by first|exact HP6.out|exact HP6.out.drewN 1|exact (HP6.out.drewN 1).drewN 1)).mono ?_;rintro en w5 ⟨rfl,hb5⟩;have hb0:Below w6.heap.size w6 w5:=(by first|exact hb5|exact ⟨hb5.os,hb5.tape,hb5.output,hb5.size,hb5.block⟩);have HB5:=Lib.hid (Below.after HB6.out hb0 (by omega));obtain ⟨a0,a1,a2,a3,a4,a5,qa0,qa1,qa2,qa3,qa4,qa5⟩:=(HZ46.out.below hb0).get6;obtain ⟨b40,b41,b42,b43,b44,b45,qb40,qb41,qb42,qb43,qb44,qb45⟩:=(HZ76.out.below hb0).get6;clear hb5 hb0)
    all_goals
     go_wp2_with fail
     refine bodyPost_ret (v:=.tuple #[.agg #[.string ⟨#[]⟩,.slice none 0 0,.slice none 0 0,.slice none 0 0,.slice none 0 0,.int .i64 0],.int .i64 (q:Int),.int .i64 16]) (by simp [results,Tryz.results29,go_sem,a0,a1,a2,a3,a4,a5]) rfl ?_
     refine ⟨#[.string ⟨#[]⟩,.slice none 0 0,.slice none 0 0,.slice none 0 0,.slice none 0 0,.int .i64 0],q,16,rfl,?_,.inr ⟨by omega,rfl,?_⟩⟩
     ·first|exact (((((HB5.out.setCell (Nat.le_refl _) _).setCell (Nat.le_refl _) _).setCell (Nat.le_refl _) _).setCell (Nat.le_refl _) _).setCell (Nat.le_refl _) _).setCell (Nat.le_refl _) _|exact ((((((HB5.out.setCell (Nat.le_refl _) _).setCell (Nat.le_refl _) _).setCell (Nat.le_refl _) _).setCell (Nat.le_refl _) _).setCell (Nat.le_refl _) _).setCell (Nat.le_refl _) _).drew
     ·rw [whole_ok HW.out]
      rcases HO4.out with ⟨_,⟨m,hf⟩,_,hm⟩|⟨h0,_⟩
      ·have hne:¬((leftT l j).headD (0,[],false)).1=0:=by
        rw [left_cons HP4.out.ilt,HTk.out]
        exact HKn.out
       simp only [hf,onlyS,if_neg hne,off_here HP4.out.ilt,HTk.out]
      ·exact absurd rfl h0
  ·have hne:(er != 0)=true:=bne_iff_ne.2 her
   have hne2:(er==0)=false:=by simpa using her
   have HE:=Lib.hid her
   clear her
   have c0:=fun o=>(HZ44.out.alloc o).get6.1
   have c1:=fun o=>(HZ44.out.alloc o).get6.2.1
   have c2:=fun o=>(HZ44.out.alloc o).get6.2.2.1
   have c3:=fun o=>(HZ44.out.alloc o).get6.2.2.2.1
   have c4:=fun o=>(HZ44.out.alloc o).get6.2.2.2.2.1
   have c5:=fun o=>(HZ44.out.alloc o).get6.2.2.2.2.2.1
   have f0:=fun o=>(HZ44.out.alloc o).get6.2.2.2.2.2.2.1
   have f1:=fun o=>(HZ44.out.alloc o).get6.2.2.2.2.2.2.2.1
   have f2:=fun o=>(HZ44.out.alloc o).get6.2.2.2.2.2.2.2.2.1
   have f3:=fun o=>(HZ44.out.alloc o).get6.2.2.2.2.2.2.2.2.2.1
   have f4:=fun o=>(HZ44.out.alloc o).get6.2.2.2.2.2.2.2.2.2.2.1
   have f5:=fun o=>(HZ44.out.alloc o).get6.2.2.2.2.2.2.2.2.2.2.2
   have d0:=fun o=>(HZ74.out.alloc o).get6.1
   have d1:=fun o=>(HZ74.out.alloc o).get6.2.1
   have d2:=fun o=>(HZ74.out.alloc o).get6.2.2.1
   have d3:=fun o=>(HZ74.out.alloc o).get6.2.2.2.1
   have d4:=fun o=>(HZ74.out.alloc o).get6.2.2.2.2.1
   have d5:=fun o=>(HZ74.out.alloc o).get6.2.2.2.2.2.1
   go_wp2_with fail
   go_region_with (go_at_call 44;refine (QN.out _ (by first|exact HP4.out.alloc _|exact (HP4.out.alloc _).drewN 1|exact ((HP4.out.alloc _).drewN 1).drewN 1)).mono ?_;rintro en w5 ⟨rfl,hb5⟩;have hb0:Below (w4.alloc (.cells #[.string (S t),.slice kA kn kc,.slice rA rn rc,.slice gA gn gc,.slice bA bn bc,.int .i64 (n:Int)] 35)).heap.size (w4.alloc (.cells #[.string (S t),.slice kA kn kc,.slice rA rn rc,.slice gA gn gc,.slice bA bn bc,.int .i64 (n:Int)] 35)) w5:=(by first|exact hb5|exact ⟨hb5.os,hb5.tape,hb5.output,hb5.size,hb5.block⟩);have HB5:=Lib.hid (Below.after (HB4.out.alloc (by omega) _) hb0 (by simp<;>omega));obtain ⟨a0,a1,a2,a3,a4,a5,qa0,qa1,qa2,qa3,qa4,qa5⟩:=((HZ44.out.alloc _).below hb0).get6;obtain ⟨a40,a41,a42,a43,a44,a45,qa40,qa41,qa42,qa43,qa44,qa45⟩:=((HZ74.out.alloc _).below hb0).get6;clear hb5 hb0)
   all_goals
    go_wp2_with fail
    refine bodyPost_ret (v:=.tuple #[.agg #[.string ⟨#[]⟩,.slice none 0 0,.slice none 0 0,.slice none 0 0,.slice none 0 0,.int .i64 0],.int .i64 (q:Int),.int .i64 er]) (by simp [results,Tryz.results29,go_sem,a0,a1,a2,a3,a4,a5]) rfl ?_
    refine ⟨#[.string ⟨#[]⟩,.slice none 0 0,.slice none 0 0,.slice none 0 0,.slice none 0 0,.int .i64 0],q,er,rfl,?_,.inr ⟨HE.out,rfl,?_⟩⟩
    ·first|exact (((((HB5.out.setCell (Nat.le_refl _) _).setCell (Nat.le_refl _) _).setCell (Nat.le_refl _) _).setCell (Nat.le_refl _) _).setCell (Nat.le_refl _) _).setCell (Nat.le_refl _) _|exact ((((((HB5.out.setCell (Nat.le_refl _) _).setCell (Nat.le_refl _) _).setCell (Nat.le_refl _) _).setCell (Nat.le_refl _) _).setCell (Nat.le_refl _) _).setCell (Nat.le_refl _) _).drew
    ·rw [whole_ok HW.out]
     rcases HO4.out with ⟨h0,_⟩|⟨_,hf⟩
     ·exact absurd h0 HE.out
     ·simp only [hf,onlyS,off_here HP4.out.ilt,HTk.out]
 ·have HE:=Lib.hid he
  have hne:(e != 0)=true:=bne_iff_ne.2 he
  clear he
  go_enter Tryz.func29,Tryz.ntmps29
  go_wp2_with fail
  refine (QS.out _).mono ?_
  rintro en w3 ⟨A,c,rfl,_,hb3⟩
  have HB3:=Lib.hid (show Below w.heap.size w w3 from Below.after (((Below.refl w.heap.size w).alloc (Nat.le_refl _) (.cells #[.string ⟨#[]⟩,.slice none 0 0,.slice none 0 0,.slice none 0 0,.slice none 0 0,.int .i64 0] 35)).alloc (by simp) (.cells #[.string ⟨#[]⟩,.slice none 0 0,.slice none 0 0,.slice none 0 0,.slice none 0 0,.int .i64 0] 35)) hb3 (by simp<;>omega))
  obtain ⟨c0,c1,c2,c3,c4,c5,qc0,qc1,qc2,qc3,qc4,qc5⟩:=(((BoxL.new w [.string ⟨#[]⟩,.slice none 0 0,.slice none 0 0,.slice none 0 0,.slice none 0 0,.int .i64 0] 35).alloc (.cells #[.string ⟨#[]⟩,.slice none 0 0,.slice none 0 0,.slice none 0 0,.slice none 0 0,.int .i64 0] 35)).below hb3).get6
  obtain ⟨d0,d1,_,_⟩:=(show BoxL w3 (w.heap.size+1) [.string ⟨#[]⟩,.slice none 0 0,.slice none 0 0,.slice none 0 0,.slice none 0 0,.int .i64 0] by
   have:=BoxL.new (w.alloc (.cells #[.string ⟨#[]⟩,.slice none 0 0,.slice none 0 0,.slice none 0 0,.slice none 0 0,.int .i64 0] 35)) [.string ⟨#[]⟩,.slice none 0 0,.slice none 0 0,.slice none 0 0,.slice none 0 0,.int .i64 0] 35
   rw [show (w.alloc (.cells #[.string ⟨#[]⟩,.slice none 0 0,.slice none 0 0,.slice none 0 0,.slice none 0 0,.int .i64 0] 35)).heap.size=w.heap.size+1 by simp] at this
   exact this.below hb3).get6
  clear hb3
  go_wp2_with fail
  refine bodyPost_ret (v:=.tuple #[.agg #[.string ⟨#[]⟩,.slice none 0 0,.slice none 0 0,.slice none 0 0,.slice none 0 0,.int .i64 0],.int .i64 (p:Int),.int .i64 e]) (by simp [results,Tryz.results29,go_sem,c0,c1,c2,c3,c4,c5]) rfl ?_
  exact ⟨#[.string ⟨#[]⟩,.slice none 0 0,.slice none 0 0,.slice none 0 0,.slice none 0 0,.int .i64 0],p,e,rfl,(((((HB3.out.setCell (Nat.le_refl _) _).setCell (Nat.le_refl _) _).setCell (Nat.le_refl _) _).setCell (Nat.le_refl _) _).setCell (Nat.le_refl _) _).setCell (Nat.le_refl _) _,.inr ⟨HE.out,rfl,whole_err HW.out HE.out⟩⟩
end Go.Proofs.YtaojnljppcnhjaaGreatDoor
namespace Go.Proofs.YtaojnljppcnhjaaGreatDoor
open Go.RowKit
theorem Kp.bel {R lo:Nat} {z:Value} {w a b:World} (h:Kp R Z0 z a b) (hb:Below lo w a) (hR:lo≤R) (hl:lo≤a.heap.size):Below lo w b :=
 ⟨h.os.trans hb.os,h.tape.trans hb.tape,h.output.trans hb.output,Nat.le_trans hb.size h.size,fun k hk=>(h.block k (by omega) (by omega) (Z0_own k)).trans (hb.block k hk)⟩
theorem Kp.belz {R lo:Nat} {z z':Value} {w a b:World} (h:Kp R z z' a b) (hb:Below lo w a) (hR:lo≤R) (hl:lo≤a.heap.size) (hz:∀k,z.ownBlock=some k→lo≤k):Below lo w b :=
 ⟨h.os.trans hb.os,h.tape.trans hb.tape,h.output.trans hb.output,Nat.le_trans hb.size h.size,fun k hk=>(h.block k (by omega) (by omega) (fun e=>by have:=hz k e;omega)).trans (hb.block k hk)⟩
theorem SitZ.z0 {α:Type} {E:Elt α} {lo:Nat} {z:Value} {w:World} {l:List α} (h:SitZ E lo z w l):SitZ E lo Z0 w l:=⟨h.at_,h.bd,fun b _=>Z0_own b⟩
section
variable {F:Nat} (hF:16384≤F) (s:ByteArray) (hs:s.size≤100000) (w:World)
include hF hs
end
end Go.Proofs.YtaojnljppcnhjaaGreatDoor
namespace Go.Proofs.YtaojnljppcnhjaaGreatDoor
open Go.RowKit
def MemP (lo:Nat) (w':World) (V:Array Value) (x:List Dl×List Rs):Prop:=∃(ds:List Dl) (rz:List Ru) (dA rA:Option Addr) (dn dc rn rc:Nat),V=#[.slice dA dn dc,.slice rA rn rc]∧x=(ds,rz.map Ru.p)∧RowG elDl 72 lo w' (.slice dA dn dc) ds∧RowR lo w' (.slice rA rn rc) rz
theorem MemP.frame {lo lo':Nat} {w w':World} {V:Array Value} {x:List Dl×List Rs} (h:MemP lo w V x) (hlo:lo'≤lo) (hs:w.heap.size≤w'.heap.size) (hb:∀b,lo≤b→b < w.heap.size→w'.heap[b]?=w.heap[b]?):MemP lo' w' V x:=by
 obtain ⟨ds,rz,dA,rA,dn,dc,rn,rc,e1,e2,hm⟩:=h
 exact ⟨ds,rz,dA,rA,dn,dc,rn,rc,e1,e2,(hm.1.frame hs hb).low hlo,(hm.2.frame hs hb).low hlo⟩
set_option maxHeartbeats 8000000 in
set_option maxRecDepth 100000 in
theorem whole_P {ex:Rd1 Tm} (hR:∀(R:Nat) (A:Option Addr) (c:Nat) (l:List Tk) (w:World),GoodT l→Pq w R A c l 0→Calls Tryz.prog 24 #[.pointer (some ⟨R,0,none⟩)] w (ProgQ ex R A c l 0 w))
  (s:ByteArray) (hs:s.size≤100000) (w:World) :
  Calls Tryz.prog 23 #[.string s,.func (.func 24) #[] #[]] w (WholeQ (programS ex) #[.slice none 0 0,.slice none 0 0] MemP s w):=by
 have QS:=Lib.hid (fun W=>scan_at s W hs)
 have HR:=Lib.hid hR
 have HSc:=Lib.hid (fun h0=>good_scan (s:=s) h0)
 obtain ⟨sc,hsc⟩:∃sc,scanP s=sc:=⟨_,rfl⟩
 rw [show ScanR s=fun w e w'=>∃A c,e=.returned (.tuple #[.slice A (scanP s).1.length c,.int .i64 ((scanP s).2.1:Int),.int .i64 (scanP s).2.2])∧TLst w' A (scanP s).1 c∧Below w.heap.size w w' from rfl,hsc] at QS
 rw [hsc] at HSc
 obtain ⟨l,p,e⟩:=sc
 have HW:=Lib.hid hsc
 clear hsc hR hs
 by_cases he:e=0
 ·subst he
  go_enter Tryz.func23,Tryz.ntmps23
  go_wp2_with fail
  refine (QS.out _).mono ?_
  rintro en w3 ⟨A,c,rfl,hT,hb3⟩
  have HT:=Lib.hid (show TLst w3 A l c from hT)
  have HG:=Lib.hid (show GoodT l by first|exact HSc.out rfl|exact HSc.out trivial)
  have HB3:=Lib.hid (show Below w.heap.size w w3 from Below.after (((Below.refl w.heap.size w).alloc (Nat.le_refl _) (.cells #[.slice none 0 0,.slice none 0 0] 26)).alloc (by simp) (.cells #[.slice none 0 0,.slice none 0 0] 26)) hb3 (by simp<;>omega))
  have HZ4:=Lib.hid ((BoxL.new w [.slice none 0 0,.slice none 0 0] 26).alloc (.cells #[.slice none 0 0,.slice none 0 0] 26) |>.below hb3)
  have HZ7:=Lib.hid (show BoxL w3 (w.heap.size+1) [.slice none 0 0,.slice none 0 0] by
   have:=BoxL.new (w.alloc (.cells #[.slice none 0 0,.slice none 0 0] 26)) [.slice none 0 0,.slice none 0 0] 26
   rw [show (w.alloc (.cells #[.slice none 0 0,.slice none 0 0] 26)).heap.size=w.heap.size+1 by simp] at this
   exact this.below hb3)
  have hsz3:w.heap.size+2≤w3.heap.size:=by have:=hb3.size;simpa using this
  have HP:=Lib.hid (new_parser HT.out HG.out.ended.1 98)
  have QR:=Lib.hid (HR.out _ A c l _ HG.out HP.out)
  clear hT hb3 HSc QS
  go_wp2_with fail
  refine QR.out.mono ?_
  rintro en w4 ⟨ds,rz,dA,rA,dn,dc,rn,rc,j,er,rfl,hk4,hp4,ho4⟩
  have hs34:w3.heap.size+1≤w4.heap.size:=by have:=hk4.size;simpa using this
  have HB4:=Lib.hid (show Below w.heap.size w w4 from ⟨hk4.os.trans HB3.out.os,hk4.tape.trans HB3.out.tape,hk4.output.trans HB3.out.output,by omega,fun k hk=>(hk4.block k (by simp;omega) (by omega) (Z0_own k)).trans ((Below.heap_alloc w3 _ k (by omega)).trans (HB3.out.block k hk))⟩)
  have HZ44:=Lib.hid ((HZ4.out.alloc _).kq hk4 (by omega))
  have HZ74:=Lib.hid ((HZ7.out.alloc _).kq hk4 (by omega))
  have HP4:=Lib.hid hp4
  have HO4:=Lib.hid ho4
  obtain ⟨tk,htk⟩:∃tk,l.getD j default=tk:=⟨_,rfl⟩
  obtain ⟨k,q,x⟩:=tk
  have fk:=tok_kind k (q:Int) (S x)
  have fa:=tok_at k (q:Int) (S x)
  have QN:=Lib.hid (fun W (hW:Pq W w3.heap.size A c l j)=>p_next_of hW htk)
  have HTk:=Lib.hid htk
  clear hk4 hp4 ho4 htk
  by_cases her:er=0
  ·subst her
   by_cases hk:k=0
   ·subst hk
    have c0:=fun o=>(HZ44.out.alloc o).get2.1
    have c1:=fun o=>(HZ44.out.alloc o).get2.2.1
    have f0:=fun o=>(HZ44.out.alloc o).get2.2.2.1
    have f1:=fun o=>(HZ44.out.alloc o).get2.2.2.2
    have d0:=fun o=>(HZ74.out.alloc o).get2.1
    have d1:=fun o=>(HZ74.out.alloc o).get2.2.1
    go_wp2_with (go_at_call 44;refine (QN.out _ (HP4.out.alloc _)).mono ?_;rintro en w5 ⟨rfl,hb5⟩;have HB5:=Lib.hid (Below.after (HB4.out.alloc (by omega) _) hb5 (by simp<;>omega));have HB45:=Lib.hid hb5;obtain ⟨a0,a1,a2,a3⟩:=((HZ44.out.alloc _).below hb5).get2;obtain ⟨b0,b1,b2,b3⟩:=((BoxL.new w4 [.slice dA dn dc,.slice rA rn rc] 26).below hb5).get2;clear hb5)
    refine bodyPost_ret (v:=.tuple #[.agg #[.slice dA dn dc,.slice rA rn rc],.int .i64 0,.int .i64 0]) (by simp [results,Tryz.results23,go_sem,a0,a1]) rfl ?_
    rcases HO4.out with ⟨_,⟨m,hf⟩,hm⟩|⟨h0,_⟩
    ·refine ⟨#[.slice dA dn dc,.slice rA rn rc],0,0,rfl,(HB5.out.setCell (Nat.le_refl _) _).setCell (Nat.le_refl _) _,.inl ⟨rfl,rfl,(ds,rz.map Ru.p),?_,?_⟩⟩
     ·rw [whole_ok HW.out]
      simp only [hf,onlyS]
      rw [left_cons HP4.out.ilt,HTk.out]
      rfl
     ·have hM:MemP (w3.alloc (.cells #[.slice A l.length c,.int .i64 0] 98)).heap.size w4 #[.slice dA dn dc,.slice rA rn rc] (ds,rz.map Ru.p):=⟨ds,rz,dA,rA,dn,dc,rn,rc,rfl,rfl,hm⟩
      have hsz:(w3.alloc (.cells #[.slice A l.length c,.int .i64 0] 98)).heap.size=w3.heap.size+1:=by simp
      refine hM.frame (by rw [hsz];omega) (Nat.le_trans (Nat.le_trans (by simp) HB45.out.size) (Nat.le_of_eq (sets2_size w5 w.heap.size _ _).symm)) fun b h1 h2=>?_
      rw [hsz] at h1
      exact (sets2_block w5 w.heap.size _ _ (by omega)).trans ((HB45.out.block b (by simp;omega)).trans (Below.heap_alloc w4 _ b h2))
    ·exact absurd rfl h0
   ·have hkb:(k != 0)=true:=bne_iff_ne.2 hk
    have HKn:=Lib.hid hk
    clear hk
    have c0:=fun o=>(HZ44.out.alloc o).get2.1
    have c1:=fun o=>(HZ44.out.alloc o).get2.2.1
    have f0:=fun o=>(HZ44.out.alloc o).get2.2.2.1
    have f1:=fun o=>(HZ44.out.alloc o).get2.2.2.2
    have d0:=fun o=>(HZ74.out.alloc o).get2.1
    have d1:=fun o=>(HZ74.out.alloc o).get2.2.1
    go_wp2_with (go_at_call 44;refine (QN.out _ (HP4.out.alloc _)).mono ?_;rintro en w6 ⟨rfl,hb6⟩;have HB6:=Lib.hid (Below.after (HB4.out.alloc (by omega) _) hb6 (by simp<;>omega));have HP6:=Lib.hid ((HP4.out.alloc _).below hb6);have HZ46:=Lib.hid ((HZ44.out.alloc _).below hb6);have HZ76:=Lib.hid ((HZ74.out.alloc _).below hb6);have hs6:w.heap.size+2≤w6.heap.size:=(by have:=hb6.size;simp at this;omega);obtain ⟨a0,a1,a2,a3⟩:=((HZ44.out.alloc _).below hb6).get2;obtain ⟨a4,a5,a6,a7⟩:=((HZ74.out.alloc _).below hb6).get2;clear hb6)
    clear a0 a1 a2 a3
    go_region_with (go_at_call 44;refine (QN.out _ (by first|exact HP6.out|exact HP6.out.drewN 1|exact (HP6.out.drewN 1).drewN 1)).mono ?_;rintro en w5 ⟨rfl,hb5⟩;have hb0:Below w6.heap.size w6 w5:=(by first|exact hb5|exact ⟨hb5.os,hb5.tape,hb5.output,hb5.size,hb5.block⟩);have HB5:=Lib.hid (Below.after HB6.out hb0 (by omega));obtain ⟨a0,a1,a2,a3⟩:=(HZ46.out.below hb0).get2;obtain ⟨b4,b5,b6,b7⟩:=(HZ76.out.below hb0).get2;clear hb5 hb0)
    all_goals
     go_wp2_with fail
     refine bodyPost_ret (v:=.tuple #[.agg #[.slice none 0 0,.slice none 0 0],.int .i64 (q:Int),.int .i64 16]) (by simp [results,Tryz.results23,go_sem,a0,a1]) rfl ?_
     refine ⟨#[.slice none 0 0,.slice none 0 0],q,16,rfl,?_,.inr ⟨by omega,rfl,?_⟩⟩
     ·first|exact (HB5.out.setCell (Nat.le_refl _) _).setCell (Nat.le_refl _) _|exact ((HB5.out.setCell (Nat.le_refl _) _).setCell (Nat.le_refl _) _).drew
     ·rw [whole_ok HW.out]
      rcases HO4.out with ⟨_,⟨m,hf⟩,hm⟩|⟨h0,_⟩
      ·have hne:¬((leftT l j).headD (0,[],false)).1=0:=by
        rw [left_cons HP4.out.ilt,HTk.out]
        exact HKn.out
       simp only [hf,onlyS,if_neg hne,off_here HP4.out.ilt,HTk.out]
      ·exact absurd rfl h0
  ·have hne:(er != 0)=true:=bne_iff_ne.2 her
   have hne2:(er==0)=false:=by simpa using her
   have HE:=Lib.hid her
   clear her
   have c0:=fun o=>(HZ44.out.alloc o).get2.1
   have c1:=fun o=>(HZ44.out.alloc o).get2.2.1
   have f0:=fun o=>(HZ44.out.alloc o).get2.2.2.1
   have f1:=fun o=>(HZ44.out.alloc o).get2.2.2.2
   have d0:=fun o=>(HZ74.out.alloc o).get2.1
   have d1:=fun o=>(HZ74.out.alloc o).get2.2.1
   go_wp2_with fail
   go_region_with (go_at_call 44;refine (QN.out _ (by first|exact HP4.out.alloc _|exact (HP4.out.alloc _).drewN 1|exact ((HP4.out.alloc _).drewN 1).drewN 1)).mono ?_;rintro en w5 ⟨rfl,hb5⟩;have hb0:Below (w4.alloc (.cells #[.slice dA dn dc,.slice rA rn rc] 26)).heap.size (w4.alloc (.cells #[.slice dA dn dc,.slice rA rn rc] 26)) w5:=(by first|exact hb5|exact ⟨hb5.os,hb5.tape,hb5.output,hb5.size,hb5.block⟩);have HB5:=Lib.hid (Below.after (HB4.out.alloc (by omega) _) hb0 (by simp<;>omega));obtain ⟨a0,a1,a2,a3⟩:=((HZ44.out.alloc _).below hb0).get2;obtain ⟨a4,a5,a6,a7⟩:=((HZ74.out.alloc _).below hb0).get2;clear hb5 hb0)
   all_goals
    go_wp2_with fail
    refine bodyPost_ret (v:=.tuple #[.agg #[.slice none 0 0,.slice none 0 0],.int .i64 (q:Int),.int .i64 er]) (by simp [results,Tryz.results23,go_sem,a0,a1]) rfl ?_
    refine ⟨#[.slice none 0 0,.slice none 0 0],q,er,rfl,?_,.inr ⟨HE.out,rfl,?_⟩⟩
    ·first|exact (HB5.out.setCell (Nat.le_refl _) _).setCell (Nat.le_refl _) _|exact ((HB5.out.setCell (Nat.le_refl _) _).setCell (Nat.le_refl _) _).drew
    ·rw [whole_ok HW.out]
     rcases HO4.out with ⟨h0,_⟩|⟨_,hf⟩
     ·exact absurd h0 HE.out
     ·simp only [hf,onlyS,off_here HP4.out.ilt,HTk.out]
 ·have HE:=Lib.hid he
  have hne:(e != 0)=true:=bne_iff_ne.2 he
  clear he
  go_enter Tryz.func23,Tryz.ntmps23
  go_wp2_with fail
  refine (QS.out _).mono ?_
  rintro en w3 ⟨A,c,rfl,_,hb3⟩
  have HB3:=Lib.hid (show Below w.heap.size w w3 from Below.after (((Below.refl w.heap.size w).alloc (Nat.le_refl _) (.cells #[.slice none 0 0,.slice none 0 0] 26)).alloc (by simp) (.cells #[.slice none 0 0,.slice none 0 0] 26)) hb3 (by simp<;>omega))
  obtain ⟨c0,c1,f0,f1⟩:=(((BoxL.new w [.slice none 0 0,.slice none 0 0] 26).alloc (.cells #[.slice none 0 0,.slice none 0 0] 26)).below hb3).get2
  obtain ⟨d0,d1,_,_⟩:=(show BoxL w3 (w.heap.size+1) [.slice none 0 0,.slice none 0 0] by
   have:=BoxL.new (w.alloc (.cells #[.slice none 0 0,.slice none 0 0] 26)) [.slice none 0 0,.slice none 0 0] 26
   rw [show (w.alloc (.cells #[.slice none 0 0,.slice none 0 0] 26)).heap.size=w.heap.size+1 by simp] at this
   exact this.below hb3).get2
  clear hb3
  go_wp2_with fail
  refine bodyPost_ret (v:=.tuple #[.agg #[.slice none 0 0,.slice none 0 0],.int .i64 (p:Int),.int .i64 e]) (by simp [results,Tryz.results23,go_sem,c0,c1]) rfl ?_
  exact ⟨#[.slice none 0 0,.slice none 0 0],p,e,rfl,(HB3.out.setCell (Nat.le_refl _) _).setCell (Nat.le_refl _) _,.inr ⟨HE.out,rfl,whole_err HW.out HE.out⟩⟩
end Go.Proofs.YtaojnljppcnhjaaGreatDoor
namespace Go.Proofs.YtaojnljppcnhjaaGreatDoor
open Go.RowKit
section
variable {α:Type} {E:Elt α} {T:TypeId} {lo:Nat} {z:Value} {w w':World} {r:Value} {l:List α}
theorem RowZ.z0 (h:RowZ E T lo z w r l):RowZ E T lo Z0 w r l:=⟨h.row,h.sit.z0,h.apart,fun k _=>Z0_own k⟩
end
theorem Kd.bel {R lo n:Nat} {w a b:World} (h:Kd R lo a b) (hb:Below n w a) (hR:n≤R) (hl:n≤lo):Below n w b :=
 ⟨h.os.trans hb.os,h.tape.trans hb.tape,h.output.trans hb.output,Nat.le_trans hb.size h.size,fun k hk=>(h.block k (by omega) (by omega)).trans (hb.block k hk)⟩
theorem BoxL.bel {n T:Nat} {vs:List Value} {w w':World} (h:BoxL w T vs) (hb:Below n w w') (hT:T < n):BoxL w' T vs:=h.of hb.size (hb.block T hT)
def MemPz (lo:Nat) (w:World) (V:Array Value) (x:List Dl×List Rs):Prop:=∃(ds:List Dl) (rz:List Ru) (dA rA:Option Addr) (dn dc rn rc:Nat),V=#[.slice dA dn dc,.slice rA rn rc]∧x=(ds,rz.map Ru.p)∧RowZ elDl 72 lo Z0 w (.slice dA dn dc) ds∧RowZ elRu 35 lo Z0 w (.slice rA rn rc) rz
structure Ld1 (A:Option Addr) (c:Nat) (l:List Tk) (w3:World) (gk:Nat) (wr:World) (q:Nat) (ds:List Dl) (B:Option Addr) (zc a:Nat):Prop where
 bel:Below w3.heap.size w3 wr
 p:Pr wr w3.heap.size A c l q Z0 [] a 0
 out:BoxL wr (w3.heap.size+1) [.slice B ds.length zc,.slice none 0 0]
 row:RowZ elDl 72 (w3.heap.size+2) Z0 wr (.slice B ds.length zc) ds
 all:allDecls [] (leftT l 0)=allDecls ds (leftT l q)
 small:ds.length≤30
 gk_:l.length - q≤gk
 sz:w3.heap.size+2≤wr.heap.size
structure Ld2 (ex:Rd1 Tm) (A:Option Addr) (c:Nat) (l:List Tk) (i:Nat) (w3:World) (m:Nat) (ds:List Dl) (dA:Option Addr) (dc:Nat) (gk:Nat) (wr:World) (q:Nat) (z:Value) (ns:List (List UInt8)) (a:Nat) (rz:List Ru) (B:Option Addr) (zc:Nat):Prop where
 bel:Below w3.heap.size w3 wr
 p:Pr wr w3.heap.size A c l q z ns a 0
 zO:∀k,z.ownBlock=some k→w3.heap.size+1 < k
 out:BoxL wr (w3.heap.size+1) [.slice dA ds.length dc,.slice B rz.length zc]
 drow:RowZ elDl 72 (w3.heap.size+2) Z0 wr (.slice dA ds.length dc) ds
 dless:∀k,(Value.slice dA ds.length dc).ownBlock=some k→k < m
 row:RowZ elRu 35 m Z0 wr (.slice B rz.length zc) rz
 all:rulesS ex [] (leftT l i)=rulesS ex (rz.map Ru.p) (leftT l q)
 small:rz.length≤40
 gk_:l.length - q≤gk
 sz:m≤wr.heap.size
 mlo:w3.heap.size+2≤m
end Go.Proofs.YtaojnljppcnhjaaGreatDoor
namespace Go.Proofs.YtaojnljppcnhjaaGreatDoor
open Go.RowKit
section
variable {F:Nat} (hF:16384≤F) (s:ByteArray) (hs:s.size≤100000) (w:World)
include hF hs
end
end Go.Proofs.YtaojnljppcnhjaaGreatDoor
namespace Go.Proofs.YtaojnljppcnhjaaGreatDoor
open Go.RowKit
def MemQ (lo:Nat) (w':World) (V:Array Value) (x:List Gs×List (List UInt8)):Prop:=∃(gs:List Gl) (ns:List (List UInt8)) (gA zA:Option Addr) (gn gc zn zc:Nat),V=#[.slice gA gn gc,.slice zA zn zc]∧x=(gs.map sG,ns)∧RowG elGl 54 lo w' (.slice gA gn gc) gs∧w'.ownsRow lo 9 1 (.slice zA zn zc) ns.length (nmC ns)
theorem MemQ.frame {lo lo':Nat} {w w':World} {V:Array Value} {x:List Gs×List (List UInt8)} (h:MemQ lo w V x) (hlo:lo'≤lo) (hs:w.heap.size≤w'.heap.size) (hb:∀b,lo≤b→b < w.heap.size→w'.heap[b]?=w.heap[b]?):MemQ lo' w' V x:=by
 obtain ⟨gs,ns,gA,zA,gn,gc,zn,zc,e1,e2,hm⟩:=h
 exact ⟨gs,ns,gA,zA,gn,gc,zn,zc,e1,e2,(hm.1.frame hs hb).low hlo,own_low (own_of hm.2 fun k hk=>hb k (own_lt hm.2 k hk).1 (own_lt hm.2 k hk).2) hlo⟩
set_option maxHeartbeats 8000000 in
set_option maxRecDepth 100000 in
theorem whole_Q {ex:Rd1 Tm} (hR:∀(R:Nat) (A:Option Addr) (c:Nat) (l:List Tk) (w:World),GoodT l→Pq w R A c l 0→Calls Tryz.prog 34 #[.pointer (some ⟨R,0,none⟩)] w (QueryQ ex R A c l 0 w))
  (s:ByteArray) (hs:s.size≤100000) (w:World) :
  Calls Tryz.prog 33 #[.string s,.func (.func 34) #[] #[]] w (WholeQ (quS ex) #[.slice none 0 0,.slice none 0 0] MemQ s w):=by
 have QS:=Lib.hid (fun W=>scan_at s W hs)
 have HR:=Lib.hid hR
 have HSc:=Lib.hid (fun h0=>good_scan (s:=s) h0)
 obtain ⟨sc,hsc⟩:∃sc,scanP s=sc:=⟨_,rfl⟩
 rw [show ScanR s=fun w e w'=>∃A c,e=.returned (.tuple #[.slice A (scanP s).1.length c,.int .i64 ((scanP s).2.1:Int),.int .i64 (scanP s).2.2])∧TLst w' A (scanP s).1 c∧Below w.heap.size w w' from rfl,hsc] at QS
 rw [hsc] at HSc
 obtain ⟨l,p,e⟩:=sc
 have HW:=Lib.hid hsc
 clear hsc hR hs
 by_cases he:e=0
 ·subst he
  go_enter Tryz.func33,Tryz.ntmps33
  go_wp2_with fail
  refine (QS.out _).mono ?_
  rintro en w3 ⟨A,c,rfl,hT,hb3⟩
  have HT:=Lib.hid (show TLst w3 A l c from hT)
  have HG:=Lib.hid (show GoodT l by first|exact HSc.out rfl|exact HSc.out trivial)
  have HB3:=Lib.hid (show Below w.heap.size w w3 from Below.after (((Below.refl w.heap.size w).alloc (Nat.le_refl _) (.cells #[.slice none 0 0,.slice none 0 0] 79)).alloc (by simp) (.cells #[.slice none 0 0,.slice none 0 0] 79)) hb3 (by simp<;>omega))
  have HZ4:=Lib.hid ((BoxL.new w [.slice none 0 0,.slice none 0 0] 79).alloc (.cells #[.slice none 0 0,.slice none 0 0] 79) |>.below hb3)
  have HZ7:=Lib.hid (show BoxL w3 (w.heap.size+1) [.slice none 0 0,.slice none 0 0] by
   have:=BoxL.new (w.alloc (.cells #[.slice none 0 0,.slice none 0 0] 79)) [.slice none 0 0,.slice none 0 0] 79
   rw [show (w.alloc (.cells #[.slice none 0 0,.slice none 0 0] 79)).heap.size=w.heap.size+1 by simp] at this
   exact this.below hb3)
  have hsz3:w.heap.size+2≤w3.heap.size:=by have:=hb3.size;simpa using this
  have HP:=Lib.hid (new_parser HT.out HG.out.ended.1 98)
  have QR:=Lib.hid (HR.out _ A c l _ HG.out HP.out)
  clear hT hb3 HSc QS
  go_wp2_with fail
  refine QR.out.mono ?_
  rintro en w4 ⟨gs,ns,gA,zA,gn,gc,zn,zc,j,er,rfl,hk4,hp4,ho4⟩
  have hs34:w3.heap.size+1≤w4.heap.size:=by have:=hk4.size;simpa using this
  have HB4:=Lib.hid (show Below w.heap.size w w4 from ⟨hk4.os.trans HB3.out.os,hk4.tape.trans HB3.out.tape,hk4.output.trans HB3.out.output,by omega,fun k hk=>(hk4.block k (by simp;omega) (by omega) (Z0_own k)).trans ((Below.heap_alloc w3 _ k (by omega)).trans (HB3.out.block k hk))⟩)
  have HZ44:=Lib.hid ((HZ4.out.alloc _).kq hk4 (by omega))
  have HZ74:=Lib.hid ((HZ7.out.alloc _).kq hk4 (by omega))
  have HP4:=Lib.hid hp4
  have HO4:=Lib.hid ho4
  obtain ⟨tk,htk⟩:∃tk,l.getD j default=tk:=⟨_,rfl⟩
  obtain ⟨k,q,x⟩:=tk
  have fk:=tok_kind k (q:Int) (S x)
  have fa:=tok_at k (q:Int) (S x)
  have QN:=Lib.hid (fun W (hW:Pq W w3.heap.size A c l j)=>p_next_of hW htk)
  have HTk:=Lib.hid htk
  clear hk4 hp4 ho4 htk
  by_cases her:er=0
  ·subst her
   by_cases hk:k=0
   ·subst hk
    have c0:=fun o=>(HZ44.out.alloc o).get2.1
    have c1:=fun o=>(HZ44.out.alloc o).get2.2.1
    have f0:=fun o=>(HZ44.out.alloc o).get2.2.2.1
    have f1:=fun o=>(HZ44.out.alloc o).get2.2.2.2
    have d0:=fun o=>(HZ74.out.alloc o).get2.1
    have d1:=fun o=>(HZ74.out.alloc o).get2.2.1
    go_wp2_with (go_at_call 44;refine (QN.out _ (HP4.out.alloc _)).mono ?_;rintro en w5 ⟨rfl,hb5⟩;have HB5:=Lib.hid (Below.after (HB4.out.alloc (by omega) _) hb5 (by simp<;>omega));have HB45:=Lib.hid hb5;obtain ⟨a0,a1,a2,a3⟩:=((HZ44.out.alloc _).below hb5).get2;obtain ⟨b0,b1,b2,b3⟩:=((BoxL.new w4 [.slice gA gn gc,.slice zA zn zc] 79).below hb5).get2;clear hb5)
    refine bodyPost_ret (v:=.tuple #[.agg #[.slice gA gn gc,.slice zA zn zc],.int .i64 0,.int .i64 0]) (by simp [results,Tryz.results33,go_sem,a0,a1]) rfl ?_
    rcases HO4.out with ⟨_,⟨m,hf⟩,hm⟩|⟨h0,_⟩
    ·refine ⟨#[.slice gA gn gc,.slice zA zn zc],0,0,rfl,(HB5.out.setCell (Nat.le_refl _) _).setCell (Nat.le_refl _) _,.inl ⟨rfl,rfl,(gs.map sG,ns),?_,?_⟩⟩
     ·rw [whole_ok HW.out]
      simp only [hf,onlyS]
      rw [left_cons HP4.out.ilt,HTk.out]
      rfl
     ·have hM:MemQ (w3.alloc (.cells #[.slice A l.length c,.int .i64 0] 98)).heap.size w4 #[.slice gA gn gc,.slice zA zn zc] (gs.map sG,ns):=⟨gs,ns,gA,zA,gn,gc,zn,zc,rfl,rfl,hm⟩
      have hsz:(w3.alloc (.cells #[.slice A l.length c,.int .i64 0] 98)).heap.size=w3.heap.size+1:=by simp
      refine hM.frame (by rw [hsz];omega) (Nat.le_trans (Nat.le_trans (by simp) HB45.out.size) (Nat.le_of_eq (sets2_size w5 w.heap.size _ _).symm)) fun b h1 h2=>?_
      rw [hsz] at h1
      exact (sets2_block w5 w.heap.size _ _ (by omega)).trans ((HB45.out.block b (by simp;omega)).trans (Below.heap_alloc w4 _ b h2))
    ·exact absurd rfl h0
   ·have hkb:(k != 0)=true:=bne_iff_ne.2 hk
    have HKn:=Lib.hid hk
    clear hk
    have c0:=fun o=>(HZ44.out.alloc o).get2.1
    have c1:=fun o=>(HZ44.out.alloc o).get2.2.1
    have f0:=fun o=>(HZ44.out.alloc o).get2.2.2.1
    have f1:=fun o=>(HZ44.out.alloc o).get2.2.2.2
    have d0:=fun o=>(HZ74.out.alloc o).get2.1
    have d1:=fun o=>(HZ74.out.alloc o).get2.2.1
    go_wp2_with (go_at_call 44;refine (QN.out _ (HP4.out.alloc _)).mono ?_;rintro en w6 ⟨rfl,hb6⟩;have HB6:=Lib.hid (Below.after (HB4.out.alloc (by omega) _) hb6 (by simp<;>omega));have HP6:=Lib.hid ((HP4.out.alloc _).below hb6);have HZ46:=Lib.hid ((HZ44.out.alloc _).below hb6);have HZ76:=Lib.hid ((HZ74.out.alloc _).below hb6);have hs6:w.heap.size+2≤w6.heap.size:=(by have:=hb6.size;simp at this;omega);obtain ⟨a0,a1,a2,a3⟩:=((HZ44.out.alloc _).below hb6).get2;obtain ⟨a4,a5,a6,a7⟩:=((HZ74.out.alloc _).below hb6).get2;clear hb6)
    clear a0 a1 a2 a3
    go_region_with (go_at_call 44;refine (QN.out _ (by first|exact HP6.out|exact HP6.out.drewN 1|exact (HP6.out.drewN 1).drewN 1)).mono ?_;rintro en w5 ⟨rfl,hb5⟩;have hb0:Below w6.heap.size w6 w5:=(by first|exact hb5|exact ⟨hb5.os,hb5.tape,hb5.output,hb5.size,hb5.block⟩);have HB5:=Lib.hid (Below.after HB6.out hb0 (by omega));obtain ⟨a0,a1,a2,a3⟩:=(HZ46.out.below hb0).get2;obtain ⟨b4,b5,b6,b7⟩:=(HZ76.out.below hb0).get2;clear hb5 hb0)
    all_goals
     go_wp2_with fail
     refine bodyPost_ret (v:=.tuple #[.agg #[.slice none 0 0,.slice none 0 0],.int .i64 (q:Int),.int .i64 16]) (by simp [results,Tryz.results33,go_sem,a0,a1]) rfl ?_
     refine ⟨#[.slice none 0 0,.slice none 0 0],q,16,rfl,?_,.inr ⟨by omega,rfl,?_⟩⟩
     ·first|exact (HB5.out.setCell (Nat.le_refl _) _).setCell (Nat.le_refl _) _|exact ((HB5.out.setCell (Nat.le_refl _) _).setCell (Nat.le_refl _) _).drew
     ·rw [whole_ok HW.out]
      rcases HO4.out with ⟨_,⟨m,hf⟩,hm⟩|⟨h0,_⟩
      ·have hne:¬((leftT l j).headD (0,[],false)).1=0:=by
        rw [left_cons HP4.out.ilt,HTk.out]
        exact HKn.out
       simp only [hf,onlyS,if_neg hne,off_here HP4.out.ilt,HTk.out]
      ·exact absurd rfl h0
  ·have hne:(er != 0)=true:=bne_iff_ne.2 her
   have hne2:(er==0)=false:=by simpa using her
   have HE:=Lib.hid her
   clear her
   have c0:=fun o=>(HZ44.out.alloc o).get2.1
   have c1:=fun o=>(HZ44.out.alloc o).get2.2.1
   have f0:=fun o=>(HZ44.out.alloc o).get2.2.2.1
   have f1:=fun o=>(HZ44.out.alloc o).get2.2.2.2
   have d0:=fun o=>(HZ74.out.alloc o).get2.1
   have d1:=fun o=>(HZ74.out.alloc o).get2.2.1
   go_wp2_with fail
   go_region_with (go_at_call 44;refine (QN.out _ (by first|exact HP4.out.alloc _|exact (HP4.out.alloc _).drewN 1|exact ((HP4.out.alloc _).drewN 1).drewN 1)).mono ?_;rintro en w5 ⟨rfl,hb5⟩;have hb0:Below (w4.alloc (.cells #[.slice gA gn gc,.slice zA zn zc] 79)).heap.size (w4.alloc (.cells #[.slice gA gn gc,.slice zA zn zc] 79)) w5:=(by first|exact hb5|exact ⟨hb5.os,hb5.tape,hb5.output,hb5.size,hb5.block⟩);have HB5:=Lib.hid (Below.after (HB4.out.alloc (by omega) _) hb0 (by simp<;>omega));obtain ⟨a0,a1,a2,a3⟩:=((HZ44.out.alloc _).below hb0).get2;obtain ⟨a4,a5,a6,a7⟩:=((HZ74.out.alloc _).below hb0).get2;clear hb5 hb0)
   all_goals
    go_wp2_with fail
    refine bodyPost_ret (v:=.tuple #[.agg #[.slice none 0 0,.slice none 0 0],.int .i64 (q:Int),.int .i64 er]) (by simp [results,Tryz.results33,go_sem,a0,a1]) rfl ?_
    refine ⟨#[.slice none 0 0,.slice none 0 0],q,er,rfl,?_,.inr ⟨HE.out,rfl,?_⟩⟩
    ·first|exact (HB5.out.setCell (Nat.le_refl _) _).setCell (Nat.le_refl _) _|exact ((HB5.out.setCell (Nat.le_refl _) _).setCell (Nat.le_refl _) _).drew
    ·rw [whole_ok HW.out]
     rcases HO4.out with ⟨h0,_⟩|⟨_,hf⟩
     ·exact absurd h0 HE.out
     ·simp only [hf,onlyS,off_here HP4.out.ilt,HTk.out]
 ·have HE:=Lib.hid he
  have hne:(e != 0)=true:=bne_iff_ne.2 he
  clear he
  go_enter Tryz.func33,Tryz.ntmps33
  go_wp2_with fail
  refine (QS.out _).mono ?_
  rintro en w3 ⟨A,c,rfl,_,hb3⟩
  have HB3:=Lib.hid (show Below w.heap.size w w3 from Below.after (((Below.refl w.heap.size w).alloc (Nat.le_refl _) (.cells #[.slice none 0 0,.slice none 0 0] 79)).alloc (by simp) (.cells #[.slice none 0 0,.slice none 0 0] 79)) hb3 (by simp<;>omega))
  obtain ⟨c0,c1,f0,f1⟩:=(((BoxL.new w [.slice none 0 0,.slice none 0 0] 79).alloc (.cells #[.slice none 0 0,.slice none 0 0] 79)).below hb3).get2
  obtain ⟨d0,d1,_,_⟩:=(show BoxL w3 (w.heap.size+1) [.slice none 0 0,.slice none 0 0] by
   have:=BoxL.new (w.alloc (.cells #[.slice none 0 0,.slice none 0 0] 79)) [.slice none 0 0,.slice none 0 0] 79
   rw [show (w.alloc (.cells #[.slice none 0 0,.slice none 0 0] 79)).heap.size=w.heap.size+1 by simp] at this
   exact this.below hb3).get2
  clear hb3
  go_wp2_with fail
  refine bodyPost_ret (v:=.tuple #[.agg #[.slice none 0 0,.slice none 0 0],.int .i64 (p:Int),.int .i64 e]) (by simp [results,Tryz.results33,go_sem,c0,c1]) rfl ?_
  exact ⟨#[.slice none 0 0,.slice none 0 0],p,e,rfl,(HB3.out.setCell (Nat.le_refl _) _).setCell (Nat.le_refl _) _,.inr ⟨HE.out,rfl,whole_err HW.out HE.out⟩⟩
end Go.Proofs.YtaojnljppcnhjaaGreatDoor
