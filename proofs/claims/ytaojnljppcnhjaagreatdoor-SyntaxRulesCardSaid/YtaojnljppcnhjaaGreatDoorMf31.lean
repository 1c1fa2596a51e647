/-
  RzWholeR.
  PgWholeP.
  RzProgP.
 RzProg.
-/
import Derived.Test.YtaojnljppcnhjaaGreatDoorMf30
import Derived.Test.YtaojnljppcnhjaaGreatDoorMf13
namespace Go.Proofs.YtaojnljppcnhjaaGreatDoor
open Go.RowKit
theorem Kp.bel {R lo:Nat} {z:Value} {w a b:World} (h:Kp R Z0 z a b) (hb:Below lo w a) (hR:lo≤R) (hl:lo≤a.heap.size):Below lo w b :=
 ⟨h.os.trans hb.os,h.tape.trans hb.tape,h.output.trans hb.output,Nat.le_trans hb.size h.size,fun k hk=>(h.block k (by omega) (by omega) (Z0_own k)).trans (hb.block k hk)⟩
theorem Kp.belz {R lo:Nat} {z z':Value} {w a b:World} (h:Kp R z z' a b) (hb:Below lo w a) (hR:lo≤R) (hl:lo≤a.heap.size) (hz:∀k,z.ownBlock=some k→lo≤k):Below lo w b :=
 ⟨h.os.trans hb.os,h.tape.trans hb.tape,h.output.trans hb.output,Nat.le_trans hb.size h.size,fun k hk=>(h.block k (by omega) (by omega) (fun e=>by have:=hz k e;omega)).trans (hb.block k hk)⟩
theorem SitZ.z0 {α:Type} {E:Elt α} {lo:Nat} {z:Value} {w:World} {l:List α} (h:SitZ E lo z w l):SitZ E lo Z0 w l:=⟨h.at_,h.bd,fun b _=>Z0_own b⟩
section
variable {F:Nat} (hF:16384≤F) (s:ByteArray) (hs:s.size≤100000) (w:World)
include hF hs
set_option maxHeartbeats 8000000 in
set_option maxRecDepth 100000 in
theorem parse_rule_z:Calls Tryz.prog 14 #[.string s] w (WholeQ (ruleS (exprS (F+1))) ZR MemRz s w):=by
 have QS:=Lib.hid (fun W=>tr_scan_at s W hs)
 have HR:=Lib.hid (fun (R:Nat) (A:Option Addr) (c:Nat) (l:List Tk) (hg:GoodT l) i z ns a W (h:Pr W R A c l i z ns a 0)=>rule_zF hF hg i z ns a W h)
 have HSc:=Lib.hid (fun h0=>good_scan (s:=s) h0)
 obtain ⟨sc,hsc⟩:∃sc,scanP s=sc:=⟨_,rfl⟩
 rw [show ScanR s=fun w e w'=>∃A c,e=.returned (.tuple #[.slice A (scanP s).1.length c,.int .i64 ((scanP s).2.1:Int),.int .i64 (scanP s).2.2])∧TLst w' A (scanP s).1 c∧Below w.heap.size w w' from rfl,hsc] at QS
 rw [hsc] at HSc
 obtain ⟨l,p,e⟩:=sc
 have HW:=Lib.hid hsc
 clear hsc hs hF
 by_cases he:e=0
 ·subst he
  go_enter Tryz.func14,Tryz.ntmps14
  go_wp2_with fail
  refine (QS.out _).mono ?_
  rintro en w3 ⟨A,c,rfl,hT,hb3⟩
  have HT:=Lib.hid (show TLst w3 A l c from hT)
  have HG:=Lib.hid (show GoodT l by first|exact HSc.out rfl|exact HSc.out trivial)
  have HB3:=Lib.hid (show Below w.heap.size w w3 from Below.after ((Below.refl w.heap.size w).alloc (Nat.le_refl _) (.cells #[.string ⟨#[]⟩,.slice none 0 0,.slice none 0 0,.slice none 0 0,.slice none 0 0,.int .i64 0] 35)) hb3 (by simp<;>omega))
  have HZ:=Lib.hid ((BoxL.new w [.string ⟨#[]⟩,.slice none 0 0,.slice none 0 0,.slice none 0 0,.slice none 0 0,.int .i64 0] 35).below hb3)
  have hsz3:w.heap.size+1≤w3.heap.size:=by have:=hb3.size;simpa using this
  have HP:=Lib.hid (pr_new HT.out HG.out.ended.1 63)
  have QR:=Lib.hid (HR.out _ A c l HG.out _ _ _ _ _ HP.out)
  clear hT hb3 HSc QS
  go_wp2_with fail
  refine QR.out.mono ?_
  rintro en w4 ⟨t,kv,rv,gv,bv,n,b,rfl,⟨⟨kA,kn,kc,rfl⟩,⟨rA,rn,rc,rfl⟩,⟨gA,gn,gc,rfl⟩,⟨bA,bn,bc,rfl⟩⟩,ho⟩
  rcases ho with ⟨rfl,z',ns',j,a,m1,m2,m3,ks,rs,gs,bs,hk4,hp4,hf4,_,htl,hrw⟩|⟨rfl,z',ns',j,nn,er,hk4,hp4,hne,hf4⟩
  ·have hs34:w3.heap.size+1≤w4.heap.size:=by have:=hk4.size;simpa using this
   have HB4:=Lib.hid (hk4.bel (HB3.out.alloc (by omega) _) (by omega) (by simp;omega))
   have HZ4:=Lib.hid ((HZ.out.alloc _).kz hk4 (by omega) (Z0_own _))
   have HP4:=Lib.hid hp4
   have HF4:=Lib.hid hf4
   have HM4:=Lib.hid (rows_ru (n:=n) hrw htl)
   obtain ⟨tk,htk⟩:∃tk,l.getD j default=tk:=⟨_,rfl⟩
   obtain ⟨k,q,x⟩:=tk
   have fk:=tok_kind k (q:Int) (S x)
   have fa:=tok_at k (q:Int) (S x)
   have QT:=Lib.hid (fun W (hW:Pr W w3.heap.size A c l j z' ns' a 0)=>r_tok_of hW htk)
   have HTk:=Lib.hid htk
   clear hk4 hp4 hf4 hrw htk
   by_cases hk:k=0
   ·subst hk
    obtain ⟨d0,d1,d2,d3,d4,d5,e0,e1,e2,e3,e4,e5⟩:=(BoxL.new w4 [.string (S t),.slice kA kn kc,.slice rA rn rc,.slice gA gn gc,.slice bA bn bc,.int .i64 (n:Int)] 35).get6
    go_wp2_with (go_at_call 27;(with_reducible refine (QT.out _ (HP4.out.alloc _)).mono ?_);rintro en w5 ⟨rfl,hb5⟩;have HB5:=Lib.hid (Below.after (HB4.out.alloc (by omega) _) hb5 (by simp<;>omega));have HB45:=Lib.hid hb5;obtain ⟨a0,a1,a2,a3,a4,a5,qa0,qa1,qa2,qa3,qa4,qa5⟩:=((HZ4.out.alloc _).below hb5).get6;obtain ⟨b0,b1,b2,b3,b4,b5,qb0,qb1,qb2,qb3,qb4,qb5⟩:=((BoxL.new w4 [.string (S t),.slice kA kn kc,.slice rA rn rc,.slice gA gn gc,.slice bA bn bc,.int .i64 (n:Int)] 35).below hb5).get6;clear hb5)
    refine bodyPost_ret (v:=.tuple #[.agg #[.string (S t),.slice kA kn kc,.slice rA rn rc,.slice gA gn gc,.slice bA bn bc,.int .i64 (n:Int)],.int .i64 0,.int .i64 0]) (by simp [results,Tryz.results14,go_sem,a0,a1,a2,a3,a4,a5]) rfl ?_
    refine ⟨#[.string (S t),.slice kA kn kc,.slice rA rn rc,.slice gA gn gc,.slice bA bn bc,.int .i64 (n:Int)],0,0,rfl,(((((HB5.out.setCell (Nat.le_refl _) _).setCell (Nat.le_refl _) _).setCell (Nat.le_refl _) _).setCell (Nat.le_refl _) _).setCell (Nat.le_refl _) _).setCell (Nat.le_refl _) _,.inl ⟨rfl,rfl,ruP t ks rs gs bs n,?_,?_⟩⟩
    ·rw [whole_ok HW.out]
     simp only [HF4.out,onlyS]
     rw [left_cons HP4.out.ilt,HTk.out]
     rfl
    ·obtain ⟨u,hu,hup,hus⟩:=HM4.out
     refine ⟨u,by rw [hu],hup.symm,(hus.z0.frame (w':=sets6 w5 w.heap.size _ _ _ _ _ _) (z':=Z0) ?_ ?_ fun b _=>Z0_own b).low (by simp;omega)⟩
     ·exact Nat.le_trans (Nat.le_trans (by simp) HB45.out.size) (Nat.le_of_eq (sets6_size w5 w.heap.size _ _ _ _ _ _).symm)
     ·intro b hb
      obtain ⟨h1,h2⟩:=hus.bd b hb
      simp only [World.size_alloc] at h1
      exact (sets6_block w5 w.heap.size _ _ _ _ _ _ (by omega)).trans ((HB45.out.block b (by simp;omega)).trans (Below.heap_alloc w4 _ b h2))
   ·have hkb:(k != 0)=true:=bne_iff_ne.2 hk
    have HKn:=Lib.hid hk
    have QF:=Lib.hid (fun W (hW:Pr W w3.heap.size A c l j z' ns' a 0)=>r_fail_at hW q 16)
    clear hk
    have HZO:=Lib.hid HP4.out.apart
    go_wp2_with (first
     | (go_at_call 27;(with_reducible refine (QT.out _ HP5.out).mono ?_);rintro en w6 ⟨rfl,hb6⟩;have HB6:=Lib.hid (Below.after HB5.out hb6 (by omega));have hs6:=Nat.le_trans hs5 hb6.size;have HP6:=Lib.hid (HP5.out.below hb6);have HZ6:=Lib.hid (HZ5.out.below hb6);clear hb6)
     | (go_at_call 27;(with_reducible refine (QT.out _ (HP4.out.alloc _)).mono ?_);rintro en w5 ⟨rfl,hb5⟩;have HB5:=Lib.hid (Below.after (HB4.out.alloc (by omega) _) hb5 (by simp<;>omega));have hs5:w3.heap.size+1≤w5.heap.size:=(by have:=hb5.size;simp at this;omega);have HP5:=Lib.hid ((HP4.out.alloc _).below hb5);have HZ5:=Lib.hid ((HZ4.out.alloc _).below hb5);clear hb5)
     | (go_at_call 31;(with_reducible refine (QF.out _ HP6.out).mono ?_);rintro en w7 ⟨rfl,hk7,hp7⟩;have HB7:=Lib.hid (hk7.belz HB6.out (by omega) (by omega) (fun k hk=>by have:=(HZO.out k hk).1;omega));obtain ⟨a0,a1,a2,a3,a4,a5,qa0,qa1,qa2,qa3,qa4,qa5⟩:=(HZ6.out.kz hk7 (by omega) (fun e=>by have:=(HZO.out _ e).1;omega)).get6;have l3:=hp7.l3;have l4:=hp7.l4;clear hk7 hp7))
    go_region
    all_goals
     go_wp2_with fail
     refine bodyPost_ret (v:=.tuple #[.agg #[.string ⟨#[]⟩,.slice none 0 0,.slice none 0 0,.slice none 0 0,.slice none 0 0,.int .i64 0],.int .i64 (q:Int),.int .i64 16]) (by simp [results,Tryz.results14,go_sem,a0,a1,a2,a3,a4,a5]) rfl ?_
     refine ⟨#[.string ⟨#[]⟩,.slice none 0 0,.slice none 0 0,.slice none 0 0,.slice none 0 0,.int .i64 0],q,16,rfl,?_,.inr ⟨by decide,rfl,?_⟩⟩
     ·first|(with_reducible refine Below.drew ?_;exact (((((HB7.out.setCell (Nat.le_refl _) _).setCell (Nat.le_refl _) _).setCell (Nat.le_refl _) _).setCell (Nat.le_refl _) _).setCell (Nat.le_refl _) _).setCell (Nat.le_refl _) _)|exact (((((HB7.out.setCell (Nat.le_refl _) _).setCell (Nat.le_refl _) _).setCell (Nat.le_refl _) _).setCell (Nat.le_refl _) _).setCell (Nat.le_refl _) _).setCell (Nat.le_refl _) _
     ·rw [whole_ok HW.out]
      have hne:¬((leftT l j).headD (0,[],false)).1=0:=by
       rw [left_cons HP4.out.ilt,HTk.out]
       exact HKn.out
      simp only [HF4.out,onlyS,if_neg hne,off_here HP4.out.ilt,HTk.out]
  ·have hs34:w3.heap.size+1≤w4.heap.size:=by have:=hk4.size;simpa using this
   have HB4:=Lib.hid (hk4.bel (HB3.out.alloc (by omega) _) (by omega) (by simp;omega))
   obtain ⟨a0,a1,a2,a3,a4,a5,qa0,qa1,qa2,qa3,qa4,qa5⟩:=(((HZ.out.alloc _).kz hk4 (by omega) (Z0_own _)).alloc (.cells #[.string (S t),.slice kA kn kc,.slice rA rn rc,.slice gA gn gc,.slice bA bn bc,.int .i64 (n:Int)] 35)).get6
   have l3:=(hp4.alloc (.cells #[.string (S t),.slice kA kn kc,.slice rA rn rc,.slice gA gn gc,.slice bA bn bc,.int .i64 (n:Int)] 35)).l3
   have l4:=(hp4.alloc (.cells #[.string (S t),.slice kA kn kc,.slice rA rn rc,.slice gA gn gc,.slice bA bn bc,.int .i64 (n:Int)] 35)).l4
   obtain ⟨d0,d1,d2,d3,d4,d5,e0,e1,e2,e3,e4,e5⟩:=(BoxL.new w4 [.string (S t),.slice kA kn kc,.slice rA rn rc,.slice gA gn gc,.slice bA bn bc,.int .i64 (n:Int)] 35).get6
   have HBB:=Lib.hid (HB4.out.alloc (by omega) (.cells #[.string (S t),.slice kA kn kc,.slice rA rn rc,.slice gA gn gc,.slice bA bn bc,.int .i64 (n:Int)] 35))
   have HNe:=Lib.hid hne
   have HF4:=Lib.hid hf4
   obtain ⟨po,hpo⟩:∃po,offT l nn=po:=⟨_,rfl⟩
   rw [hpo] at l3
   have HPo:=Lib.hid hpo
   clear hk4 hp4 hne hf4 hpo
   go_wp2_with fail
   go_region
   all_goals
    go_wp2_with fail
    refine bodyPost_ret (v:=.tuple #[.agg #[.string ⟨#[]⟩,.slice none 0 0,.slice none 0 0,.slice none 0 0,.slice none 0 0,.int .i64 0],.int .i64 (po:Int),.int .i64 er]) (by simp [results,Tryz.results14,go_sem,a0,a1,a2,a3,a4,a5]) rfl ?_
    refine ⟨#[.string ⟨#[]⟩,.slice none 0 0,.slice none 0 0,.slice none 0 0,.slice none 0 0,.int .i64 0],po,er,rfl,?_,.inr ⟨HNe.out,rfl,?_⟩⟩
    ·first|(with_reducible refine Below.drew ?_;exact (((((HBB.out.setCell (Nat.le_refl _) _).setCell (Nat.le_refl _) _).setCell (Nat.le_refl _) _).setCell (Nat.le_refl _) _).setCell (Nat.le_refl _) _).setCell (Nat.le_refl _) _)|exact (((((HBB.out.setCell (Nat.le_refl _) _).setCell (Nat.le_refl _) _).setCell (Nat.le_refl _) _).setCell (Nat.le_refl _) _).setCell (Nat.le_refl _) _).setCell (Nat.le_refl _) _
    ·rw [whole_ok HW.out]
     simp only [HF4.out,onlyS,HPo.out]
 ·have HE:=Lib.hid he
  have hne:(e != 0)=true:=bne_iff_ne.2 he
  clear he
  go_enter Tryz.func14,Tryz.ntmps14
  go_wp2_with fail
  refine (QS.out _).mono ?_
  rintro en w3 ⟨A,c,rfl,_,hb3⟩
  have HB3:=Lib.hid (show Below w.heap.size w w3 from Below.after ((Below.refl w.heap.size w).alloc (Nat.le_refl _) (.cells #[.string ⟨#[]⟩,.slice none 0 0,.slice none 0 0,.slice none 0 0,.slice none 0 0,.int .i64 0] 35)) hb3 (by simp<;>omega))
  obtain ⟨c0,c1,c2,c3,c4,c5,qc0,qc1,qc2,qc3,qc4,qc5⟩:=((BoxL.new w [.string ⟨#[]⟩,.slice none 0 0,.slice none 0 0,.slice none 0 0,.slice none 0 0,.int .i64 0] 35).below hb3).get6
  clear hb3
  go_wp2_with fail
  refine bodyPost_ret (v:=.tuple #[.agg #[.string ⟨#[]⟩,.slice none 0 0,.slice none 0 0,.slice none 0 0,.slice none 0 0,.int .i64 0],.int .i64 (p:Int),.int .i64 e]) (by simp [results,Tryz.results14,go_sem,c0,c1,c2,c3,c4,c5]) rfl ?_
  exact ⟨#[.string ⟨#[]⟩,.slice none 0 0,.slice none 0 0,.slice none 0 0,.slice none 0 0,.int .i64 0],p,e,rfl,(((((HB3.out.setCell (Nat.le_refl _) _).setCell (Nat.le_refl _) _).setCell (Nat.le_refl _) _).setCell (Nat.le_refl _) _).setCell (Nat.le_refl _) _).setCell (Nat.le_refl _) _,.inr ⟨HE.out,rfl,whole_err HW.out HE.out⟩⟩
end
end Go.Proofs.YtaojnljppcnhjaaGreatDoor
namespace Go.Proofs.YtaojnljppcnhjaaGreatDoor
open Go.RowKit
def MemP (lo:Nat) (w':World) (V:Array Value) (x:List Dl×List Rs):Prop:=∃(ds:List Dl) (rz:List Ru) (dA rA:Option Addr) (dn dc rn rc:Nat),V=#[.slice dA dn dc,.slice rA rn rc]∧x=(ds,rz.map Ru.p)∧RowG elDl 72 lo w' (.slice dA dn dc) ds∧RowR lo w' (.slice rA rn rc) rz
theorem MemP.frame {lo lo':Nat} {w w':World} {V:Array Value} {x:List Dl×List Rs} (h:MemP lo w V x) (hlo:lo'≤lo) (hs:w.heap.size≤w'.heap.size) (hb:∀b,lo≤b→b < w.heap.size→w'.heap[b]?=w.heap[b]?):MemP lo' w' V x:=by
 obtain ⟨ds,rz,dA,rA,dn,dc,rn,rc,e1,e2,hm⟩:=h
 exact ⟨ds,rz,dA,rA,dn,dc,rn,rc,e1,e2,(hm.1.frame hs hb).low hlo,(hm.2.frame hs hb).low hlo⟩
set_option maxHeartbeats 8000000 in
set_option maxRecDepth 100000 in
theorem whole_P {ex:Rd1 Tm} (hR:∀(R:Nat) (A:Option Addr) (c:Nat) (l:List Tk) (w:World),GoodT l→Pq w R A c l 0→Calls Tryz.prog 24 #[.pointer (some ⟨R,0,none⟩)] w (ProgQ ex R A c l 0 w))
  (s:ByteArray) (hs:s.size≤100000) (w:World) :
  Calls Tryz.prog 23 #[.string s,.func (.func 24) #[] #[]] w (WholeQ (programS ex) #[.slice none 0 0,.slice none 0 0] MemP s w):=by
 have QS:=Lib.hid (fun W=>scan_at s W hs)
 have HR:=Lib.hid hR
 have HSc:=Lib.hid (fun h0=>good_scan (s:=s) h0)
 obtain ⟨sc,hsc⟩:∃sc,scanP s=sc:=⟨_,rfl⟩
 rw [show ScanR s=fun w e w'=>∃A c,e=.returned (.tuple #[.slice A (scanP s).1.length c,.int .i64 ((scanP s).2.1:Int),.int .i64 (scanP s).2.2])∧TLst w' A (scanP s).1 c∧Below w.heap.size w w' from rfl,hsc] at QS
 rw [hsc] at HSc
 obtain ⟨l,p,e⟩:=sc
 have HW:=Lib.hid hsc
 clear hsc hR hs
 by_cases he:e=0
 ·subst he
  go_enter Tryz.func23,Tryz.ntmps23
  go_wp2_with fail
  refine (QS.out _).mono ?_
  rintro en w3 ⟨A,c,rfl,hT,hb3⟩
  have HT:=Lib.hid (show TLst w3 A l c from hT)
  have HG:=Lib.hid (show GoodT l by first|exact HSc.out rfl|exact HSc.out trivial)
  have HB3:=Lib.hid (show Below w.heap.size w w3 from Below.after (((Below.refl w.heap.size w).alloc (Nat.le_refl _) (.cells #[.slice none 0 0,.slice none 0 0] 26)).alloc (by simp) (.cells #[.slice none 0 0,.slice none 0 0] 26)) hb3 (by simp<;>omega))
  have HZ4:=Lib.hid ((BoxL.new w [.slice none 0 0,.slice none 0 0] 26).alloc (.cells #[.slice none 0 0,.slice none 0 0] 26) |>.below hb3)
  have HZ7:=Lib.hid (show BoxL w3 (w.heap.size+1) [.slice none 0 0,.slice none 0 0] by
   have:=BoxL.new (w.alloc (.cells #[.slice none 0 0,.slice none 0 0] 26)) [.slice none 0 0,.slice none 0 0] 26
   rw [show (w.alloc (.cells #[.slice none 0 0,.slice none 0 0] 26)).heap.size=w.heap.size+1 by simp] at this
   exact this.below hb3)
  have hsz3:w.heap.size+2≤w3.heap.size:=by have:=hb3.size;simpa using this
  have HP:=Lib.hid (new_parser HT.out HG.out.ended.1 98)
  have QR:=Lib.hid (HR.out _ A c l _ HG.out HP.out)
  clear hT hb3 HSc QS
  go_wp2_with fail
  refine QR.out.mono ?_
  rintro en w4 ⟨ds,rz,dA,rA,dn,dc,rn,rc,j,er,rfl,hk4,hp4,ho4⟩
  have hs34:w3.heap.size+1≤w4.heap.size:=by have:=hk4.size;simpa using this
  have HB4:=Lib.hid (show Below w.heap.size w w4 from ⟨hk4.os.trans HB3.out.os,hk4.tape.trans HB3.out.tape,hk4.output.trans HB3.out.output,by omega,fun k hk=>(hk4.block k (by simp;omega) (by omega) (Z0_own k)).trans ((Below.heap_alloc w3 _ k (by omega)).trans (HB3.out.block k hk))⟩)
  have HZ44:=Lib.hid ((HZ4.out.alloc _).kq hk4 (by omega))
  have HZ74:=Lib.hid ((HZ7.out.alloc _).kq hk4 (by omega))
  have HP4:=Lib.hid hp4
  have HO4:=Lib.hid ho4
  obtain ⟨tk,htk⟩:∃tk,l.getD j default=tk:=⟨_,rfl⟩
  obtain ⟨k,q,x⟩:=tk
  have fk:=tok_kind k (q:Int) (S x)
  have fa:=tok_at k (q:Int) (S x)
  have QN:=Lib.hid (fun W (hW:Pq W w3.heap.size A c l j)=>p_next_of hW htk)
  have HTk:=Lib.hid htk
  clear hk4 hp4 ho4 htk
  by_cases her:er=0
  ·subst her
   by_cases hk:k=0
   ·subst hk
    have c0:=fun o=>(HZ44.out.alloc o).get2.1
    have c1:=fun o=>(HZ44.out.alloc o).get2.2.1
    have f0:=fun o=>(HZ44.out.alloc o).get2.2.2.1
    have f1:=fun o=>(HZ44.out.alloc o).get2.2.2.2
    have d0:=fun o=>(HZ74.out.alloc o).get2.1
    have d1:=fun o=>(HZ74.out.alloc o).get2.2.1
    go_wp2_with (go_at_call 44;refine (QN.out _ (HP4.out.alloc _)).mono ?_;rintro en w5 ⟨rfl,hb5⟩;have HB5:=Lib.hid (Below.after (HB4.out.alloc (by omega) _) hb5 (by simp<;>omega));have HB45:=Lib.hid hb5;obtain ⟨a0,a1,a2,a3⟩:=((HZ44.out.alloc _).below hb5).get2;obtain ⟨b0,b1,b2,b3⟩:=((BoxL.new w4 [.slice dA dn dc,.slice rA rn rc] 26).below hb5).get2;clear hb5)
    refine bodyPost_ret (v:=.tuple #[.agg #[.slice dA dn dc,.slice rA rn rc],.int .i64 0,.int .i64 0]) (by simp [results,Tryz.results23,go_sem,a0,a1]) rfl ?_
    rcases HO4.out with ⟨_,⟨m,hf⟩,hm⟩|⟨h0,_⟩
    ·refine ⟨#[.slice dA dn dc,.slice rA rn rc],0,0,rfl,(HB5.out.setCell (Nat.le_refl _) _).setCell (Nat.le_refl _) _,.inl ⟨rfl,rfl,(ds,rz.map Ru.p),?_,?_⟩⟩
     ·rw [whole_ok HW.out]
      simp only [hf,onlyS]
      rw [left_cons HP4.out.ilt,HTk.out]
      rfl
     ·have hM:MemP (w3.alloc (.cells #[.slice A l.length c,.int .i64 0] 98)).heap.size w4 #[.slice dA dn dc,.slice rA rn rc] (ds,rz.map Ru.p):=⟨ds,rz,dA,rA,dn,dc,rn,rc,rfl,rfl,hm⟩
      have hsz:(w3.alloc (.cells #[.slice A l.length c,.int .i64 0] 98)).heap.size=w3.heap.size+1:=by simp
      refine hM.frame (by rw [hsz];omega) (Nat.le_trans (Nat.le_trans (by simp) HB45.out.size) (Nat.le_of_eq (sets2_size w5 w.heap.size _ _).symm)) fun b h1 h2=>?_
      rw [hsz] at h1
      exact (sets2_block w5 w.heap.size _ _ (by omega)).trans ((HB45.out.block b (by simp;omega)).trans (Below.heap_alloc w4 _ b h2))
    ·exact absurd rfl h0
   ·have hkb:(k != 0)=true:=bne_iff_ne.2 hk
    have HKn:=Lib.hid hk
    clear hk
    have c0:=fun o=>(HZ44.out.alloc o).get2.1
    have c1:=fun o=>(HZ44.out.alloc o).get2.2.1
    have f0:=fun o=>(HZ44.out.alloc o).get2.2.2.1
    have f1:=fun o=>(HZ44.out.alloc o).get2.2.2.2
    have d0:=fun o=>(HZ74.out.alloc o).get2.1
    have d1:=fun o=>(HZ74.out.alloc o).get2.2.1
    go_wp2_with (go_at_call 44;refine (QN.out _ (HP4.out.alloc _)).mono ?_;rintro en w6 ⟨rfl,hb6⟩;have HB6:=Lib.hid (Below.after (HB4.out.alloc (by omega) _) hb6 (by simp<;>omega));have HP6:=Lib.hid ((HP4.out.alloc _).below hb6);have HZ46:=Lib.hid ((HZ44.out.alloc _).below hb6);have HZ76:=Lib.hid ((HZ74.out.alloc _).below hb6);have hs6:w.heap.size+2≤w6.heap.size:=(by have:=hb6.size;simp at this;omega);obtain ⟨a0,a1,a2,a3⟩:=((HZ44.out.alloc _).below hb6).get2;obtain ⟨a4,a5,a6,a7⟩:=((HZ74.out.alloc _).below hb6).get2;clear hb6)
    clear a0 a1 a2 a3
    go_region_with (go_at_call 44;refine (QN.out _ (by first|exact HP6.out|exact HP6.out.drewN 1|exact (HP6.out.drewN 1).drewN 1)).mono ?_;rintro en w5 ⟨rfl,hb5⟩;have hb0:Below w6.heap.size w6 w5:=(by first|exact hb5|exact ⟨hb5.os,hb5.tape,hb5.output,hb5.size,hb5.block⟩);have HB5:=Lib.hid (Below.after HB6.out hb0 (by omega));obtain ⟨a0,a1,a2,a3⟩:=(HZ46.out.below hb0).get2;obtain ⟨b4,b5,b6,b7⟩:=(HZ76.out.below hb0).get2;clear hb5 hb0)
    all_goals
     go_wp2_with fail
     refine bodyPost_ret (v:=.tuple #[.agg #[.slice none 0 0,.slice none 0 0],.int .i64 (q:Int),.int .i64 16]) (by simp [results,Tryz.results23,go_sem,a0,a1]) rfl ?_
     refine ⟨#[.slice none 0 0,.slice none 0 0],q,16,rfl,?_,.inr ⟨by omega,rfl,?_⟩⟩
     ·first|exact (HB5.out.setCell (Nat.le_refl _) _).setCell (Nat.le_refl _) _|exact ((HB5.out.setCell (Nat.le_refl _) _).setCell (Nat.le_refl _) _).drew
     ·rw [whole_ok HW.out]
      rcases HO4.out with ⟨_,⟨m,hf⟩,hm⟩|⟨h0,_⟩
      ·have hne:¬((leftT l j).headD (0,[],false)).1=0:=by
        rw [left_cons HP4.out.ilt,HTk.out]
        exact HKn.out
       simp only [hf,onlyS,if_neg hne,off_here HP4.out.ilt,HTk.out]
      ·exact absurd rfl h0
  ·have hne:(er != 0)=true:=bne_iff_ne.2 her
   have hne2:(er==0)=false:=by simpa using her
   have HE:=Lib.hid her
   clear her
   have c0:=fun o=>(HZ44.out.alloc o).get2.1
   have c1:=fun o=>(HZ44.out.alloc o).get2.2.1
   have f0:=fun o=>(HZ44.out.alloc o).get2.2.2.1
   have f1:=fun o=>(HZ44.out.alloc o).get2.2.2.2
   have d0:=fun o=>(HZ74.out.alloc o).get2.1
   have d1:=fun o=>(HZ74.out.alloc o).get2.2.1
   go_wp2_with fail
   go_region_with (go_at_call 44;refine (QN.out _ (by first|exact HP4.out.alloc _|exact (HP4.out.alloc _).drewN 1|exact ((HP4.out.alloc _).drewN 1).drewN 1)).mono ?_;rintro en w5 ⟨rfl,hb5⟩;have hb0:Below (w4.alloc (.cells #[.slice dA dn dc,.slice rA rn rc] 26)).heap.size (w4.alloc (.cells #[.slice dA dn dc,.slice rA rn rc] 26)) w5:=(by first|exact hb5|exact ⟨hb5.os,hb5.tape,hb5.output,hb5.size,hb5.block⟩);have HB5:=Lib.hid (Below.after (HB4.out.alloc (by omega) _) hb0 (by simp<;>omega));obtain ⟨a0,a1,a2,a3⟩:=((HZ44.out.alloc _).below hb0).get2;obtain ⟨a4,a5,a6,a7⟩:=((HZ74.out.alloc _).below hb0).get2;clear hb5 hb0)
   all_goals
    go_wp2_with fail
    refine bodyPost_ret (v:=.tuple #[.agg #[.slice none 0 0,.slice none 0 0],.int .i64 (q:Int),.int .i64 er]) (by simp [results,Tryz.results23,go_sem,a0,a1]) rfl ?_
    refine ⟨#[.slice none 0 0,.slice none 0 0],q,er,rfl,?_,.inr ⟨HE.out,rfl,?_⟩⟩
    ·first|exact (HB5.out.setCell (Nat.le_refl _) _).setCell (Nat.le_refl _) _|exact ((HB5.out.setCell (Nat.le_refl _) _).setCell (Nat.le_refl _) _).drew
    ·rw [whole_ok HW.out]
     rcases HO4.out with ⟨h0,_⟩|⟨_,hf⟩
     ·exact absurd h0 HE.out
     ·simp only [hf,onlyS,off_here HP4.out.ilt,HTk.out]
 ·have HE:=Lib.hid he
  have hne:(e != 0)=true:=bne_iff_ne.2 he
  clear he
  go_enter Tryz.func23,Tryz.ntmps23
  go_wp2_with fail
  refine (QS.out _).mono ?_
  rintro en w3 ⟨A,c,rfl,_,hb3⟩
  have HB3:=Lib.hid (show Below w.heap.size w w3 from Below.after (((Below.refl w.heap.size w).alloc (Nat.le_refl _) (.cells #[.slice none 0 0,.slice none 0 0] 26)).alloc (by simp) (.cells #[.slice none 0 0,.slice none 0 0] 26)) hb3 (by simp<;>omega))
  obtain ⟨c0,c1,f0,f1⟩:=(((BoxL.new w [.slice none 0 0,.slice none 0 0] 26).alloc (.cells #[.slice none 0 0,.slice none 0 0] 26)).below hb3).get2
  obtain ⟨d0,d1,_,_⟩:=(show BoxL w3 (w.heap.size+1) [.slice none 0 0,.slice none 0 0] by
   have:=BoxL.new (w.alloc (.cells #[.slice none 0 0,.slice none 0 0] 26)) [.slice none 0 0,.slice none 0 0] 26
   rw [show (w.alloc (.cells #[.slice none 0 0,.slice none 0 0] 26)).heap.size=w.heap.size+1 by simp] at this
   exact this.below hb3).get2
  clear hb3
  go_wp2_with fail
  refine bodyPost_ret (v:=.tuple #[.agg #[.slice none 0 0,.slice none 0 0],.int .i64 (p:Int),.int .i64 e]) (by simp [results,Tryz.results23,go_sem,c0,c1]) rfl ?_
  exact ⟨#[.slice none 0 0,.slice none 0 0],p,e,rfl,(HB3.out.setCell (Nat.le_refl _) _).setCell (Nat.le_refl _) _,.inr ⟨HE.out,rfl,whole_err HW.out HE.out⟩⟩
end Go.Proofs.YtaojnljppcnhjaaGreatDoor
namespace Go.Proofs.YtaojnljppcnhjaaGreatDoor
open Go.RowKit
theorem declsS_len:∀(n:Nat) (ts:List Tok),ts.length≤n→∀acc v r ns,declsS acc ts=.ok v r ns→v.length≤30
 | n,ts,hn,acc,v,r,ns,h=>by
  rw [declsS] at h
  split at h
  ·cases h
  ·rename_i h30
   split at h
   ·cases h
   ·split at h
    ·cases h
    ·split at h
     ·cases h
     ·split at h
      ·cases h
      ·split at h
       ·cases h
       ·split at h
        ·split at h
         ·rename_i h2
          cases n with
          | zero=>omega
          | succ n=>exact declsS_len n _ (by omega) _ _ _ _ h
         ·cases h
        ·simp only [wantS] at h
         split at h
         ·injection h with h1 _ _
          subst h1
          simp only [List.length_append,List.length_cons,List.length_nil]
          omega
         ·cases h
theorem all_goon {acc v:List Dl} {ts r:List Tok} {ns:List (List UInt8)} (hw:isW constraintW ts=true) (h:declsS acc ts=.ok v r ns) (hl:r.length < ts.length):allDecls acc ts=allDecls v r:=by
 rw [allDecls,show isW [99,111,110,115,116,114,97,105,110,116] ts=true from hw,if_pos rfl,h]
 simp only
 rw [dif_pos hl]
theorem all_bad {acc:List Dl} {ts:List Tok} {n:Nat} {e:Int} (hw:isW constraintW ts=true) (h:declsS acc ts=.err n e):allDecls acc ts=.err n e:=by
 rw [allDecls,show isW [99,111,110,115,116,114,97,105,110,116] ts=true from hw,if_pos rfl,h]
theorem rules_bad {ex:Rd1 Tm} {acc:List Rs} {l:List Tk} {i n:Nat} {e:Int} (hi:i < l.length) (h:(l.getD i default).1≠0) (h4:¬40≤acc.length) (hq:ruleS ex (leftT l i)=.err n e):rulesS ex acc (leftT l i)=.err n e:=by
 rw [left_cons hi] at hq ⊢
 rw [rulesS,if_neg h,if_neg h4,hq]
section
variable {α:Type} {E:Elt α} {T:TypeId} {lo:Nat} {z:Value} {w w':World} {r:Value} {l:List α}
theorem RowZ.z0 (h:RowZ E T lo z w r l):RowZ E T lo Z0 w r l:=⟨h.row,h.sit.z0,h.apart,fun k _=>Z0_own k⟩
end
theorem Kd.bel {R lo n:Nat} {w a b:World} (h:Kd R lo a b) (hb:Below n w a) (hR:n≤R) (hl:n≤lo):Below n w b :=
 ⟨h.os.trans hb.os,h.tape.trans hb.tape,h.output.trans hb.output,Nat.le_trans hb.size h.size,fun k hk=>(h.block k (by omega) (by omega)).trans (hb.block k hk)⟩
theorem BoxL.bel {n T:Nat} {vs:List Value} {w w':World} (h:BoxL w T vs) (hb:Below n w w') (hT:T < n):BoxL w' T vs:=h.of hb.size (hb.block T hT)
def MemPz (lo:Nat) (w:World) (V:Array Value) (x:List Dl×List Rs):Prop:=∃(ds:List Dl) (rz:List Ru) (dA rA:Option Addr) (dn dc rn rc:Nat),V=#[.slice dA dn dc,.slice rA rn rc]∧x=(ds,rz.map Ru.p)∧RowZ elDl 72 lo Z0 w (.slice dA dn dc) ds∧RowZ elRu 35 lo Z0 w (.slice rA rn rc) rz
structure Ld1 (A:Option Addr) (c:Nat) (l:List Tk) (w3:World) (gk:Nat) (wr:World) (q:Nat) (ds:List Dl) (B:Option Addr) (zc a:Nat):Prop where
 bel:Below w3.heap.size w3 wr
 p:Pr wr w3.heap.size A c l q Z0 [] a 0
 out:BoxL wr (w3.heap.size+1) [.slice B ds.length zc,.slice none 0 0]
 row:RowZ elDl 72 (w3.heap.size+2) Z0 wr (.slice B ds.length zc) ds
 all:allDecls [] (leftT l 0)=allDecls ds (leftT l q)
 small:ds.length≤30
 gk_:l.length - q≤gk
 sz:w3.heap.size+2≤wr.heap.size
structure Ld2 (ex:Rd1 Tm) (A:Option Addr) (c:Nat) (l:List Tk) (i:Nat) (w3:World) (m:Nat) (ds:List Dl) (dA:Option Addr) (dc:Nat) (gk:Nat) (wr:World) (q:Nat) (z:Value) (ns:List (List UInt8)) (a:Nat) (rz:List Ru) (B:Option Addr) (zc:Nat):Prop where
 bel:Below w3.heap.size w3 wr
 p:Pr wr w3.heap.size A c l q z ns a 0
 zO:∀k,z.ownBlock=some k→w3.heap.size+1 < k
 out:BoxL wr (w3.heap.size+1) [.slice dA ds.length dc,.slice B rz.length zc]
 drow:RowZ elDl 72 (w3.heap.size+2) Z0 wr (.slice dA ds.length dc) ds
 dless:∀k,(Value.slice dA ds.length dc).ownBlock=some k→k < m
 row:RowZ elRu 35 m Z0 wr (.slice B rz.length zc) rz
 all:rulesS ex [] (leftT l i)=rulesS ex (rz.map Ru.p) (leftT l q)
 small:rz.length≤40
 gk_:l.length - q≤gk
 sz:m≤wr.heap.size
 mlo:w3.heap.size+2≤m
end Go.Proofs.YtaojnljppcnhjaaGreatDoor
namespace Go.Proofs.YtaojnljppcnhjaaGreatDoor
open Go.RowKit
theorem rows_sit {lo m1 m2 m3 n kc rc gc bc:Nat} {kA rA gA bA:Option Addr} {z:Value} {w:World} {t:List UInt8} {ks rs:List Am} {gs bs:List Gl} (h:RowsZ lo m1 m2 m3 z w (.slice kA ks.length kc) (.slice rA rs.length rc) (.slice gA gs.length gc) (.slice bA bs.length bc) ks rs gs bs) (ht:t.length≤16384) :
  SitZ elRu lo z w [⟨t,ks,rs,gs,bs,kA,kc,rA,rc,gA,gc,bA,bc,n⟩]:=by
 have hl:=h.l1
 have hall:∀b∈elRu.blkL [⟨t,ks,rs,gs,bs,kA,kc,rA,rc,gA,gc,bA,bc,n⟩],lo≤b∧b < w.heap.size∧z.ownBlock≠some b:=fun b hb=>by
  rw [Elt.blkL_one] at hb
  rcases List.mem_append.1 hb with hb|hb<;>rcases List.mem_append.1 hb with hb|hb
  ·exact h.k.blkR b hb
  ·obtain ⟨a1,a2⟩:=h.r.blkR b hb
   exact ⟨by omega,a2⟩
  ·obtain ⟨a1,a2⟩:=h.g.blkR b hb
   exact ⟨by omega,a2⟩
  ·obtain ⟨a1,a2⟩:=h.b.blkR b hb
   exact ⟨by omega,a2⟩
 refine ⟨fun x hx=>?_,fun b hb=>⟨(hall b hb).1,(hall b hb).2.1⟩,fun b hb=>(hall b hb).2.2⟩
 rw [List.mem_singleton.1 hx]
 exact ⟨ht,⟨h.k.rd,h.r.rd⟩,⟨h.g.rd,h.b.rd⟩⟩
theorem RowZ.dl_grown {T:TypeId} {lo:Nat} {w w':World} {r:Value} {l:List Dl} {row:Option Nat} (h:RowZ elDl T lo Z0 w r l) (hg:w.grownBy w' row) (hr:∀k,r.ownBlock=some k→row≠some k):RowZ elDl T lo Z0 w' r l :=
 ⟨own_of h.row fun k hk=>hg.block k (own_lt h.row k hk).2 (fun e=>hr k hk e.symm),h.sit.frame hg.size (fun b hb=>by simp [Elt.blkL,elDl] at hb) h.sit.out,h.apart,h.zap⟩
theorem below_grown {n:Nat} {w a b:World} {row:Option Nat} (h:Below n w a) (hg:a.grownBy b row) (hn:n≤a.heap.size) (hr:∀k,row=some k→n≤k):Below n w b :=
 ⟨hg.os.trans h.os,hg.tape.trans h.tape,hg.output.trans h.output,Nat.le_trans h.size hg.size,fun k hk=>(hg.block k (by omega) (fun e=>by have:=hr k e.symm;omega)).trans (h.block k hk)⟩
section
variable {F:Nat} (hF:16384≤F) (s:ByteArray) (hs:s.size≤100000) (w:World)
include hF hs
set_option maxHeartbeats 16000000 in
set_option maxRecDepth 100000 in
theorem parse_z:Calls Tryz.prog 11 #[.string s] w (WholeQ (programS (exprS (F+1))) #[.slice none 0 0,.slice none 0 0] MemPz s w):=by
 obtain ⟨i1,hi1,hy0,hy1,hy2⟩:=info_parts rule_info
 have QS:=Lib.hid (fun W=>tr_scan_at s W hs)
 have HR:=Lib.hid (fun (R:Nat) (A:Option Addr) (c:Nat) (l:List Tk) (hg:GoodT l) i z ns a W (h:Pr W R A c l i z ns a 0)=>rule_zF hF hg i z ns a W h)
 have HSc:=Lib.hid (fun h0=>good_scan (s:=s) h0)
 obtain ⟨sc,hsc⟩:∃sc,scanP s=sc:=⟨_,rfl⟩
 rw [show ScanR s=fun w e w'=>∃A c,e=.returned (.tuple #[.slice A (scanP s).1.length c,.int .i64 ((scanP s).2.1:Int),.int .i64 (scanP s).2.2])∧TLst w' A (scanP s).1 c∧Below w.heap.size w w' from rfl,hsc] at QS
 rw [hsc] at HSc
 obtain ⟨l,p,e⟩:=sc
 have HW:=Lib.hid hsc
 clear hsc hs hF
 by_cases he:e=0
 ·subst he
  go_enter Tryz.func11,Tryz.ntmps11
  go_wp2_with fail
  refine (QS.out _).mono ?_
  rintro en w3 ⟨A,c,rfl,hT,hb3⟩
  have HT:=Lib.hid (show TLst w3 A l c from hT)
  have HG:=Lib.hid (show GoodT l by first|exact HSc.out rfl|exact HSc.out trivial)
  have HB3:=Lib.hid (show Below w.heap.size w w3 from Below.after ((Below.refl w.heap.size w).alloc (Nat.le_refl _) (.cells #[.slice none 0 0,.slice none 0 0] 26)) hb3 (by simp<;>omega))
  have HZ:=Lib.hid ((BoxL.new w [.slice none 0 0,.slice none 0 0] 26).below hb3)
  have hsz3:w.heap.size+1≤w3.heap.size:=by have:=hb3.size;simpa using this
  have H0:=Lib.hid (show Ld1 A c l w3 l.length ((w3.alloc (.cells #[.slice A l.length c,.int .i64 0,.slice none 0 0,.int .i64 0,.int .i64 0] 63)).alloc (.cells #[.slice none 0 0,.slice none 0 0] 26)) 0 [] none 0 0 from by
   refine ⟨((Below.refl _ _).alloc (Nat.le_refl _) _).alloc (by simp) _,(pr_new HT.out HG.out.ended.1 _).alloc _,?_,RowZ.nil _ _ _ _ _,rfl,by simp,by omega,by simp⟩
   have:=BoxL.new (w3.alloc (.cells #[.slice A l.length c,.int .i64 0,.slice none 0 0,.int .i64 0,.int .i64 0] 63)) [.slice none 0 0,.slice none 0 0] 26
   rw [World.size_alloc] at this
   exact this)
  clear hT hb3 HSc QS
  go_wp2_with fail
  go_loopg [] l.length (fun gk wr=>∃(q:Nat) (ds:List Dl) (B:Option Addr) (zc a:Nat),Hid (Ld1 A c l w3 gk wr q ds B zc a))
  case atStart=>exact ⟨0,[],none,0,0,H0⟩
  case round =>
   clear H0
   obtain ⟨q,ds,B,zc,a,hI⟩:=hrel
   have hP:=hI.out.p
   have hsz:=hI.out.sz
   obtain ⟨b,hb⟩:∃b,((l.getD q default).2.2==constraintW)=b:=⟨_,rfl⟩
   have QX:=Lib.hid (show Calls Tryz.prog 25 #[.pointer (some ⟨w3.heap.size,0,none⟩),.string (S constraintW)] wr fun en w'=>en=.returned (.bool b)∧Below wr.heap.size wr w' by
    have:=r_word_at hP constraintW
    rw [←HG.out.acc hP.ilt (by decide),hb] at this
    exact this)
   have XW:=Lib.hid (show isW constraintW (leftT l q)=b by rw [isW_left HG.out hP.ilt (by decide)];exact hb)
   have HNe:=Lib.hid (show b=true→(l.getD q default).2.2≠[] from fun e h0=>by rw [h0] at hb;rw [e] at hb;exact absurd hb (by decide))
   clear hb hP
   cases b
   ·go_wp2_with (go_at_call 25;(with_reducible refine QX.out.mono ?_);rintro en w4 ⟨rfl,hb4⟩;have HB4:=Lib.hid hb4;have HP4:=Lib.hid (hI.out.p.below hb4);have HO4:=Lib.hid (hI.out.out.below hb4);have HR4:=Lib.hid (hI.out.row.below hb4);have HL4:=Lib.hid (Nat.le_trans hsz hb4.size);clear hb4)
    have HAll:=Lib.hid (show allDecls [] (leftT l 0)=.ok ds (leftT l q) [] by rw [hI.out.all,all_end XW.out])
    have H2:=Lib.hid (show Ld2 (exprS (F+1)) A c l q w3 w4.heap.size ds B zc (l.length - q) w4 q Z0 [] a [] none 0 from
     ⟨Below.after hI.out.bel HB4.out (by omega),HP4.out,fun k hk=>absurd hk (Z0_own k),HO4.out,HR4.out,fun k hk=>(own_lt HR4.out.row k hk).2,RowZ.nil _ _ _ _ _,rfl,by simp,Nat.le_refl _,Nat.le_refl _,HL4.out⟩)
    have hm4:=HL4.out
    clear hI XW QX HB4 HP4 HO4 HR4 HL4 hsz HNe
    go_loopg [] (l.length - q) (fun gk wr=>∃(q2:Nat) (z2:Value) (ns2:List (List UInt8)) (a2:Nat) (rz:List Ru) (B2:Option Addr) (zc2:Nat),Hid (Ld2 (exprS (F+1)) A c l q w3 w4.heap.size ds B zc gk wr q2 z2 ns2 a2 rz B2 zc2))
    case atStart=>exact ⟨q,Z0,[],a,[],none,0,H2⟩
    case round =>
     clear H2
     obtain ⟨q2,z2,ns2,a2,rz,B2,zc2,hJ⟩:=hrel
     have hPJ:=hJ.out.p
     have hszJ:=Nat.le_trans hJ.out.mlo hJ.out.sz
     have hl40:=hJ.out.small
     have hl40':(rz.length:Int)≤40:=by omega
     have h40':rz.length≤9223372036854775807:=by omega
     have HI2:=Lib.hid hPJ.ilt
     obtain ⟨tk,htk⟩:∃tk,l.getD q2 default=tk:=⟨_,rfl⟩
     obtain ⟨k,p2,x⟩:=tk
     have fk:=tok_kind k (p2:Int) (S x)
     have fa:=tok_at k (p2:Int) (S x)
     have HTk:=Lib.hid htk
     have QT:=Lib.hid (fun W (hW:Pr W w3.heap.size A c l q2 z2 ns2 a2 0)=>r_tok_of hW htk)
     clear htk hPJ
     by_cases hk:k=0
     ·subst hk
      go_wp2_with (go_at_call 27;(with_reducible refine (QT.out _ hJ.out.p).mono ?_);rintro en w5 ⟨rfl,hb5⟩;have HB5:=Lib.hid (Below.after hJ.out.bel hb5 (by omega));have HDr5:=Lib.hid (hJ.out.drow.below hb5);have HRr5:=Lib.hid (hJ.out.row.below hb5);obtain ⟨d0,d1,g0,g1⟩:=(hJ.out.out.below hb5).get2;obtain ⟨a0,a1,qa0,qa1⟩:=(HZ.out.bel (Below.after hJ.out.bel hb5 (by omega)) (by omega)).get2;clear hb5)
      refine bodyPost_ret (v:=.tuple #[.agg #[.slice B ds.length zc,.slice B2 rz.length zc2],.int .i64 0,.int .i64 0]) (by simp [results,Tryz.results11,go_sem,a0,a1]) rfl ?_
      have HB0:=Lib.hid (show Below w.heap.size w w5 from Below.after HB3.out HB5.out (by omega))
      have hmm:=hJ.out.mlo
      refine ⟨#[.slice B ds.length zc,.slice B2 rz.length zc2],0,0,rfl,(HB0.out.setCell (Nat.le_refl _) _).setCell (Nat.le_refl _) _,.inl ⟨rfl,rfl,(ds,rz.map Ru.p),?_,ds,rz,B,B2,ds.length,zc,rz.length,zc2,rfl,rfl,?_,?_⟩⟩
      ·rw [whole_ok HW.out]
       simp only [programS,HAll.out,hJ.out.all,rules_end HI2.out (show (l.getD q2 default).1=0 by rw [HTk.out]),onlyS]
       rw [left_cons HI2.out,HTk.out]
       rfl
      ·exact ((HDr5.out.put (p:=⟨w.heap.size,0,none⟩) (by show w.heap.size < _;omega) _).put (p:=⟨w.heap.size,1,none⟩) (by show w.heap.size < _;omega) _).low (by omega)
      ·exact ((HRr5.out.put (p:=⟨w.heap.size,0,none⟩) (by show w.heap.size < _;omega) _).put (p:=⟨w.heap.size,1,none⟩) (by show w.heap.size < _;omega) _).low (by omega)
     ·have hkb:(k != 0)=true:=bne_iff_ne.2 hk
      have HKn:=Lib.hid (show (l.getD q2 default).1≠0 by rw [HTk.out];exact hk)
      clear hk
      by_cases hm:40≤rz.length
      ·have hm':(40:Int)≤(rz.length:Int):=by omega
       have HM:=Lib.hid hm
       clear hm
       go_wp2_with (first
        | (go_at_call 27;(with_reducible refine (QT.out _ HP5.out).mono ?_);rintro en w6 ⟨rfl,hb6⟩;have HB6:=Lib.hid (Below.after HB5.out hb6 (by omega));obtain ⟨a0,a1,qa0,qa1⟩:=(HZ.out.bel (Below.after HB5.out hb6 (by omega)) (by omega)).get2;clear hb6)
        | (go_at_call 27;(with_reducible refine (QT.out _ hJ.out.p).mono ?_);rintro en w5 ⟨rfl,hb5⟩;have hs5:=hb5.size;have HB5:=Lib.hid (Below.after hJ.out.bel hb5 (by omega));have HP5:=Lib.hid (hJ.out.p.below hb5);obtain ⟨d0,d1,g0,g1⟩:=(hJ.out.out.below hb5).get2;clear hb5))
       refine bodyPost_ret (v:=.tuple #[.agg #[.slice none 0 0,.slice none 0 0],.int .i64 (p2:Int),.int .i64 6]) (by simp [results,Tryz.results11,go_sem,a0,a1]) rfl ?_
       have HB0:=Lib.hid (show Below w.heap.size w w6 from Below.after HB3.out HB6.out (by omega))
       refine ⟨#[.slice none 0 0,.slice none 0 0],p2,6,rfl,?_,.inr ⟨by decide,rfl,?_⟩⟩
       ·first|(with_reducible refine Below.drew ?_;exact (HB0.out.setCell (Nat.le_refl _) _).setCell (Nat.le_refl _) _)|exact (HB0.out.setCell (Nat.le_refl _) _).setCell (Nat.le_refl _) _
       ·rw [whole_ok HW.out]
        simp only [programS,HAll.out,hJ.out.all,rules_much HI2.out HKn.out (show 40≤(rz.map Ru.p).length by rw [List.length_map];exact HM.out),onlyS,off_here HI2.out,HTk.out]
      ·have hm':¬(40:Int)≤(rz.length:Int):=by omega
       have hm'':(rz.length:Int) < 40:=by omega
       have hm3:rz.length < 40:=by omega
       have HM:=Lib.hid (show ¬40≤(rz.map Ru.p).length by rw [List.length_map];exact hm)
       have HM3:=Lib.hid hm3
       have QR:=Lib.hid (HR.out w3.heap.size A c l HG.out q2 z2 ns2 a2)
       clear hm
       go_wp2_with (go_at_call 27;(with_reducible refine (QT.out _ hJ.out.p).mono ?_);rintro en w5 ⟨rfl,hb5⟩;have hs5:=hb5.size;have HB5:=Lib.hid (Below.after hJ.out.bel hb5 (by omega));have HP5:=Lib.hid (hJ.out.p.below hb5);have HO5:=Lib.hid (hJ.out.out.below hb5);have HDr5:=Lib.hid (hJ.out.drow.below hb5);have HRr5:=Lib.hid (hJ.out.row.below hb5);obtain ⟨d0,d1,g0,g1⟩:=(hJ.out.out.below hb5).get2;clear hb5)
       refine (QR.out _ HP5.out).mono ?_
       rintro en w6 ⟨t,kv,rv,gv,bv,n,b,rfl,⟨⟨kA,kn,kc,rfl⟩,⟨rA,rn,rc,rfl⟩,⟨gA,gn,gc,rfl⟩,⟨bA,bn,bc,rfl⟩⟩,ho⟩
       clear d0 d1 g0 g1
       have hm0:=hJ.out.mlo
       have hm1:=hJ.out.sz
       rcases ho with ⟨rfl,z',ns',j,a6,m1,m2,m3,ks,rs,gs,bs,hk6,hp6,hf6,hqj,htl,hrw⟩|⟨rfl,z',ns',j,nn,er,hk6,hp6,hne,hf6⟩
       ·obtain ⟨_,_,e1⟩:=hrw.k.zform
        obtain ⟨_,_,e2⟩:=hrw.r.zform
        obtain ⟨_,_,e3⟩:=hrw.g.zform
        obtain ⟨_,_,e4⟩:=hrw.b.zform
        injection e1 with e11 e12 e13
        subst e11 e12 e13
        injection e2 with e21 e22 e23
        subst e21 e22 e23
        injection e3 with e31 e32 e33
        subst e31 e32 e33
        injection e4 with e41 e42 e43
        subst e41 e42 e43
        have HU:=Lib.hid (rows_sit (n:=n) hrw htl)
        have hs6:=hk6.size
        have HB6:=Lib.hid (hk6.bel HB5.out (Nat.le_refl _) (by omega))
        have HO6:=Lib.hid (HO5.out.kz hk6 (by omega) (Z0_own _))
        have HDr6:=Lib.hid (HDr5.out.kp hk6 (by omega)).z0
        have HRz6:=Lib.hid (HRr5.out.kp hk6 (by omega))
        have HRr6:=Lib.hid HRz6.out.z0
        have HP6:=Lib.hid hp6
        have HF6:=Lib.hid hf6
        have HQJ:=Lib.hid hqj
        have HZo:=Lib.hid (show ∀k,z'.ownBlock=some k→w3.heap.size+1 < k from fun k hk=>by
         rcases hk6.own k hk with h1|h1
         ·exact absurd h1 (Z0_own k)
         ·omega)
        have hown6:=Lib.hid (own_lt HRr6.out.row)
        have hown5:=Lib.hid (own_lt HRr5.out.row)
        clear hk6 hp6 hf6 hrw htl hqj
        have d1:=fun o=>(HO6.out.alloc o).get2.2.1
        go_wp2_with (at_builtin;refine wpList_append_lies _ rfl _ _ 24 rfl w4.heap.size 35 i1 _ 6 120 Tryz.underlying24 hi1 hy0 hy1 hy2 rfl (by decide) (.slice B2 rz.length zc2) rz.length (Elt.cellsL elRu rz) rfl ((HRr6.out.row.alloc _).alloc _) ⟨w6.heap.size+1,0,none⟩ 1 1 (Elt.cells elRu ⟨t,ks,rs,gs,bs,kA,kc,rA,rc,gA,gc,bA,bc,n⟩) rfl rfl (news2_R w6 _ ⟨t,ks,rs,gs,bs,kA,kc,rA,rc,gA,gc,bA,bc,n⟩ _) (ru_one ⟨t,ks,rs,gs,bs,kA,kc,rA,rc,gA,gc,bA,bc,n⟩) (by decide) (by unfold maxLen;omega) (by omega) (by simp;omega) _ rfl ?_;intro g cap w7 hown hg hat hglt;have hbx:=(((Below.refl w6.heap.size w6).alloc (Nat.le_refl _) (.cells (rbox ⟨t,ks,rs,gs,bs,kA,kc,rA,rc,gA,gc,bA,bc,n⟩) 35)).alloc (by simp) (.cells (rbox ⟨t,ks,rs,gs,bs,kA,kc,rA,rc,gA,gc,bA,bc,n⟩) 35));have HR7:=Lib.hid (HRr6.out.next (m:=w5.heap.size+2) (fun k hk=>absurd hk (Z0_own k)) (by omega) (fun k hk=>by have:=(hown5.out k hk).2;omega) HU.out.z0 hbx hown hg hat);have HB7:=Lib.hid (below_grown (Below.after HB6.out hbx (by omega)) hg (by simp;omega) (fun k hk=>by have:=(hown6.out k hk).1;omega));have HP7:=Lib.hid ((HP6.out.below hbx).grown hg (fun k hk=>⟨by have:=(hown6.out k hk).1;omega,HRz6.out.zap k hk⟩));have HO7:=Lib.hid ((HO6.out.below hbx).grown hg (fun e=>by have:=(hown6.out _ e).1;omega));have HDr7:=Lib.hid ((HDr6.out.below hbx).dl_grown hg (fun k hk e=>by have:=(hown6.out k e).1;have:=hJ.out.dless k hk;omega));have hs7:w6.heap.size+2≤w7.heap.size:=(by have:=hg.size;simp at this;omega);obtain ⟨d70,d71,g70,g71⟩:=HO7.out.get2;clear hown hg hat hglt hbx)
        have HNx:=Lib.hid (show Ld2 (exprS (F+1)) A c l q w3 w4.heap.size ds B zc (gk - 1) (w7.setCell ⟨w3.heap.size+1,1,none⟩ (.slice (some ⟨g,0,none⟩) (rz.length+1) cap)) j z' ns' a6 (rz++[⟨t,ks,rs,gs,bs,kA,kc,rA,rc,gA,gc,bA,bc,n⟩]) (some ⟨g,0,none⟩) cap by
         have el:(rz++[(⟨t,ks,rs,gs,bs,kA,kc,rA,rc,gA,gc,bA,bc,n⟩:Ru)]).length=rz.length+1:=by simp
         have h1:=hJ.out.gk_
         have h2:=HP6.out.ilt
         have h3:=HQJ.out
         have h5:=HM3.out
         refine ⟨HB7.out.setCell (by show w3.heap.size≤w3.heap.size+1;omega) _,HP7.out.store (p:=⟨w3.heap.size+1,1,none⟩) (by show w3.heap.size < w3.heap.size+1;omega) (fun e=>absurd (HZo.out _ e) (Nat.lt_irrefl _)) _,HZo.out,by rw [el];exact HO7.out.set (j:=1) (by simp) _,HDr7.out.put (p:=⟨w3.heap.size+1,1,none⟩) (by show w3.heap.size+1 < w3.heap.size+2;omega) _,hJ.out.dless,by rw [el];exact HR7.out.put (p:=⟨w3.heap.size+1,1,none⟩) (by show w3.heap.size+1 < w4.heap.size;omega) _,?_,by rw [el];omega,by omega,by rw [show ∀(p:Addr) (v:Value),(w7.setCell p v).heap.size=w7.heap.size from fun p v=>by simp [World.setCell]];omega,hm0⟩
         rw [hJ.out.all,rules_next HI2.out HKn.out HM.out HF6.out (by rw [left_length,left_length];omega),List.map_append]
         rfl)
        have HGk:=Lib.hid (show gk - 1 < gk by have h1:=hJ.out.gk_;have h2:=HI2.out;omega)
        go_wp2_with fail
        go_roundg (gk - 1)
        case measure=>exact HGk.out
        case rel=>exact ⟨j,z',ns',a6,_,_,_,HNx⟩
       ·have HB6:=Lib.hid (hk6.bel HB5.out (Nat.le_refl _) (by omega))
        have hs6:=hk6.size
        have HB0:=Lib.hid (show Below w.heap.size w (w6.alloc (.cells #[.string (S t),.slice kA kn kc,.slice rA rn rc,.slice gA gn gc,.slice bA bn bc,.int .i64 (n:Int)] 35)) from (Below.after HB3.out HB6.out (by omega)).alloc (by omega) _)
        obtain ⟨a0,a1,qa0,qa1⟩:=((HZ.out.bel HB6.out (by omega)).alloc (.cells #[.string (S t),.slice kA kn kc,.slice rA rn rc,.slice gA gn gc,.slice bA bn bc,.int .i64 (n:Int)] 35)).get2
        have l3:=(hp6.alloc (.cells #[.string (S t),.slice kA kn kc,.slice rA rn rc,.slice gA gn gc,.slice bA bn bc,.int .i64 (n:Int)] 35)).l3
        have l4:=(hp6.alloc (.cells #[.string (S t),.slice kA kn kc,.slice rA rn rc,.slice gA gn gc,.slice bA bn bc,.int .i64 (n:Int)] 35)).l4
        obtain ⟨po,hpo⟩:∃po,offT l nn=po:=⟨_,rfl⟩
        rw [hpo] at l3
        have HPo:=Lib.hid hpo
        have HNe:=Lib.hid hne
        have HF6:=Lib.hid hf6
        clear hk6 hp6 hne hf6 hpo
        go_wp2_with fail
        go_region
        all_goals
         go_wp2_with fail
         refine bodyPost_ret (v:=.tuple #[.agg #[.slice none 0 0,.slice none 0 0],.int .i64 (po:Int),.int .i64 er]) (by simp [results,Tryz.results11,go_sem,a0,a1]) rfl ?_
         refine ⟨#[.slice none 0 0,.slice none 0 0],po,er,rfl,?_,.inr ⟨HNe.out,rfl,?_⟩⟩
         ·first|(with_reducible refine Below.drew ?_;exact (HB0.out.setCell (Nat.le_refl _) _).setCell (Nat.le_refl _) _)|exact (HB0.out.setCell (Nat.le_refl _) _).setCell (Nat.le_refl _) _
         ·rw [whole_ok HW.out]
          simp only [programS,HAll.out,hJ.out.all,rules_bad HI2.out HKn.out HM.out HF6.out,onlyS,HPo.out]
   ·go_wp2_with (go_at_call 25;(with_reducible refine QX.out.mono ?_);rintro en w4 ⟨rfl,hb4⟩;have HB4:=Lib.hid hb4;have HP4:=Lib.hid (hI.out.p.below hb4);have HO4:=Lib.hid (hI.out.out.below hb4);have HR4:=Lib.hid (hI.out.row.below hb4);have HL4:=Lib.hid (Nat.le_trans hsz hb4.size);obtain ⟨d0,d1,g0,g1⟩:=(hI.out.out.below hb4).get2;clear hb4)
    have QD:=Lib.hid (decls_z HG.out (w3.heap.size+2) (by omega) B zc ds q a _ HP4.out HL4.out HR4.out (by first|exact HNe.out rfl|exact HNe.out trivial) hI.out.small)
    refine QD.out.mono ?_
    rintro en w5 ⟨xs,b5,rv,rfl,⟨xA,xn,xc,rfl⟩,hk5,ho5⟩
    have HB5:=Lib.hid (hk5.bel (Below.after hI.out.bel HB4.out (by omega)) (Nat.le_refl _) (by omega))
    have HO5:=Lib.hid (HO4.out.of hk5.size (hk5.block _ (by omega) (by omega)))
    have HZ5:=Lib.hid (HZ.out.bel HB5.out (by omega))
    have HL5:=Lib.hid (Nat.le_trans HL4.out hk5.size)
    clear hk5
    rcases ho5 with ⟨rfl,j,a5,hp5,hf5,hqj,hr5⟩|⟨rfl,j,n,er,hp5,hne5,hf5⟩
    ·obtain ⟨_,_,e5⟩:=hr5.zform
     injection e5 with e51 e52 e53
     subst e51 e52 e53
     have HP5:=Lib.hid hp5
     have HR5:=Lib.hid hr5
     obtain ⟨d50,d51,g50,g51⟩:=HO5.out.get2
     have HNx:=Lib.hid (show Ld1 A c l w3 (gk - 1) (w5.setCell ⟨w3.heap.size+1,0,none⟩ (.slice xA xs.length xc)) j xs xA xc a5 from by
      have h1:=hI.out.gk_
      have h2:=hp5.ilt
      refine ⟨HB5.out.setCell (by show w3.heap.size≤w3.heap.size+1;omega) _,hp5.store (p:=⟨w3.heap.size+1,0,none⟩) (by show w3.heap.size < w3.heap.size+1;omega) (Z0_own _) _,HO5.out.set (j:=0) (by simp) _,hr5.put (p:=⟨w3.heap.size+1,0,none⟩) (by show w3.heap.size+1 < w3.heap.size+2;omega) _,?_,declsS_len _ _ (Nat.le_refl _) _ _ _ _ hf5,by omega,by simpa [World.setCell] using HL5.out⟩
      rw [hI.out.all,all_goon XW.out hf5 (by rw [left_length,left_length];omega)])
     have HGk:=Lib.hid (show gk - 1 < gk by have h1:=hI.out.gk_;have h2:=hp5.ilt;omega)
     clear hp5 hf5 hr5
     go_wp2_with fail
     go_roundg (gk - 1)
     case measure=>exact HGk.out
     case rel=>exact ⟨j,xs,xA,xc,a5,HNx⟩
    ·have HB0:=Lib.hid (show Below w.heap.size w w5 from Below.after HB3.out HB5.out (by omega))
     obtain ⟨a0,a1,qa0,qa1⟩:=HZ5.out.get2
     have l3:=hp5.l3
     have l4:=hp5.l4
     obtain ⟨po,hpo⟩:∃po,offT l n=po:=⟨_,rfl⟩
     rw [hpo] at l3
     have HPo:=Lib.hid hpo
     have HN5:=Lib.hid hne5
     have HF5:=Lib.hid hf5
     clear hp5 hne5 hf5 hpo
     go_wp2_with fail
     go_region
     all_goals
      go_wp2_with fail
      refine bodyPost_ret (v:=.tuple #[.agg #[.slice none 0 0,.slice none 0 0],.int .i64 (po:Int),.int .i64 er]) (by simp [results,Tryz.results11,go_sem,a0,a1]) rfl ?_
      refine ⟨#[.slice none 0 0,.slice none 0 0],po,er,rfl,?_,.inr ⟨HN5.out,rfl,?_⟩⟩
      ·first|(with_reducible refine Below.drew ?_;exact (HB0.out.setCell (Nat.le_refl _) _).setCell (Nat.le_refl _) _)|exact (HB0.out.setCell (Nat.le_refl _) _).setCell (Nat.le_refl _) _
      ·rw [whole_ok HW.out]
       simp only [programS,hI.out.all,all_bad XW.out HF5.out,onlyS,HPo.out]
 ·have HE:=Lib.hid he
  have hne:(e != 0)=true:=bne_iff_ne.2 he
  clear he
  go_enter Tryz.func11,Tryz.ntmps11
  go_wp2_with fail
  refine (QS.out _).mono ?_
  rintro en w3 ⟨A,c,rfl,_,hb3⟩
  have HB3:=Lib.hid (show Below w.heap.size w w3 from Below.after ((Below.refl w.heap.size w).alloc (Nat.le_refl _) (.cells #[.slice none 0 0,.slice none 0 0] 26)) hb3 (by simp<;>omega))
  obtain ⟨a0,a1,qa0,qa1⟩:=((BoxL.new w [.slice none 0 0,.slice none 0 0] 26).below hb3).get2
  clear hb3
  go_wp2_with fail
  refine bodyPost_ret (v:=.tuple #[.agg #[.slice none 0 0,.slice none 0 0],.int .i64 (p:Int),.int .i64 e]) (by simp [results,Tryz.results11,go_sem,a0,a1]) rfl ?_
  exact ⟨#[.slice none 0 0,.slice none 0 0],p,e,rfl,(HB3.out.setCell (Nat.le_refl _) _).setCell (Nat.le_refl _) _,.inr ⟨HE.out,rfl,whole_err HW.out HE.out⟩⟩
end
end Go.Proofs.YtaojnljppcnhjaaGreatDoor
