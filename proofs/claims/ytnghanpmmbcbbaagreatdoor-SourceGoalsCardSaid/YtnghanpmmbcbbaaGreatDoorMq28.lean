/-
  PgWholeQ.
  PgWholeR.
  PgParse.
 PgParseG.
 SrMem.
 LwText.
 SoWhole.
 SrReturns.
-/
import Derived.Test.YtnghanpmmbcbbaaGreatDoorMq27
import Derived.Test.YtnghanpmmbcbbaaGreatDoorMq23
import Derived.Test.YtnghanpmmbcbbaaGreatDoorMq24
import Derived.Test.YtnghanpmmbcbbaaGreatDoorMq14
import Derived.Test.YtnghanpmmbcbbaaGreatDoorMq22
import Derived.Test.YtnghanpmmbcbbaaGreatDoorMq11
import Derived.Test.YtnghanpmmbcbbaaGreatDoorMq26
import Derived.Test.YtnghanpmmbcbbaaGreatDoorMq17
import Derived.Test.YtnghanpmmbcbbaaGreatDoorMq3
import Derived.Test.YtnghanpmmbcbbaaGreatDoorMq13
import Derived.Test.YtnghanpmmbcbbaaGreatDoorMq12
namespace Go.Proofs.YtnghanpmmbcbbaaGreatDoor
open Go.RowKit
def MemQ (lo:Nat) (w':World) (V:Array Value) (x:List Gs×List (List UInt8)):Prop:=∃(gs:List Gl) (ns:List (List UInt8)) (gA zA:Option Addr) (gn gc zn zc:Nat),V=#[.slice gA gn gc,.slice zA zn zc]∧x=(gs.map sG,ns)∧RowG elGl 59 lo w' (.slice gA gn gc) gs∧w'.ownsRow lo 9 1 (.slice zA zn zc) ns.length (nmC ns)
theorem MemQ.frame {lo lo':Nat} {w w':World} {V:Array Value} {x:List Gs×List (List UInt8)} (h:MemQ lo w V x) (hlo:lo'≤lo) (hs:w.heap.size≤w'.heap.size) (hb:∀b,lo≤b→b < w.heap.size→w'.heap[b]?=w.heap[b]?):MemQ lo' w' V x:=by
 obtain ⟨gs,ns,gA,zA,gn,gc,zn,zc,e1,e2,hm⟩:=h
 exact ⟨gs,ns,gA,zA,gn,gc,zn,zc,e1,e2,(hm.1.frame hs hb).low hlo,own_low (own_of hm.2 fun k hk=>hb k (own_lt hm.2 k hk).1 (own_lt hm.2 k hk).2) hlo⟩
set_option maxHeartbeats 8000000 in
set_option maxRecDepth 100000 in
theorem whole_Q {ex:Rd1 Tm} (hR:∀(R:Nat) (A:Option Addr) (c:Nat) (l:List Tk) (w:World),GoodT l→Pq w R A c l 0→Calls Tryz.prog 65 #[.pointer (some ⟨R,0,none⟩)] w (QueryQ ex R A c l 0 w))
  (s:ByteArray) (hs:s.size≤100000) (w:World) :
  Calls Tryz.prog 64 #[.string s,.func (.func 65) #[] #[]] w (WholeQ (quS ex) #[.slice none 0 0,.slice none 0 0] MemQ s w):=by
 have QS:=Lib.hid (fun W=>scan_at s W hs)
 have HR:=Lib.hid hR
 have HSc:=Lib.hid (fun h0=>good_scan (s:=s) h0)
 obtain ⟨sc,hsc⟩:∃sc,scanP s=sc:=⟨_,rfl⟩
 rw [show ScanR s=fun w e w'=>∃A c,e=.returned (.tuple #[.slice A (scanP s).1.length c,.int .i64 ((scanP s).2.1:Int),.int .i64 (scanP s).2.2])∧TLst w' A (scanP s).1 c∧Below w.heap.size w w' from rfl,hsc] at QS
 rw [hsc] at HSc
 obtain ⟨l,p,e⟩:=sc
 have HW:=Lib.hid hsc
 clear hsc hR hs
 by_cases he:e=0
 ·subst he
  go_enter Tryz.func64,Tryz.ntmps64
  go_wp2_with fail
  refine (QS.out _).mono ?_
  rintro en w3 ⟨A,c,rfl,hT,hb3⟩
  have HT:=Lib.hid (show TLst w3 A l c from hT)
  have HG:=Lib.hid (show GoodT l by first|exact HSc.out rfl|exact HSc.out trivial)
  have HB3:=Lib.hid (show Below w.heap.size w w3 from Below.after (((Below.refl w.heap.size w).alloc (Nat.le_refl _) (.cells #[.slice none 0 0,.slice none 0 0] 108)).alloc (by simp) (.cells #[.slice none 0 0,.slice none 0 0] 108)) hb3 (by simp<;>omega))
  have HZ4:=Lib.hid ((BoxL.new w [.slice none 0 0,.slice none 0 0] 108).alloc (.cells #[.slice none 0 0,.slice none 0 0] 108) |>.below hb3)
  have HZ7:=Lib.hid (show BoxL w3 (w.heap.size+1) [.slice none 0 0,.slice none 0 0] by
   have:=BoxL.new (w.alloc (.cells #[.slice none 0 0,.slice none 0 0] 108)) [.slice none 0 0,.slice none 0 0] 108
   rw [show (w.alloc (.cells #[.slice none 0 0,.slice none 0 0] 108)).heap.size=w.heap.size+1 by simp] at this
   exact this.below hb3)
  have hsz3:w.heap.size+2≤w3.heap.size:=by have:=hb3.size;simpa using this
  have HP:=Lib.hid (new_parser HT.out HG.out.ended.1 132)
  have QR:=Lib.hid (HR.out _ A c l _ HG.out HP.out)
  clear hT hb3 HSc QS
  go_wp2_with fail
  refine QR.out.mono ?_
  rintro en w4 ⟨gs,ns,gA,zA,gn,gc,zn,zc,j,er,rfl,hk4,hp4,ho4⟩
  have hs34:w3.heap.size+1≤w4.heap.size:=by have:=hk4.size;simpa using this
  have HB4:=Lib.hid (show Below w.heap.size w w4 from ⟨hk4.os.trans HB3.out.os,hk4.tape.trans HB3.out.tape,hk4.output.trans HB3.out.output,by omega,fun k hk=>(hk4.block k (by simp;omega) (by omega) (Z0_own k)).trans ((Below.heap_alloc w3 _ k (by omega)).trans (HB3.out.block k hk))⟩)
  have HZ44:=Lib.hid ((HZ4.out.alloc _).kq hk4 (by omega))
  have HZ74:=Lib.hid ((HZ7.out.alloc _).kq hk4 (by omega))
  have HP4:=Lib.hid hp4
  have HO4:=Lib.hid ho4
  obtain ⟨tk,htk⟩:∃tk,l.getD j default=tk:=⟨_,rfl⟩
  obtain ⟨k,q,x⟩:=tk
  have fk:=tok_kind k (q:Int) (S x)
  have fa:=tok_at k (q:Int) (S x)
  have QN:=Lib.hid (fun W (hW:Pq W w3.heap.size A c l j)=>p_next_of hW htk)
  have HTk:=Lib.hid htk
  clear hk4 hp4 ho4 htk
  by_cases her:er=0
  ·subst her
   by_cases hk:k=0
   ·subst hk
    have c0:=fun o=>(HZ44.out.alloc o).get2.1
    have c1:=fun o=>(HZ44.out.alloc o).get2.2.1
    have f0:=fun o=>(HZ44.out.alloc o).get2.2.2.1
    have f1:=fun o=>(HZ44.out.alloc o).get2.2.2.2
    have d0:=fun o=>(HZ74.out.alloc o).get2.1
    have d1:=fun o=>(HZ74.out.alloc o).get2.2.1
    go_wp2_with (go_at_call 94;refine (QN.out _ (HP4.out.alloc _)).mono ?_;rintro en w5 ⟨rfl,hb5⟩;have HB5:=Lib.hid (Below.after (HB4.out.alloc (by omega) _) hb5 (by simp<;>omega));have HB45:=Lib.hid hb5;obtain ⟨a0,a1,a2,a3⟩:=((HZ44.out.alloc _).below hb5).get2;obtain ⟨b0,b1,b2,b3⟩:=((BoxL.new w4 [.slice gA gn gc,.slice zA zn zc] 108).below hb5).get2;clear hb5)
    refine bodyPost_ret (v:=.tuple #[.agg #[.slice gA gn gc,.slice zA zn zc],.int .i64 0,.int .i64 0]) (by simp [results,Tryz.results64,go_sem,a0,a1]) rfl ?_
    rcases HO4.out with ⟨_,⟨m,hf⟩,hm⟩|⟨h0,_⟩
    ·refine ⟨#[.slice gA gn gc,.slice zA zn zc],0,0,rfl,(HB5.out.setCell (Nat.le_refl _) _).setCell (Nat.le_refl _) _,.inl ⟨rfl,rfl,(gs.map sG,ns),?_,?_⟩⟩
     ·rw [whole_ok HW.out]
      simp only [hf,onlyS]
      rw [left_cons HP4.out.ilt,HTk.out]
      rfl
     ·have hM:MemQ (w3.alloc (.cells #[.slice A l.length c,.int .i64 0] 132)).heap.size w4 #[.slice gA gn gc,.slice zA zn zc] (gs.map sG,ns):=⟨gs,ns,gA,zA,gn,gc,zn,zc,rfl,rfl,hm⟩
      have hsz:(w3.alloc (.cells #[.slice A l.length c,.int .i64 0] 132)).heap.size=w3.heap.size+1:=by simp
      refine hM.frame (by rw [hsz];omega) (Nat.le_trans (Nat.le_trans (by simp) HB45.out.size) (Nat.le_of_eq (sets2_size w5 w.heap.size _ _).symm)) fun b h1 h2=>?_
      rw [hsz] at h1
      exact (sets2_block w5 w.heap.size _ _ (by omega)).trans ((HB45.out.block b (by simp;omega)).trans (Below.heap_alloc w4 _ b h2))
    ·exact absurd rfl h0
   ·have hkb:(k != 0)=true:=bne_iff_ne.2 hk
    have HKn:=Lib.hid hk
    clear hk
    have c0:=fun o=>(HZ44.out.alloc o).get2.1
    have c1:=fun o=>(HZ44.out.alloc o).get2.2.1
    have f0:=fun o=>(HZ44.out.alloc o).get2.2.2.1
    have f1:=fun o=>(HZ44.out.alloc o).get2.2.2.2
    have d0:=fun o=>(HZ74.out.alloc o).get2.1
    have d1:=fun o=>(HZ74.out.alloc o).get2.2.1
    go_wp2_with (go_at_call 94;refine (QN.out _ (HP4.out.alloc _)).mono ?_;rintro en w6 ⟨rfl,hb6⟩;have HB6:=Lib.hid (Below.after (HB4.out.alloc (by omega) _) hb6 (by simp<;>omega));have HP6:=Lib.hid ((HP4.out.alloc _).below hb6);have HZ46:=Lib.hid ((HZ44.out.alloc _).below hb6);have HZ76:=Lib.hid ((HZ74.out.alloc _).below hb6);have hs6:w.heap.size+2≤w6.heap.size:=(by have:=hb6.size;simp at this;omega);obtain ⟨a0,a1,a2,a3⟩:=((HZ44.out.alloc _).below hb6).get2;obtain ⟨a4,a5,a6,a7⟩:=((HZ74.out.alloc _).below hb6).get2;clear hb6)
    clear a0 a1 a2 a3
    go_region_with (go_at_call 94;refine (QN.out _ (by first|exact HP6.out|exact HP6.out.drewN 1|exact (HP6.out.drewN 1).drewN 1)).mono ?_;rintro en w5 ⟨rfl,hb5⟩;have hb0:Below w6.heap.size w6 w5:=(by first|exact hb5|exact ⟨hb5.os,hb5.tape,hb5.output,hb5.size,hb5.block⟩);have HB5:=Lib.hid (Below.after HB6.out hb0 (by omega));obtain ⟨a0,a1,a2,a3⟩:=(HZ46.out.below hb0).get2;obtain ⟨b4,b5,b6,b7⟩:=(HZ76.out.below hb0).get2;clear hb5 hb0)
    all_goals
     go_wp2_with fail
     refine bodyPost_ret (v:=.tuple #[.agg #[.slice none 0 0,.slice none 0 0],.int .i64 (q:Int),.int .i64 16]) (by simp [results,Tryz.results64,go_sem,a0,a1]) rfl ?_
     refine ⟨#[.slice none 0 0,.slice none 0 0],q,16,rfl,?_,.inr ⟨by omega,rfl,?_⟩⟩
     ·first|exact (HB5.out.setCell (Nat.le_refl _) _).setCell (Nat.le_refl _) _|exact ((HB5.out.setCell (Nat.le_refl _) _).setCell (Nat.le_refl _) _).drew
     ·rw [whole_ok HW.out]
      rcases HO4.out with ⟨_,⟨m,hf⟩,hm⟩|⟨h0,_⟩
      ·have hne:¬((leftT l j).headD (0,[],false)).1=0:=by
        rw [left_cons HP4.out.ilt,HTk.out]
        exact HKn.out
       simp only [hf,onlyS,if_neg hne,off_here HP4.out.ilt,HTk.out]
      ·exact absurd rfl h0
  ·have hne:(er != 0)=true:=bne_iff_ne.2 her
   have hne2:(er==0)=false:=by simpa using her
   have HE:=Lib.hid her
   clear her
   have c0:=fun o=>(HZ44.out.alloc o).get2.1
   have c1:=fun o=>(HZ44.out.alloc o).get2.2.1
   have f0:=fun o=>(HZ44.out.alloc o).get2.2.2.1
   have f1:=fun o=>(HZ44.out.alloc o).get2.2.2.2
   have d0:=fun o=>(HZ74.out.alloc o).get2.1
   have d1:=fun o=>(HZ74.out.alloc o).get2.2.1
   go_wp2_with fail
   go_region_with (go_at_call 94;refine (QN.out _ (by first|exact HP4.out.alloc _|exact (HP4.out.alloc _).drewN 1|exact ((HP4.out.alloc _).drewN 1).drewN 1)).mono ?_;rintro en w5 ⟨rfl,hb5⟩;have hb0:Below (w4.alloc (.cells #[.slice gA gn gc,.slice zA zn zc] 108)).heap.size (w4.alloc (.cells #[.slice gA gn gc,.slice zA zn zc] 108)) w5:=(by first|exact hb5|exact ⟨hb5.os,hb5.tape,hb5.output,hb5.size,hb5.block⟩);have HB5:=Lib.hid (Below.after (HB4.out.alloc (by omega) _) hb0 (by simp<;>omega));obtain ⟨a0,a1,a2,a3⟩:=((HZ44.out.alloc _).below hb0).get2;obtain ⟨a4,a5,a6,a7⟩:=((HZ74.out.alloc _).below hb0).get2;clear hb5 hb0)
   all_goals
    go_wp2_with fail
    refine bodyPost_ret (v:=.tuple #[.agg #[.slice none 0 0,.slice none 0 0],.int .i64 (q:Int),.int .i64 er]) (by simp [results,Tryz.results64,go_sem,a0,a1]) rfl ?_
    refine ⟨#[.slice none 0 0,.slice none 0 0],q,er,rfl,?_,.inr ⟨HE.out,rfl,?_⟩⟩
    ·first|exact (HB5.out.setCell (Nat.le_refl _) _).setCell (Nat.le_refl _) _|exact ((HB5.out.setCell (Nat.le_refl _) _).setCell (Nat.le_refl _) _).drew
    ·rw [whole_ok HW.out]
     rcases HO4.out with ⟨h0,_⟩|⟨_,hf⟩
     ·exact absurd h0 HE.out
     ·simp only [hf,onlyS,off_here HP4.out.ilt,HTk.out]
 ·have HE:=Lib.hid he
  have hne:(e != 0)=true:=bne_iff_ne.2 he
  clear he
  go_enter Tryz.func64,Tryz.ntmps64
  go_wp2_with fail
  refine (QS.out _).mono ?_
  rintro en w3 ⟨A,c,rfl,_,hb3⟩
  have HB3:=Lib.hid (show Below w.heap.size w w3 from Below.after (((Below.refl w.heap.size w).alloc (Nat.le_refl _) (.cells #[.slice none 0 0,.slice none 0 0] 108)).alloc (by simp) (.cells #[.slice none 0 0,.slice none 0 0] 108)) hb3 (by simp<;>omega))
  obtain ⟨c0,c1,f0,f1⟩:=(((BoxL.new w [.slice none 0 0,.slice none 0 0] 108).alloc (.cells #[.slice none 0 0,.slice none 0 0] 108)).below hb3).get2
  obtain ⟨d0,d1,_,_⟩:=(show BoxL w3 (w.heap.size+1) [.slice none 0 0,.slice none 0 0] by
   have:=BoxL.new (w.alloc (.cells #[.slice none 0 0,.slice none 0 0] 108)) [.slice none 0 0,.slice none 0 0] 108
   rw [show (w.alloc (.cells #[.slice none 0 0,.slice none 0 0] 108)).heap.size=w.heap.size+1 by simp] at this
   exact this.below hb3).get2
  clear hb3
  go_wp2_with fail
  refine bodyPost_ret (v:=.tuple #[.agg #[.slice none 0 0,.slice none 0 0],.int .i64 (p:Int),.int .i64 e]) (by simp [results,Tryz.results64,go_sem,c0,c1]) rfl ?_
  exact ⟨#[.slice none 0 0,.slice none 0 0],p,e,rfl,(HB3.out.setCell (Nat.le_refl _) _).setCell (Nat.le_refl _) _,.inr ⟨HE.out,rfl,whole_err HW.out HE.out⟩⟩
end Go.Proofs.YtnghanpmmbcbbaaGreatDoor
namespace Go.Proofs.YtnghanpmmbcbbaaGreatDoor
open Go.RowKit
def MemR (lo:Nat) (w':World) (V:Array Value) (x:Rs):Prop:=∃(t:List UInt8) (ks rs:List Am) (gs bs:List Gl) (kA rA gA bA:Option Addr) (kn kc rn rc gn gc bn bc n:Nat),V=#[.string (S t),.slice kA kn kc,.slice rA rn rc,.slice gA gn gc,.slice bA bn bc,.int .i64 (n:Int)]∧x=(ruP t ks rs gs bs n)∧RuAt lo w' t ks rs gs bs (.slice kA kn kc) (.slice rA rn rc) (.slice gA gn gc) (.slice bA bn bc)
theorem MemR.frame {lo lo':Nat} {w w':World} {V:Array Value} {x:Rs} (h:MemR lo w V x) (hlo:lo'≤lo) (hs:w.heap.size≤w'.heap.size) (hb:∀b,lo≤b→b < w.heap.size→w'.heap[b]?=w.heap[b]?):MemR lo' w' V x:=by
 obtain ⟨t,ks,rs,gs,bs,kA,rA,gA,bA,kn,kc,rn,rc,gn,gc,bn,bc,n,e1,e2,hm⟩:=h
 exact ⟨t,ks,rs,gs,bs,kA,rA,gA,bA,kn,kc,rn,rc,gn,gc,bn,bc,n,e1,e2,ruat_frame hm hlo hs hb⟩
set_option maxHeartbeats 8000000 in
set_option maxRecDepth 100000 in
theorem whole_R {ex:Rd1 Tm} (hR:∀(R:Nat) (A:Option Addr) (c:Nat) (l:List Tk) (w:World),GoodT l→Pq w R A c l 0→Calls Tryz.prog 58 #[.pointer (some ⟨R,0,none⟩)] w (RuleQ ex R A c l 0 w))
  (s:ByteArray) (hs:s.size≤100000) (w:World) :
  Calls Tryz.prog 57 #[.string s,.func (.func 58) #[] #[]] w (WholeQ (ruleS ex) #[.string ⟨#[]⟩,.slice none 0 0,.slice none 0 0,.slice none 0 0,.slice none 0 0,.int .i64 0] MemR s w):=by
 have QS:=Lib.hid (fun W=>scan_at s W hs)
 have HR:=Lib.hid hR
 have HSc:=Lib.hid (fun h0=>good_scan (s:=s) h0)
 obtain ⟨sc,hsc⟩:∃sc,scanP s=sc:=⟨_,rfl⟩
 rw [show ScanR s=fun w e w'=>∃A c,e=.returned (.tuple #[.slice A (scanP s).1.length c,.int .i64 ((scanP s).2.1:Int),.int .i64 (scanP s).2.2])∧TLst w' A (scanP s).1 c∧Below w.heap.size w w' from rfl,hsc] at QS
 rw [hsc] at HSc
 obtain ⟨l,p,e⟩:=sc
 have HW:=Lib.hid hsc
 clear hsc hR hs
 by_cases he:e=0
 ·subst he
  go_enter Tryz.func57,Tryz.ntmps57
  go_wp2_with fail
  refine (QS.out _).mono ?_
  rintro en w3 ⟨A,c,rfl,hT,hb3⟩
  have HT:=Lib.hid (show TLst w3 A l c from hT)
  have HG:=Lib.hid (show GoodT l by first|exact HSc.out rfl|exact HSc.out trivial)
  have HB3:=Lib.hid (show Below w.heap.size w w3 from Below.after (((Below.refl w.heap.size w).alloc (Nat.le_refl _) (.cells #[.string ⟨#[]⟩,.slice none 0 0,.slice none 0 0,.slice none 0 0,.slice none 0 0,.int .i64 0] 25)).alloc (by simp) (.cells #[.string ⟨#[]⟩,.slice none 0 0,.slice none 0 0,.slice none 0 0,.slice none 0 0,.int .i64 0] 25)) hb3 (by simp<;>omega))
  have HZ4:=Lib.hid ((BoxL.new w [.string ⟨#[]⟩,.slice none 0 0,.slice none 0 0,.slice none 0 0,.slice none 0 0,.int .i64 0] 25).alloc (.cells #[.string ⟨#[]⟩,.slice none 0 0,.slice none 0 0,.slice none 0 0,.slice none 0 0,.int .i64 0] 25) |>.below hb3)
  have HZ7:=Lib.hid (show BoxL w3 (w.heap.size+1) [.string ⟨#[]⟩,.slice none 0 0,.slice none 0 0,.slice none 0 0,.slice none 0 0,.int .i64 0] by
   have:=BoxL.new (w.alloc (.cells #[.string ⟨#[]⟩,.slice none 0 0,.slice none 0 0,.slice none 0 0,.slice none 0 0,.int .i64 0] 25)) [.string ⟨#[]⟩,.slice none 0 0,.slice none 0 0,.slice none 0 0,.slice none 0 0,.int .i64 0] 25
   rw [show (w.alloc (.cells #[.string ⟨#[]⟩,.slice none 0 0,.slice none 0 0,.slice none 0 0,.slice none 0 0,.int .i64 0] 25)).heap.size=w.heap.size+1 by simp] at this
   exact this.below hb3)
  have hsz3:w.heap.size+2≤w3.heap.size:=by have:=hb3.size;simpa using this
  have HP:=Lib.hid (new_parser HT.out HG.out.ended.1 132)
  have QR:=Lib.hid (HR.out _ A c l _ HG.out HP.out)
  clear hT hb3 HSc QS
  go_wp2_with fail
  refine QR.out.mono ?_
  rintro en w4 ⟨t,ks,rs,gs,bs,kA,rA,gA,bA,kn,kc,rn,rc,gn,gc,bn,bc,n,j,er,rfl,hk4,hp4,ho4⟩
  have hs34:w3.heap.size+1≤w4.heap.size:=by have:=hk4.size;simpa using this
  have HB4:=Lib.hid (show Below w.heap.size w w4 from ⟨hk4.os.trans HB3.out.os,hk4.tape.trans HB3.out.tape,hk4.output.trans HB3.out.output,by omega,fun k hk=>(hk4.block k (by simp;omega) (by omega) (Z0_own k)).trans ((Below.heap_alloc w3 _ k (by omega)).trans (HB3.out.block k hk))⟩)
  have HZ44:=Lib.hid ((HZ4.out.alloc _).kq hk4 (by omega))
  have HZ74:=Lib.hid ((HZ7.out.alloc _).kq hk4 (by omega))
  have HP4:=Lib.hid hp4
  have HO4:=Lib.hid ho4
  obtain ⟨tk,htk⟩:∃tk,l.getD j default=tk:=⟨_,rfl⟩
  obtain ⟨k,q,x⟩:=tk
  have fk:=tok_kind k (q:Int) (S x)
  have fa:=tok_at k (q:Int) (S x)
  have QN:=Lib.hid (fun W (hW:Pq W w3.heap.size A c l j)=>p_next_of hW htk)
  have HTk:=Lib.hid htk
  clear hk4 hp4 ho4 htk
  by_cases her:er=0
  ·subst her
   by_cases hk:k=0
   ·subst hk
    have c0:=fun o=>(HZ44.out.alloc o).get6.1
    have c1:=fun o=>(HZ44.out.alloc o).get6.2.1
    have c2:=fun o=>(HZ44.out.alloc o).get6.2.2.1
    have c3:=fun o=>(HZ44.out.alloc o).get6.2.2.2.1
    have c4:=fun o=>(HZ44.out.alloc o).get6.2.2.2.2.1
    have c5:=fun o=>(HZ44.out.alloc o).get6.2.2.2.2.2.1
    have f0:=fun o=>(HZ44.out.alloc o).get6.2.2.2.2.2.2.1
    have f1:=fun o=>(HZ44.out.alloc o).get6.2.2.2.2.2.2.2.1
    have f2:=fun o=>(HZ44.out.alloc o).get6.2.2.2.2.2.2.2.2.1
    have f3:=fun o=>(HZ44.out.alloc o).get6.2.2.2.2.2.2.2.2.2.1
    have f4:=fun o=>(HZ44.out.alloc o).get6.2.2.2.2.2.2.2.2.2.2.1
    have f5:=fun o=>(HZ44.out.alloc o).get6.2.2.2.2.2.2.2.2.2.2.2
    have d0:=fun o=>(HZ74.out.alloc o).get6.1
    have d1:=fun o=>(HZ74.out.alloc o).get6.2.1
    have d2:=fun o=>(HZ74.out.alloc o).get6.2.2.1
    have d3:=fun o=>(HZ74.out.alloc o).get6.2.2.2.1
    have d4:=fun o=>(HZ74.out.alloc o).get6.2.2.2.2.1
    have d5:=fun o=>(HZ74.out.alloc o).get6.2.2.2.2.2.1
    go_wp2_with (go_at_call 94;refine (QN.out _ (HP4.out.alloc _)).mono ?_;rintro en w5 ⟨rfl,hb5⟩;have HB5:=Lib.hid (Below.after (HB4.out.alloc (by omega) _) hb5 (by simp<;>omega));have HB45:=Lib.hid hb5;obtain ⟨a0,a1,a2,a3,a4,a5,qa0,qa1,qa2,qa3,qa4,qa5⟩:=((HZ44.out.alloc _).below hb5).get6;obtain ⟨b0,b1,b2,b3,b4,b5,qb0,qb1,qb2,qb3,qb4,qb5⟩:=((BoxL.new w4 [.string (S t),.slice kA kn kc,.slice rA rn rc,.slice gA gn gc,.slice bA bn bc,.int .i64 (n:Int)] 25).below hb5).get6;clear hb5)
    refine bodyPost_ret (v:=.tuple #[.agg #[.string (S t),.slice kA kn kc,.slice rA rn rc,.slice gA gn gc,.slice bA bn bc,.int .i64 (n:Int)],.int .i64 0,.int .i64 0]) (by simp [results,Tryz.results57,go_sem,a0,a1,a2,a3,a4,a5]) rfl ?_
    rcases HO4.out with ⟨_,⟨m,hf⟩,_,hm⟩|⟨h0,_⟩
    ·refine ⟨#[.string (S t),.slice kA kn kc,.slice rA rn rc,.slice gA gn gc,.slice bA bn bc,.int .i64 (n:Int)],0,0,rfl,(((((HB5.out.setCell (Nat.le_refl _) _).setCell (Nat.le_refl _) _).setCell (Nat.le_refl _) _).setCell (Nat.le_refl _) _).setCell (Nat.le_refl _) _).setCell (Nat.le_refl _) _,.inl ⟨rfl,rfl,(ruP t ks rs gs bs n),?_,?_⟩⟩
     ·rw [whole_ok HW.out]
      simp only [hf,onlyS]
      rw [left_cons HP4.out.ilt,HTk.out]
      rfl
     ·have hM:MemR (w3.alloc (.cells #[.slice A l.length c,.int .i64 0] 132)).heap.size w4 #[.string (S t),.slice kA kn kc,.slice rA rn rc,.slice gA gn gc,.slice bA bn bc,.int .i64 (n:Int)] (ruP t ks rs gs bs n):=⟨t,ks,rs,gs,bs,kA,rA,gA,bA,kn,kc,rn,rc,gn,gc,bn,bc,n,rfl,rfl,hm⟩
      have hsz:(w3.alloc (.cells #[.slice A l.length c,.int .i64 0] 132)).heap.size=w3.heap.size+1:=by simp
      refine hM.frame (by rw [hsz];omega) (Nat.le_trans (Nat.le_trans (by simp) HB45.out.size) (Nat.le_of_eq (sets6_size w5 w.heap.size _ _ _ _ _ _).symm)) fun b h1 h2=>?_
      rw [hsz] at h1
      exact (sets6_block w5 w.heap.size _ _ _ _ _ _ (by omega)).trans ((HB45.out.block b (by simp;omega)).trans (Below.heap_alloc w4 _ b h2))
    ·exact absurd rfl h0
   ·have hkb:(k != 0)=true:=bne_iff_ne.2 hk
    have HKn:=Lib.hid hk
    clear hk
    have c0:=fun o=>(HZ44.out.alloc o).get6.1
    have c1:=fun o=>(HZ44.out.alloc o).get6.2.1
    have c2:=fun o=>(HZ44.out.alloc o).get6.2.2.1
    have c3:=fun o=>(HZ44.out.alloc o).get6.2.2.2.1
    have c4:=fun o=>(HZ44.out.alloc o).get6.2.2.2.2.1
    have c5:=fun o=>(HZ44.out.alloc o).get6.2.2.2.2.2.1
    have f0:=fun o=>(HZ44.out.alloc o).get6.2.2.2.2.2.2.1
    have f1:=fun o=>(HZ44.out.alloc o).get6.2.2.2.2.2.2.2.1
    have f2:=fun o=>(HZ44.out.alloc o).get6.2.2.2.2.2.2.2.2.1
    have f3:=fun o=>(HZ44.out.alloc o).get6.2.2.2.2.2.2.2.2.2.1
    have f4:=fun o=>(HZ44.out.alloc o).get6.2.2.2.2.2.2.2.2.2.2.1
    have f5:=fun o=>(HZ44.out.alloc o).get6.2.2.2.2.2.2.2.2.2.2.2
    have d0:=fun o=>(HZ74.out.alloc o).get6.1
    have d1:=fun o=>(HZ74.out.alloc o).get6.2.1
    have d2:=fun o=>(HZ74.out.alloc o).get6.2.2.1
    have d3:=fun o=>(HZ74.out.alloc o).get6.2.2.2.1
    have d4:=fun o=>(HZ74.out.alloc o).get6.2.2.2.2.1
    have d5:=fun o=>(HZ74.out.alloc o).get6.2.2.2.2.2.1
    go_wp2_with (go_at_call 94;refine (QN.out _ (HP4.out.alloc _)).mono ?_;rintro en w6 ⟨rfl,hb6⟩;have HB6:=Lib.hid (Below.after (HB4.out.alloc (by omega) _) hb6 (by simp<;>omega));have HP6:=Lib.hid ((HP4.out.alloc _).below hb6);have HZ46:=Lib.hid ((HZ44.out.alloc _).below hb6);have HZ76:=Lib.hid ((HZ74.out.alloc _).below hb6);have hs6:w.heap.size+2≤w6.heap.size:=(by have:=hb6.size;simp at this;omega);obtain ⟨a0,a1,a2,a3,a4,a5,qa0,qa1,qa2,qa3,qa4,qa5⟩:=((HZ44.out.alloc _).below hb6).get6;obtain ⟨a40,a41,a42,a43,a44,a45,qa40,qa41,qa42,qa43,qa44,qa45⟩:=((HZ74.out.alloc _).below hb6).get6;clear hb6)
    clear a0 a1 a2 a3
    go_region_with (go_at_call 94;refine (QN.out _ (by first|exact HP6.out|exact HP6.out.drewN 1|exact (HP6.out.drewN 1).drewN 1)).mono ?_;rintro en w5 ⟨rfl,hb5⟩;have hb0:Below w6.heap.size w6 w5:=(by first|exact hb5|exact ⟨hb5.os,hb5.tape,hb5.output,hb5.size,hb5.block⟩);have HB5:=Lib.hid (Below.after HB6.out hb0 (by omega));obtain ⟨a0,a1,a2,a3,a4,a5,qa0,qa1,qa2,qa3,qa4,qa5⟩:=(HZ46.out.below hb0).get6;obtain ⟨b40,b41,b42,b43,b44,b45,qb40,qb41,qb42,qb43,qb44,qb45⟩:=(HZ76.out.below hb0).get6;clear hb5 hb0)
    all_goals
     go_wp2_with fail
     refine bodyPost_ret (v:=.tuple #[.agg #[.string ⟨#[]⟩,.slice none 0 0,.slice none 0 0,.slice none 0 0,.slice none 0 0,.int .i64 0],.int .i64 (q:Int),.int .i64 16]) (by simp [results,Tryz.results57,go_sem,a0,a1,a2,a3,a4,a5]) rfl ?_
     refine ⟨#[.string ⟨#[]⟩,.slice none 0 0,.slice none 0 0,.slice none 0 0,.slice none 0 0,.int .i64 0],q,16,rfl,?_,.inr ⟨by omega,rfl,?_⟩⟩
     ·first|exact (((((HB5.out.setCell (Nat.le_refl _) _).setCell (Nat.le_refl _) _).setCell (Nat.le_refl _) _).setCell (Nat.le_refl _) _).setCell (Nat.le_refl _) _).setCell (Nat.le_refl _) _|exact ((((((HB5.out.setCell (Nat.le_refl _) _).setCell (Nat.le_refl _) _).setCell (Nat.le_refl _) _).setCell (Nat.le_refl _) _).setCell (Nat.le_refl _) _).setCell (Nat.le_refl _) _).drew
     ·rw [whole_ok HW.out]
      rcases HO4.out with ⟨_,⟨m,hf⟩,_,hm⟩|⟨h0,_⟩
      ·have hne:¬((leftT l j).headD (0,[],false)).1=0:=by
        rw [left_cons HP4.out.ilt,HTk.out]
        exact HKn.out
       simp only [hf,onlyS,if_neg hne,off_here HP4.out.ilt,HTk.out]
      ·exact absurd rfl h0
  ·have hne:(er != 0)=true:=bne_iff_ne.2 her
   have hne2:(er==0)=false:=by simpa using her
   have HE:=Lib.hid her
   clear her
   have c0:=fun o=>(HZ44.out.alloc o).get6.1
   have c1:=fun o=>(HZ44.out.alloc o).get6.2.1
   have c2:=fun o=>(HZ44.out.alloc o).get6.2.2.1
   have c3:=fun o=>(HZ44.out.alloc o).get6.2.2.2.1
   have c4:=fun o=>(HZ44.out.alloc o).get6.2.2.2.2.1
   have c5:=fun o=>(HZ44.out.alloc o).get6.2.2.2.2.2.1
   have f0:=fun o=>(HZ44.out.alloc o).get6.2.2.2.2.2.2.1
   have f1:=fun o=>(HZ44.out.alloc o).get6.2.2.2.2.2.2.2.1
   have f2:=fun o=>(HZ44.out.alloc o).get6.2.2.2.2.2.2.2.2.1
   have f3:=fun o=>(HZ44.out.alloc o).get6.2.2.2.2.2.2.2.2.2.1
   have f4:=fun o=>(HZ44.out.alloc o).get6.2.2.2.2.2.2.2.2.2.2.1
   have f5:=fun o=>(HZ44.out.alloc o).get6.2.2.2.2.2.2.2.2.2.2.2
   have d0:=fun o=>(HZ74.out.alloc o).get6.1
   have d1:=fun o=>(HZ74.out.alloc o).get6.2.1
   have d2:=fun o=>(HZ74.out.alloc o).get6.2.2.1
   have d3:=fun o=>(HZ74.out.alloc o).get6.2.2.2.1
   have d4:=fun o=>(HZ74.out.alloc o).get6.2.2.2.2.1
   have d5:=fun o=>(HZ74.out.alloc o).get6.2.2.2.2.2.1
   go_wp2_with fail
   go_region_with (go_at_call 94;refine (QN.out _ (by first|exact HP4.out.alloc _|exact (HP4.out.alloc _).drewN 1|exact ((HP4.out.alloc _).drewN 1).drewN 1)).mono ?_;rintro en w5 ⟨rfl,hb5⟩;have hb0:Below (w4.alloc (.cells #[.string (S t),.slice kA kn kc,.slice rA rn rc,.slice gA gn gc,.slice bA bn bc,.int .i64 (n:Int)] 25)).heap.size (w4.alloc (.cells #[.string (S t),.slice kA kn kc,.slice rA rn rc,.slice gA gn gc,.slice bA bn bc,.int .i64 (n:Int)] 25)) w5:=(by first|exact hb5|exact ⟨hb5.os,hb5.tape,hb5.output,hb5.size,hb5.block⟩);have HB5:=Lib.hid (Below.after (HB4.out.alloc (by omega) _) hb0 (by simp<;>omega));obtain ⟨a0,a1,a2,a3,a4,a5,qa0,qa1,qa2,qa3,qa4,qa5⟩:=((HZ44.out.alloc _).below hb0).get6;obtain ⟨a40,a41,a42,a43,a44,a45,qa40,qa41,qa42,qa43,qa44,qa45⟩:=((HZ74.out.alloc _).below hb0).get6;clear hb5 hb0)
   all_goals
    go_wp2_with fail
    refine bodyPost_ret (v:=.tuple #[.agg #[.string ⟨#[]⟩,.slice none 0 0,.slice none 0 0,.slice none 0 0,.slice none 0 0,.int .i64 0],.int .i64 (q:Int),.int .i64 er]) (by simp [results,Tryz.results57,go_sem,a0,a1,a2,a3,a4,a5]) rfl ?_
    refine ⟨#[.string ⟨#[]⟩,.slice none 0 0,.slice none 0 0,.slice none 0 0,.slice none 0 0,.int .i64 0],q,er,rfl,?_,.inr ⟨HE.out,rfl,?_⟩⟩
    ·first|exact (((((HB5.out.setCell (Nat.le_refl _) _).setCell (Nat.le_refl _) _).setCell (Nat.le_refl _) _).setCell (Nat.le_refl _) _).setCell (Nat.le_refl _) _).setCell (Nat.le_refl _) _|exact ((((((HB5.out.setCell (Nat.le_refl _) _).setCell (Nat.le_refl _) _).setCell (Nat.le_refl _) _).setCell (Nat.le_refl _) _).setCell (Nat.le_refl _) _).setCell (Nat.le_refl _) _).drew
    ·rw [whole_ok HW.out]
     rcases HO4.out with ⟨h0,_⟩|⟨_,hf⟩
     ·exact absurd h0 HE.out
     ·simp only [hf,onlyS,off_here HP4.out.ilt,HTk.out]
 ·have HE:=Lib.hid he
  have hne:(e != 0)=true:=bne_iff_ne.2 he
  clear he
  go_enter Tryz.func57,Tryz.ntmps57
  go_wp2_with fail
  refine (QS.out _).mono ?_
  rintro en w3 ⟨A,c,rfl,_,hb3⟩
  have HB3:=Lib.hid (show Below w.heap.size w w3 from Below.after (((Below.refl w.heap.size w).alloc (Nat.le_refl _) (.cells #[.string ⟨#[]⟩,.slice none 0 0,.slice none 0 0,.slice none 0 0,.slice none 0 0,.int .i64 0] 25)).alloc (by simp) (.cells #[.string ⟨#[]⟩,.slice none 0 0,.slice none 0 0,.slice none 0 0,.slice none 0 0,.int .i64 0] 25)) hb3 (by simp<;>omega))
  obtain ⟨c0,c1,c2,c3,c4,c5,qc0,qc1,qc2,qc3,qc4,qc5⟩:=(((BoxL.new w [.string ⟨#[]⟩,.slice none 0 0,.slice none 0 0,.slice none 0 0,.slice none 0 0,.int .i64 0] 25).alloc (.cells #[.string ⟨#[]⟩,.slice none 0 0,.slice none 0 0,.slice none 0 0,.slice none 0 0,.int .i64 0] 25)).below hb3).get6
  obtain ⟨d0,d1,_,_⟩:=(show BoxL w3 (w.heap.size+1) [.string ⟨#[]⟩,.slice none 0 0,.slice none 0 0,.slice none 0 0,.slice none 0 0,.int .i64 0] by
   have:=BoxL.new (w.alloc (.cells #[.string ⟨#[]⟩,.slice none 0 0,.slice none 0 0,.slice none 0 0,.slice none 0 0,.int .i64 0] 25)) [.string ⟨#[]⟩,.slice none 0 0,.slice none 0 0,.slice none 0 0,.slice none 0 0,.int .i64 0] 25
   rw [show (w.alloc (.cells #[.string ⟨#[]⟩,.slice none 0 0,.slice none 0 0,.slice none 0 0,.slice none 0 0,.int .i64 0] 25)).heap.size=w.heap.size+1 by simp] at this
   exact this.below hb3).get6
  clear hb3
  go_wp2_with fail
  refine bodyPost_ret (v:=.tuple #[.agg #[.string ⟨#[]⟩,.slice none 0 0,.slice none 0 0,.slice none 0 0,.slice none 0 0,.int .i64 0],.int .i64 (p:Int),.int .i64 e]) (by simp [results,Tryz.results57,go_sem,c0,c1,c2,c3,c4,c5]) rfl ?_
  exact ⟨#[.string ⟨#[]⟩,.slice none 0 0,.slice none 0 0,.slice none 0 0,.slice none 0 0,.int .i64 0],p,e,rfl,(((((HB3.out.setCell (Nat.le_refl _) _).setCell (Nat.le_refl _) _).setCell (Nat.le_refl _) _).setCell (Nat.le_refl _) _).setCell (Nat.le_refl _) _).setCell (Nat.le_refl _) _,.inr ⟨HE.out,rfl,whole_err HW.out HE.out⟩⟩
end Go.Proofs.YtnghanpmmbcbbaaGreatDoor
namespace Go.Proofs.YtnghanpmmbcbbaaGreatDoor
open Go.RowKit
section
variable {F:Nat} {R:Nat} {A:Option Addr} {c:Nat} {l:List Tk}
theorem goal_F (hg:GoodT l) (a k:Nat) (w:World) (hP:Pq w R A c l k) (ha:a≤k) (hn:(leftT l k).length≤F+1) :
  Calls Tryz.prog 106 #[.pointer (some ⟨R,0,none⟩)] w (ElR rdGl (goalR (exprS (F+1))) R A c l a k w) :=
 one_Gl_at hg (n:=F+1) (fun k w hP ha hn=>any_goal_at hg (exprs_at hg a (F+1)) (expr_name _) (fun _ g r ns h=>expr_res F h g r ns) k w hP ha hn) k w hP ha hn
theorem head_F (hg:GoodT l) (a k:Nat) (w:World) (hP:Pq w R A c l k) (ha:a≤k) (hn:(leftT l k).length≤F+1) :
  Calls Tryz.prog 139 #[.pointer (some ⟨R,0,none⟩)] w (ElR rdAm (headR (exprS (F+1))) R A c l a k w) :=
 one_Am_at hg (n:=F+1) (fun k w hP ha hn=>atom_at hg (exprs_at hg a (F+1)) k w hP ha (by omega)) k w hP ha hn
theorem rule_F (hg:GoodT l) (k:Nat) (w:World) (hP:Pq w R A c l k) (hn:(leftT l k).length≤F+1) :
  Calls Tryz.prog 58 #[.pointer (some ⟨R,0,none⟩)] w (RuleQ (exprS (F+1)) R A c l k w) :=
 rule_at hg k (fun j w hP h hn=>head_F hg k j w hP h hn) (fun j w hP h hn=>goal_F hg k j w hP h hn) w hP hn
theorem len_F (hF:16384≤F) (hg:GoodT l):(leftT l 0).length≤F+1:=by rw [left_length];have:=hg.small;omega
end
section
variable {F:Nat} (hF:16384≤F) (s:ByteArray) (hs:s.size≤100000) (w:World)
include hF hs
theorem wholeP_F:Calls Tryz.prog 59 #[.string s,.func (.func 60) #[] #[]] w (WholeQ (programS (exprS (F+1))) #[.slice none 0 0,.slice none 0 0] MemP s w) :=
 whole_P (fun _ _ _ _ w hg hP=>program_at hg 0 (fun k w hP _ hn=>rule_F hg k w hP hn) w hP (len_F hF hg)) s hs w
theorem wholeR_F:Calls Tryz.prog 57 #[.string s,.func (.func 58) #[] #[]] w (WholeQ (ruleS (exprS (F+1))) ZR MemR s w) :=
 whole_R (fun _ _ _ _ w hg hP=>rule_F hg 0 w hP (len_F hF hg)) s hs w
theorem wholeQ_F:Calls Tryz.prog 64 #[.string s,.func (.func 65) #[] #[]] w (WholeQ (quS (exprS (F+1))) #[.slice none 0 0,.slice none 0 0] MemQ s w) :=
 whole_Q (fun _ _ _ _ w hg hP=>query_at hg 0 (fun j w hP h hn=>goal_F hg 0 j w hP h hn) w hP (len_F hF hg)) s hs w
set_option maxHeartbeats 4000000 in
set_option maxRecDepth 100000 in
theorem parse_at:Calls Tryz.prog 21 #[.string s] w (WholeQ (programS (exprS (F+1))) #[.slice none 0 0,.slice none 0 0] MemP s w):=by
 have Q:=Lib.hid (wholeP_F hF s hs (w.alloc (.cells #[.slice none 0 0,.slice none 0 0] 35)))
 have HB:=Lib.hid (BoxL.new w [.slice none 0 0,.slice none 0 0] 35)
 have H1:=Lib.hid ((Below.refl w.heap.size w).alloc (Nat.le_refl _) (.cells #[.slice none 0 0,.slice none 0 0] 35))
 clear hs hF
 go_enter Tryz.func21,Tryz.ntmps21
 go_wp2_with fail
 refine Q.out.mono ?_
 rintro en w2 ⟨V,p,er,rfl,hb,ho⟩
 have HB2:=Lib.hid (Below.after H1.out hb (by simp))
 have hs2:w.heap.size+1≤w2.heap.size:=by have:=hb.size;simpa using this
 obtain ⟨c0,c1,f0,f1⟩:=(HB.out.below hb).get2
 have HO:=Lib.hid ho
 clear hb
 obtain ⟨dA,dn,dc,rA,rn,rc,rfl⟩:∃dA dn dc rA rn rc,V=#[.slice dA dn dc,.slice rA rn rc]:=by
  rcases ho with ⟨_,_,x,_,ds,rz,dA,rA,dn,dc,rn,rc,e,_⟩|⟨_,e,_⟩
  ·exact ⟨dA,dn,dc,rA,rn,rc,e⟩
  ·exact ⟨none,0,0,none,0,0,e⟩
 clear ho
 go_wp2_with fail
 refine bodyPost_ret (v:=.tuple #[.agg #[.slice dA dn dc,.slice rA rn rc],.int .i64 (p:Int),.int .i64 er]) (by simp [results,Tryz.results21,go_sem,c0,c1]) rfl ?_
 refine ⟨#[.slice dA dn dc,.slice rA rn rc],p,er,rfl,(HB2.out.setCell (Nat.le_refl _) _).setCell (Nat.le_refl _) _,?_⟩
 rcases HO.out with ⟨h1,h2,x,hx,hm⟩|h
 ·refine .inl ⟨h1,h2,x,hx,hm.frame (by simp) (Nat.le_of_eq (sets2_size w2 w.heap.size _ _).symm) fun b h1 _=>?_⟩
  simp only [World.size_alloc] at h1
  exact sets2_block w2 w.heap.size _ _ (by omega)
 ·exact .inr h
set_option maxHeartbeats 4000000 in
set_option maxRecDepth 100000 in
theorem parse_rule_at:Calls Tryz.prog 20 #[.string s] w (WholeQ (ruleS (exprS (F+1))) ZR MemR s w):=by
 have Q:=Lib.hid (wholeR_F hF s hs (w.alloc (.cells ZR 25)))
 have HB:=Lib.hid (BoxL.new w ZR.toList 25)
 have H1:=Lib.hid ((Below.refl w.heap.size w).alloc (Nat.le_refl _) (.cells ZR 25))
 clear hs hF
 go_enter Tryz.func20,Tryz.ntmps20
 go_wp2_with fail
 refine Q.out.mono ?_
 rintro en w2 ⟨V,p,er,rfl,hb,ho⟩
 have HB2:=Lib.hid (Below.after H1.out hb (by simp))
 have hs2:w.heap.size+1≤w2.heap.size:=by have:=hb.size;simpa using this
 obtain ⟨c0,c1,c2,c3,c4,c5,f0,f1,f2,f3,f4,f5⟩:=(show BoxL w2 w.heap.size [.string ⟨#[]⟩,.slice none 0 0,.slice none 0 0,.slice none 0 0,.slice none 0 0,.int .i64 0] from HB.out.below hb).get6
 have HO:=Lib.hid ho
 clear hb
 obtain ⟨t,kA,kn,kc,rA,rn,rc,gA,gn,gc,bA,bn,bc,n,rfl⟩:∃(t:List UInt8) (kA:Option Addr) (kn kc:Nat) (rA:Option Addr) (rn rc:Nat) (gA:Option Addr) (gn gc:Nat) (bA:Option Addr) (bn bc n:Nat),V=#[.string (S t),.slice kA kn kc,.slice rA rn rc,.slice gA gn gc,.slice bA bn bc,.int .i64 (n:Int)]:=by
  rcases ho with ⟨_,_,x,_,t,ks,rs,gs,bs,kA,rA,gA,bA,kn,kc,rn,rc,gn,gc,bn,bc,n,e,_⟩|⟨_,e,_⟩
  ·exact ⟨t,kA,kn,kc,rA,rn,rc,gA,gn,gc,bA,bn,bc,n,e⟩
  ·exact ⟨[],none,0,0,none,0,0,none,0,0,none,0,0,0,e⟩
 clear ho
 go_wp2_with fail
 refine bodyPost_ret (v:=.tuple #[.agg #[.string (S t),.slice kA kn kc,.slice rA rn rc,.slice gA gn gc,.slice bA bn bc,.int .i64 (n:Int)],.int .i64 (p:Int),.int .i64 er]) (by simp [results,Tryz.results20,go_sem,c0,c1,c2,c3,c4,c5]) rfl ?_
 refine ⟨_,p,er,rfl,(((((HB2.out.setCell (Nat.le_refl _) _).setCell (Nat.le_refl _) _).setCell (Nat.le_refl _) _).setCell (Nat.le_refl _) _).setCell (Nat.le_refl _) _).setCell (Nat.le_refl _) _,?_⟩
 rcases HO.out with ⟨h1,h2,x,hx,hm⟩|h
 ·refine .inl ⟨h1,h2,x,hx,hm.frame (by simp) (Nat.le_of_eq (sets6_size w2 w.heap.size _ _ _ _ _ _).symm) fun b h1 _=>?_⟩
  simp only [World.size_alloc] at h1
  exact sets6_block w2 w.heap.size _ _ _ _ _ _ (by omega)
 ·exact .inr h
end
end Go.Proofs.YtnghanpmmbcbbaaGreatDoor
namespace Go.Proofs.YtnghanpmmbcbbaaGreatDoor
open Go.RowKit
def GoalsW (F:Nat) (s:ByteArray) (w:World) (en:Ending) (w':World):Prop :=
 ∃(gA zA:Option Addr) (gn gc zn zc:Nat) (p:Nat) (er:Int),en=.returned (.tuple #[.slice gA gn gc,.slice zA zn zc,.int .i64 (p:Int),.int .i64 er])∧Below w.heap.size w w' ∧
  ((er=0∧p=0∧∃x,wholeS (quS (exprS (F+1))) s=.ok x∧MemQ w.heap.size w' #[.slice gA gn gc,.slice zA zn zc] x)∨(er≠0∧gA=none∧gn=0∧gc=0∧zA=none∧zn=0∧zc=0∧wholeS (quS (exprS (F+1))) s=.error (p,er)))
section
variable {F:Nat} (hF:16384≤F) (s:ByteArray) (hs:s.size≤100000) (w:World)
include hF hs
set_option maxHeartbeats 4000000 in
set_option maxRecDepth 100000 in
theorem parse_goals_at:Calls Tryz.prog 26 #[.string s] w (GoalsW F s w):=by
 have Q:=Lib.hid (wholeQ_F hF s hs w)
 clear hs hF
 go_enter Tryz.func26,Tryz.ntmps26
 go_wp2_with fail
 refine Q.out.mono ?_
 rintro en w2 ⟨V,p,er,rfl,hb,ho⟩
 have HB2:=Lib.hid hb
 have HO:=Lib.hid ho
 obtain ⟨gA,gn,gc,zA,zn,zc,rfl⟩:∃gA gn gc zA zn zc,V=#[.slice gA gn gc,.slice zA zn zc]:=by
  rcases ho with ⟨_,_,x,_,gs,ns,gA,zA,gn,gc,zn,zc,e,_⟩|⟨_,e,_⟩
  ·exact ⟨gA,gn,gc,zA,zn,zc,e⟩
  ·exact ⟨none,0,0,none,0,0,e⟩
 obtain ⟨c0,c1,_,_⟩:=(BoxL.new w2 [.slice gA gn gc,.slice zA zn zc] 108).get2
 clear ho hb
 go_wp2_with fail
 go_region
 go_wp2_with fail
 refine bodyPost_ret (v:=.tuple #[.slice gA gn gc,.slice zA zn zc,.int .i64 (p:Int),.int .i64 er]) (by simp [results,Tryz.results26,go_sem]) rfl ?_
 refine ⟨gA,zA,gn,gc,zn,zc,p,er,rfl,?_,?_⟩
 ·first|exact (HB2.out.alloc HB2.out.size _).drew|exact HB2.out.alloc HB2.out.size _
 ·rcases HO.out with ⟨h1,h2,x,hx,hm⟩|⟨h1,h2,h3⟩
  ·refine .inl ⟨h1,h2,x,hx,hm.frame (Nat.le_refl _) (by first|exact Nat.le_of_lt (by simp [World.drew])|simp) fun b _ h2=>?_⟩
   exact Below.heap_alloc w2 _ b h2
  ·injection h2 with h2
   injection h2 with a1 h2
   injection h2 with a2 _
   injection a1 with b1 b2 b3
   injection a2 with b4 b5 b6
   exact .inr ⟨h1,b1,b2,b3,b4,b5,b6,h3⟩
end
end Go.Proofs.YtnghanpmmbcbbaaGreatDoor
namespace Go.Proofs.YtnghanpmmbcbbaaGreatDoor
open Go.RowKit
theorem flat_get {α:Type} [Inhabited α] (f:α→List Value) (k:Nat) (hf:∀x,(f x).length=k) (l:List α) {i j:Nat} (hi:i < l.length) (hj:j < k):(l.flatMap f)[i*k+j]?=(f (l.getD i default))[j]?:=by
 induction l generalizing i with
 | nil=>simp at hi
 | cons t r ih =>
  simp only [List.flatMap_cons]
  cases i with
  | zero =>
   rw [List.getElem?_append_left (by rw [hf];omega)]
   simp
  | succ i =>
   rw [List.getElem?_append_right (by rw [hf,Nat.add_mul];omega),hf]
   have:=ih (i:=i) (by simpa using hi)
   rw [List.getD_cons_succ,← this]
   congr 1
   rw [Nat.add_mul];omega
theorem own_get {α:Type} [Inhabited α] {lo:Nat} {w:World} {T:TypeId} {k:Nat} {A:Option Addr} {n c:Nat} {l:List α} (f:α→List Value) (hf:∀x,(f x).length=k) (h:w.ownsRow lo T k (.slice A n c) l.length (l.flatMap f)) :
  n=l.length∧l.length≤c∧c≤maxLen∧(0 < l.length→∃b,A=some ⟨b,0,none⟩∧∀i,i < l.length→∀j u,(f (l.getD i default))[j]?=some u→w.cell? ⟨b,0+i*k+j,none⟩=some u):=by
 rcases h.2 with ⟨e,h1⟩|⟨g,cap,cur,e,hb,hg,hle,hcap,hcs,hcur⟩
 ·injection e with e1 e2 e3
  subst e1 e2 e3
  exact ⟨h1.symm,by omega,by unfold maxLen;omega,fun h0=>by omega⟩
 ·injection e with e1 e2 e3
  subst e1 e2 e3
  refine ⟨rfl,hle,hcap,fun _=>⟨g,rfl,fun i hi j u hu=>?_⟩⟩
  have hj:j < k:=by have:=(List.getElem?_eq_some_iff.1 hu).1;rwa [hf] at this
  have hlt:i*k+j < l.length*k:=by
   have:(i+1)*k≤l.length*k:=Nat.mul_le_mul_right k hi
   rw [Nat.add_mul] at this
   omega
  rw [Nat.zero_add,World.ownsRow.cellAt h (i*k+j) hlt,flat_get f k hf l hi hj]
  exact hu
theorem own_ams {lo:Nat} {w:World} {A:Option Addr} {n c:Nat} {l:List Am} (h:RowG elAm 66 lo w (.slice A n c) l):n=l.length∧AmLst w A l c:=by
 obtain ⟨h1,h2,h3,h4⟩:=own_get Am.cells (fun _=>rfl) h.row
 refine ⟨h1,h2,h3,fun h0=>?_⟩
 obtain ⟨b,e,hc⟩:=h4 h0
 exact ⟨b,0,e,fun i hi=>⟨fun j u hu=>hc i hi j u hu,(h.sit.at_ _ (am_getD_mem hi)).1⟩⟩
theorem own_gls {lo:Nat} {w:World} {A:Option Addr} {n c:Nat} {l:List Gl} (h:RowG elGl 59 lo w (.slice A n c) l):n=l.length∧GlLst w A l c:=by
 obtain ⟨h1,h2,h3,h4⟩:=own_get Gl.cells (fun _=>rfl) h.row
 refine ⟨h1,h2,h3,fun h0=>?_⟩
 obtain ⟨b,e,hc⟩:=h4 h0
 exact ⟨b,0,e,fun i hi=>⟨fun j u hu=>hc i hi j u hu,h.sit.at_ _ (gl_getD_mem hi)⟩⟩
def Ru.rl (z:Ru):Rl:=⟨S z.t,z.kA,z.kc,z.ks,z.rA,z.rc,z.rs,z.gA,z.gc,z.gs,z.bA,z.bc,z.bs,(z.n:Int)⟩
theorem rl_rs (z:Ru):z.rl.rs=z.p:=by
 unfold Rl.rs Ru.rl Ru.p ruP
 simp
theorem ru_rl {lo:Nat} {w:World} {z:Ru} (h:z.At lo w) (hn:z.n≤1000000000):z.rl.At w :=
 ⟨by show (S z.t).size≤maxLen;have:=h.name;simp [ByteArray.size];unfold maxLen;omega,(own_ams h.k).2,(own_ams h.r).2,(own_gls h.g).2,(own_gls h.b).2,by show Fits (z.n:Int);unfold Fits;omega⟩
theorem MemR.rl {lo:Nat} {w:World} {V:Array Value} {x:Rs} (h:MemR lo w V x) (hx:x.vars≤1000000000):∃u:Rl,V=u.cells.toArray∧u.At w∧u.rs=x∧0≤u.vars:=by
 obtain ⟨t,ks,rs,gs,bs,kA,rA,gA,bA,kn,kc,rn,rc,gn,gc,bn,bc,n,e1,e2,hm⟩:=h
 obtain ⟨a1,a2,a3,a4,ha⟩:=ru_of (n:=n) hm
 subst a1 a2 a3 a4 e2
 exact ⟨Ru.rl ⟨t,ks,rs,gs,bs,kA,kc,rA,rc,gA,gc,bA,bc,n⟩,e1,ru_rl ha hx,rl_rs _,Int.natCast_nonneg n⟩
theorem MemP.pm {lo:Nat} {w:World} {V:Array Value} {ds:List Dc} {rs:List Rs} (h:MemP lo w V (ds.map dS,rs)) (hd:∀d∈ds,d.At w) (hr:∀x∈rs,x.vars≤1000000000) :
  ∃q:Pm,V=#[.slice q.dA q.decls.length q.dc,.slice q.rA q.rules.length q.rc]∧q.At w∧q.decls=ds∧q.rules.map Rl.rs=rs∧∀u∈q.rules,0≤u.vars:=by
 obtain ⟨dl,rz,dA,rA,dn,dc,rn,rc,e1,e2,hdl,hrz⟩:=h
 obtain ⟨e3,e4⟩:=Prod.mk.inj e2
 subst e3 e4
 have hdl2:w.ownsRow lo 38 2 (.slice dA dn dc) ds.length (ds.flatMap Dc.cells):=by
  have h1:=hdl.row
  rw [List.length_map] at h1
  have e:elDl.cellsL (ds.map dS)=ds.flatMap Dc.cells:=by
   unfold Elt.cellsL
   rw [List.flatMap_map]
   rfl
  rw [e] at h1
  exact h1
 obtain ⟨a1,a2,a3,a4⟩:=own_get Dc.cells (fun _=>rfl) hdl2
 have hrz2:w.ownsRow lo 25 6 (.slice rA rn rc) (rz.map Ru.rl).length ((rz.map Ru.rl).flatMap Rl.cells):=by
  have h1:=hrz.row
  have e:(rz.map Ru.rl).flatMap Rl.cells=rcells rz:=by
   unfold rcells
   rw [List.flatMap_map]
   rfl
  rw [e,List.length_map]
  exact h1
 obtain ⟨b1,b2,b3,b4⟩:=own_get Rl.cells (fun _=>rfl) hrz2
 refine ⟨⟨dA,dc,ds,rA,rc,rz.map Ru.rl⟩,by rw [e1,a1,b1],⟨⟨a2,a3,fun h0=>?_⟩,⟨b2,b3,fun h0=>?_⟩⟩,rfl,?_,fun u hu=>?_⟩
 ·obtain ⟨b,e,hc⟩:=a4 h0
  exact ⟨b,0,e,fun i hi=>⟨fun j u hu=>hc i hi j u hu,hd _ (dc_getD_mem hi)⟩⟩
 ·obtain ⟨b,e,hc⟩:=b4 h0
  refine ⟨b,0,e,fun i hi=>⟨fun j u hu=>hc i hi j u hu,?_⟩⟩
  obtain ⟨z,hz,e5⟩:=List.mem_map.1 (rl_getD_mem hi)
  rw [←e5]
  exact ru_rl (hrz.at_ z hz) (hr z.p (List.mem_map_of_mem hz))
 ·rw [List.map_map]
  exact List.map_congr_left fun z _=>rl_rs z
 ·obtain ⟨z,_,rfl⟩:=List.mem_map.1 hu
  exact Int.natCast_nonneg z.n
theorem MemQ.gls {lo:Nat} {w:World} {V:Array Value} {x:List Gs×List (List UInt8)} (h:MemQ lo w V x):∃(gs:List Gl) (gA zA:Option Addr) (gc zn zc:Nat),V=#[.slice gA gs.length gc,.slice zA zn zc]∧GlLst w gA gs gc∧gs.map sG=x.1∧w.ownsRow lo 9 1 (.slice zA zn zc) x.2.length (nmC x.2):=by
 obtain ⟨gs,ns,gA,zA,gn,gc,zn,zc,e1,e2,hg,hz⟩:=h
 obtain ⟨a1,a2⟩:=own_gls hg
 subst a1 e2
 exact ⟨gs,gA,zA,gc,zn,zc,e1,a2,rfl,hz⟩
end Go.Proofs.YtnghanpmmbcbbaaGreatDoor
namespace Go.Proofs.YtnghanpmmbcbbaaGreatDoor
open Go.RowKit
theorem absP_absT (l:List Tk):∀(a:Nat) (p:List UInt8),absP a p l=absT a p l:=by
 induction l with
 | nil=>intro _ _;rfl
 | cons x r ih=>intro a p;rw [absP,absT,ih]
theorem toksOf_left (s:ByteArray) (hs:s.size≤16384):toksOf s.data.toList=if (scanP s).2.2≠0 then none else some (leftT (scanP s).1 0):=by
 rw [toksOf_scan s hs,← left_all,absP_absT]
theorem whole_of {α:Type} (f:List Tok→PS α) {s:ByteArray} {T:List Tok} (hs:s.size≤16384) (h:toksOf s.data.toList=some T) :
  wholeS f s=match onlyS (f T) with
   | .ok v _ _=>.ok v
   | .err n e=>.error (offT (scanP s).1 n,e):=by
 rw [toksOf_left s hs] at h
 split at h
 ·cases h
 ·rename_i h0
  injection h with h
  unfold wholeS
  rw [if_neg h0,h]
  cases onlyS (f T)<;>rfl
def sepS (seed:Nat):List UInt8:=if seed % 5=0 then [32] else if seed % 5=1 then [9,10] else if seed % 5=2 then [13,32] else if seed % 5=3 then [32,35,120,10] else [32,32]
def nextSeed (seed i:Nat):Nat:=((seed / 5*7) % 18446744073709551616+i) % 18446744073709551616
def seedAt (l:List Tk) (seed:Nat):Nat→Nat
 | 0=>seed
 | 1=>seed
 | i+2=>if markT l (i+1) then seedAt l seed (i+1) else nextSeed (seedAt l seed (i+1)) (i+1)
def sepAt (l:List Tk) (seed i:Nat):List UInt8:=if i=0∨markT l i=true then [] else sepS (seedAt l seed i)
def sprT (l:List Tk) (seed:Nat):Nat→List UInt8
 | 0=>[]
 | i+1=>sprT l seed i++(sepAt l seed i++(l.getD i default).2.2)
def sprR (l:List Tk) (seed:Nat):Nat→List (List UInt8×Tok)
 | 0=>[]
 | i+1=>sprR l seed i++[(sepAt l seed (i+1),(l.getD (i+1) default).1,(l.getD (i+1) default).2.2,markT l (i+1))]
theorem toks_sum (s:ByteArray):∀(n p:Nat),p≤s.size→((toksAt s n p).1.flatMap fun t=>t.2.2).length+p≤s.size∧(toksAt s n p).1.length≤s.size - p+1
 | 0,p,hp=>by simp [toksAt];omega
 | n+1,p,hp=>by
  by_cases he:(tokAt s p).2.2=0
  ·obtain ⟨t1,t2,t3,t4,t5,t6,_⟩:=tokAt_facts hp he
   by_cases hk:(tokAt s p).1.1=0
   ·rw [toks_end he hk]
    simp only [List.flatMap_cons,List.flatMap_nil,List.append_nil,List.length_cons,List.length_nil]
    omega
   ·rw [toks_next he hk]
    obtain ⟨i1,i2⟩:=toks_sum s n (tokAt s p).2.1 t4
    have:=t5 hk
    split
    ·omega
    ·simp only [List.flatMap_cons,List.length_append,List.length_cons] at i1 i2 ⊢
     omega
  ·rw [toks_err he]
   simp;omega
end Go.Proofs.YtnghanpmmbcbbaaGreatDoor
namespace Go.Proofs.YtnghanpmmbcbbaaGreatDoor
open Go.RowKit
theorem toks_le {s:ByteArray} {T:List Tok} (hs:s.size≤16384) (h:toksOf s.data.toList=some T):T.length≤s.size+1:=by
 rw [toksOf_left s hs] at h
 split at h
 ·cases h
 ·injection h with h
  subst h
  have hsc:scanP s=toksAt s (s.size+1) 0:=by unfold scanP;rw [if_neg (by omega)]
  rw [left_length,hsc]
  have:=(toks_sum s (s.size+1) 0 (Nat.zero_le _)).2
  omega
section
variable {F:Nat} (hF:16385≤F) {s:ByteArray} (hz:s.size≤16384)
include hF hz
theorem program_reads {d:List Ds} {l:List Rs} (hd:∀x∈d,DeclOk x) (h30:d.length≤30) (hl:∀r∈l,SrcOk r) (h40:l.length≤40) (hs:s.data.toList=programT d l) :
  wholeS (programS (exprS (F+1))) s=.ok (d,l.map numberS):=by
 have hT:toksOf s.data.toList=some (programK d l++EndT):=by
  unfold toksOf
  rw [hs]
  exact program_scan hd hl (Nat.lt_succ_self _)
 have hn:=toks_le hz hT
 rw [whole_of _ hz hT,program_kead F d l hd h30 hl h40 (by omega)]
 rfl
theorem rule_reads {r:Rs} (h:SrcOk r) (hs:s.data.toList=r.txt):wholeS (ruleS (exprS (F+1))) s=.ok (numberS r):=by
 have hT:toksOf s.data.toList=some (r.tok++EndT):=by
  unfold toksOf
  rw [hs]
  exact rule_scan h (Nat.lt_succ_self _)
 have hn:=toks_le hz hT
 rw [whole_of _ hz hT,only_kead F r h (by omega)]
theorem goals_reads {l:List Gs} (h0:l≠[]) (h:AllG l) (h40:l.length≤40) (hs:s.data.toList=goalsT l) :
  wholeS (quS (exprS (F+1))) s=.ok (l.map (Gs.num2 (placeS (orderS (l.flatMap (·.2.2))))),labs (orderS (l.flatMap (·.2.2)))):=by
 have hT:toksOf s.data.toList=some (gsepK l++EndT):=by
  unfold toksOf
  rw [hs]
  exact goals_scan h0 h (Nat.lt_succ_self _)
 have hn:=toks_le hz hT
 rw [whole_of _ hz hT,← qu_only,query_kead F l h0 h h40 (by omega)]
end
end Go.Proofs.YtnghanpmmbcbbaaGreatDoor
namespace Go.Proofs.YtnghanpmmbcbbaaGreatDoor
open Go.RowKit
theorem S_list (l:List UInt8):(S l).data.toList=l:=by simp
theorem rule_returns (r:Rl) (hz:r.vs.length≤1000000) (h:r.numR.src≠[]) (w:World) :
  Calls Tryz.prog 20 #[.string (S r.numR.src)] w fun e w'=>∃u:Rl,e=.returned (.tuple #[u.val,.int .i64 0,.int .i64 0])∧u.At w'∧u.Twin r.numR∧u.vars=r.numR.vars∧Below w.heap.size w w':=by
 obtain ⟨h1,h2,h3,h4⟩:=numR_reads h
 have hs:(S r.numR.src).size≤16384:=by rw [S_size];exact h3
 have hw:wholeS (ruleS (exprS (16385+1))) (S r.numR.src)=.ok (numberS r.numR.rs):=rule_reads (Nat.le_refl _) hs h1 (by rw [S_list];exact h2)
 refine (parse_rule_at (F:=16385) (by omega) (S r.numR.src) (by omega) w).mono ?_
 rintro e w' ⟨V,p,er,rfl,hb,hc⟩
 rcases hc with ⟨rfl,rfl,x,hx,hm⟩|⟨_,_,hx⟩
 ·rw [hw] at hx
  injection hx with hx
  rw [h4] at hx
  subst hx
  have hv:r.numR.vars=(r.vs.length:Int):=rfl
  obtain ⟨u,rfl,hu,hrs,h0⟩:=hm.rl (by show r.numR.vars.toNat≤_;rw [hv];omega)
  have hv2:u.vars.toNat=r.numR.vars.toNat:=congrArg Rs.vars hrs
  exact ⟨u,rfl,hu,twin_rs hrs,by rw [hv] at hv2 ⊢;omega,hb⟩
 ·rw [hw] at hx
  cases hx
theorem program_returns (p:Pm) (hd:∀d∈p.decls,d.name.size≤maxLen∧Fits d.arity) (hz:∀r∈p.rules,r.vs.length≤1000000) (h:p.src≠[]) (w:World) :
  Calls Tryz.prog 21 #[.string (S p.src)] w fun e w'=>∃q:Pm,e=.returned (.tuple #[q.val,.int .i64 0,.int .i64 0])∧q.At w'∧q.decls=p.decls∧q.rules.length=p.rules.length∧(∀i,i < p.rules.length→(q.rules.getD i default).Twin (p.rules.getD i default).numR∧(q.rules.getD i default).vars=(p.rules.getD i default).numR.vars)∧Below w.heap.size w w':=by
 obtain ⟨h1,h2,h3,h4,h5,h6,h7⟩:=program_some h
 have hs:(S p.src).size≤16384:=by rw [S_size];exact h6
 have hw:wholeS (programS (exprS (16385+1))) (S p.src)=.ok (p.decls.map dS,(p.rules.map fun r=>r.numR.rs).map numberS):=program_reads (Nat.le_refl _) hs h1 h2 h3 h4 (by rw [S_list];exact h5)
 rw [h7] at hw
 refine (parse_at (F:=16385) (by omega) (S p.src) (by omega) w).mono ?_
 rintro e w' ⟨V,pp,er,rfl,hb,hc⟩
 rcases hc with ⟨rfl,rfl,x,hx,hm⟩|⟨_,_,hx⟩
 ·rw [hw] at hx
  injection hx with hx
  subst hx
  obtain ⟨q,rfl,hq,hqd,hqr,h0⟩:=hm.pm hd (fun x hx=>by
   obtain ⟨r,hr,rfl⟩:=List.mem_map.1 hx
   show r.numR.vars.toNat≤_
   have:=hz r hr
   have hv:r.numR.vars=(r.vs.length:Int):=rfl
   rw [hv];omega)
  have hl:q.rules.length=p.rules.length:=by have:=congrArg List.length hqr;simpa using this
  refine ⟨q,rfl,hq,hqd,hl,fun i hi=>?_,hb⟩
  have e:(q.rules.getD i default).rs=(p.rules.getD i default).numR.rs:=by
   have e1:=congrArg (fun x=>x[i]?) hqr
   simp only [List.getElem?_map,List.getElem?_eq_getElem (show i < q.rules.length by omega),List.getElem?_eq_getElem hi,Option.map_some,Option.some.injEq] at e1
   simpa [List.getD,List.getElem?_eq_getElem (show i < q.rules.length by omega),List.getElem?_eq_getElem hi] using e1
  have hn:=h0 _ (rl_getD_mem (show i < q.rules.length by omega))
  have hv2:(q.rules.getD i default).vars.toNat=(p.rules.getD i default).numR.vars.toNat:=congrArg Rs.vars e
  have hv:(p.rules.getD i default).numR.vars=((p.rules.getD i default).vs.length:Int):=rfl
  exact ⟨twin_rs e,by rw [hv] at hv2 ⊢;omega⟩
 ·rw [hw] at hx
  cases hx
def vsGl (l:List Gl):List Int:=varsL (l.flatMap Gl.args)
theorem orderG (l:List Gl):orderS ((l.map sG).flatMap (·.2.2))=vsGl l:=by
 have e:∀l:List Gl,(l.map sG).flatMap (·.2.2)=stripL (l.flatMap Gl.args):=fun l=>by
  induction l with
  | nil=>rfl
  | cons x r ih=>rw [List.map_cons,List.flatMap_cons,ih,List.flatMap_cons,stripL_append];rfl
 rw [e]
 unfold orderS vsGl varsL addAll
 rw [occ_strip3.2]
 rfl
theorem goals_returns (l:List Gl) (h:goalsSrc l≠[]) (w:World) :
  Calls Tryz.prog 26 #[.string (S (goalsSrc l))] w fun e w'=>∃(m:List Gl) (mA zA:Option Addr) (mc zn zc:Nat),e=.returned (.tuple #[.slice mA m.length mc,.slice zA zn zc,.int .i64 0,.int .i64 0])∧GlLst w' mA m mc∧m.map sG=(l.map sG).map (Gs.num2 (placeS (vsGl l)))∧w'.ownsRow w.heap.size 9 1 (.slice zA zn zc) (vsGl l).length (nmC (labs (vsGl l)))∧Below w.heap.size w w':=by
 obtain ⟨h1,h2,h3,h4,h5⟩:=goals_some h
 have hs:(S (goalsSrc l)).size≤16384:=by rw [S_size];exact h5
 have hw:=goals_reads (F:=16385) (Nat.le_refl _) hs (l:=l.map sG) (by simpa using h1) h3 (by simpa using h2) (by rw [S_list];exact h4)
 rw [orderG] at hw
 refine (parse_goals_at (F:=16385) (by omega) (S (goalsSrc l)) (by omega) w).mono ?_
 rintro e w' ⟨gA,zA,gn,gc,zn,zc,p,er,rfl,hb,hc⟩
 rcases hc with ⟨rfl,rfl,x,hx,hm⟩|⟨_,_,_,_,_,_,_,hx⟩
 ·rw [hw] at hx
  injection hx with hx
  subst hx
  obtain ⟨gs,gA2,zA2,gc2,zn2,zc2,e,hg,hgs,hz⟩:=hm.gls
  injection e with e
  injection e with e1 e2
  injection e2 with e2 _
  injection e1 with e3 e4 e5
  injection e2 with e6 e7 e8
  subst e3 e4 e5 e6 e7 e8
  refine ⟨gs,gA,zA,gc,zn,zc,rfl,hg,hgs,?_,hb⟩
  have hl:(labs (vsGl l)).length=(vsGl l).length:=by simp [labs]
  rw [←hl]
  exact hz
 ·rw [hw] at hx
  cases hx
end Go.Proofs.YtnghanpmmbcbbaaGreatDoor
