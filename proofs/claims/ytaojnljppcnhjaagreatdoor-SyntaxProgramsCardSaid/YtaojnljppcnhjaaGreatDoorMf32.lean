/-
  PgWholeQ.
  PgParse.
  PgParseG.
 RzQuery.
 LwMem.
 LwSame.
-/
import Derived.Test.YtaojnljppcnhjaaGreatDoorMf30
import Derived.Test.YtaojnljppcnhjaaGreatDoorMf31
import Derived.Test.YtaojnljppcnhjaaGreatDoorMf16
import Derived.Test.YtaojnljppcnhjaaGreatDoorMf17
import Derived.Test.YtaojnljppcnhjaaGreatDoorMf8
import Derived.Test.YtaojnljppcnhjaaGreatDoorMf15
import Derived.Test.YtaojnljppcnhjaaGreatDoorMf3
import Derived.Deep.AppendLies
import Derived.BigQuiet
import Derived.Lib.QuietBelow
import Derived.Deep.QuietTactic
namespace Go.Proofs.YtaojnljppcnhjaaGreatDoor
open Go.RowKit
def MemQ (lo:Nat) (w':World) (V:Array Value) (x:List Gs×List (List UInt8)):Prop:=∃(gs:List Gl) (ns:List (List UInt8)) (gA zA:Option Addr) (gn gc zn zc:Nat),V=#[.slice gA gn gc,.slice zA zn zc]∧x=(gs.map sG,ns)∧RowG elGl 54 lo w' (.slice gA gn gc) gs∧w'.ownsRow lo 9 1 (.slice zA zn zc) ns.length (nmC ns)
theorem MemQ.frame {lo lo':Nat} {w w':World} {V:Array Value} {x:List Gs×List (List UInt8)} (h:MemQ lo w V x) (hlo:lo'≤lo) (hs:w.heap.size≤w'.heap.size) (hb:∀b,lo≤b→b < w.heap.size→w'.heap[b]?=w.heap[b]?):MemQ lo' w' V x:=by
 obtain ⟨gs,ns,gA,zA,gn,gc,zn,zc,e1,e2,hm⟩:=h
 exact ⟨gs,ns,gA,zA,gn,gc,zn,zc,e1,e2,(hm.1.frame hs hb).low hlo,own_low (own_of hm.2 fun k hk=>hb k (own_lt hm.2 k hk).1 (own_lt hm.2 k hk).2) hlo⟩
set_option maxHeartbeats 8000000 in
set_option maxRecDepth 100000 in
theorem whole_Q {ex:Rd1 Tm} (hR:∀(R:Nat) (A:Option Addr) (c:Nat) (l:List Tk) (w:World),GoodT l→Pq w R A c l 0→Calls Tryz.prog 34 #[.pointer (some ⟨R,0,none⟩)] w (QueryQ ex R A c l 0 w))
  (s:ByteArray) (hs:s.size≤100000) (w:World) :
  Calls Tryz.prog 33 #[.string s,.func (.func 34) #[] #[]] w (WholeQ (quS ex) #[.slice none 0 0,.slice none 0 0] MemQ s w):=by
 have QS:=Lib.hid (fun W=>scan_at s W hs)
 have HR:=Lib.hid hR
 have HSc:=Lib.hid (fun h0=>good_scan (s:=s) h0)
 obtain ⟨sc,hsc⟩:∃sc,scanP s=sc:=⟨_,rfl⟩
 rw [show ScanR s=fun w e w'=>∃A c,e=.returned (.tuple #[.slice A (scanP s).1.length c,.int .i64 ((scanP s).2.1:Int),.int .i64 (scanP s).2.2])∧TLst w' A (scanP s).1 c∧Below w.heap.size w w' from rfl,hsc] at QS
 rw [hsc] at HSc
 obtain ⟨l,p,e⟩:=sc
 have HW:=Lib.hid hsc
 clear hsc hR hs
 by_cases he:e=0
 ·subst he
  go_enter Tryz.func33,Tryz.ntmps33
  go_wp2_with fail
  refine (QS.out _).mono ?_
  rintro en w3 ⟨A,c,rfl,hT,hb3⟩
  have HT:=Lib.hid (show TLst w3 A l c from hT)
  have HG:=Lib.hid (show GoodT l by first|exact HSc.out rfl|exact HSc.out trivial)
  have HB3:=Lib.hid (show Below w.heap.size w w3 from Below.after (((Below.refl w.heap.size w).alloc (Nat.le_refl _) (.cells #[.slice none 0 0,.slice none 0 0] 79)).alloc (by simp) (.cells #[.slice none 0 0,.slice none 0 0] 79)) hb3 (by simp<;>omega))
  have HZ4:=Lib.hid ((BoxL.new w [.slice none 0 0,.slice none 0 0] 79).alloc (.cells #[.slice none 0 0,.slice none 0 0] 79) |>.below hb3)
  have HZ7:=Lib.hid (show BoxL w3 (w.heap.size+1) [.slice none 0 0,.slice none 0 0] by
   have:=BoxL.new (w.alloc (.cells #[.slice none 0 0,.slice none 0 0] 79)) [.slice none 0 0,.slice none 0 0] 79
   rw [show (w.alloc (.cells #[.slice none 0 0,.slice none 0 0] 79)).heap.size=w.heap.size+1 by simp] at this
   exact this.below hb3)
  have hsz3:w.heap.size+2≤w3.heap.size:=by have:=hb3.size;simpa using this
  have HP:=Lib.hid (new_parser HT.out HG.out.ended.1 98)
  have QR:=Lib.hid (HR.out _ A c l _ HG.out HP.out)
  clear hT hb3 HSc QS
  go_wp2_with fail
  refine QR.out.mono ?_
  rintro en w4 ⟨gs,ns,gA,zA,gn,gc,zn,zc,j,er,rfl,hk4,hp4,ho4⟩
  have hs34:w3.heap.size+1≤w4.heap.size:=by have:=hk4.size;simpa using this
  have HB4:=Lib.hid (show Below w.heap.size w w4 from ⟨hk4.os.trans HB3.out.os,hk4.tape.trans HB3.out.tape,hk4.output.trans HB3.out.output,by omega,fun k hk=>(hk4.block k (by simp;omega) (by omega) (Z0_own k)).trans ((Below.heap_alloc w3 _ k (by omega)).trans (HB3.out.block k hk))⟩)
  have HZ44:=Lib.hid ((HZ4.out.alloc _).kq hk4 (by omega))
  have HZ74:=Lib.hid ((HZ7.out.alloc _).kq hk4 (by omega))
  have HP4:=Lib.hid hp4
  have HO4:=Lib.hid ho4
  obtain ⟨tk,htk⟩:∃tk,l.getD j default=tk:=⟨_,rfl⟩
  obtain ⟨k,q,x⟩:=tk
  have fk:=tok_kind k (q:Int) (S x)
  have fa:=tok_at k (q:Int) (S x)
  have QN:=Lib.hid (fun W (hW:Pq W w3.heap.size A c l j)=>p_next_of hW htk)
  have HTk:=Lib.hid htk
  clear hk4 hp4 ho4 htk
  by_cases her:er=0
  ·subst her
   by_cases hk:k=0
   ·subst hk
    have c0:=fun o=>(HZ44.out.alloc o).get2.1
    have c1:=fun o=>(HZ44.out.alloc o).get2.2.1
    have f0:=fun o=>(HZ44.out.alloc o).get2.2.2.1
    have f1:=fun o=>(HZ44.out.alloc o).get2.2.2.2
    have d0:=fun o=>(HZ74.out.alloc o).get2.1
    have d1:=fun o=>(HZ74.out.alloc o).get2.2.1
    go_wp2_with (go_at_call 44;refine (QN.out _ (HP4.out.alloc _)).mono ?_;rintro en w5 ⟨rfl,hb5⟩;have HB5:=Lib.hid (Below.after (HB4.out.alloc (by omega) _) hb5 (by simp<;>omega));have HB45:=Lib.hid hb5;obtain ⟨a0,a1,a2,a3⟩:=((HZ44.out.alloc _).below hb5).get2;obtain ⟨b0,b1,b2,b3⟩:=((BoxL.new w4 [.slice gA gn gc,.slice zA zn zc] 79).below hb5).get2;clear hb5)
    refine bodyPost_ret (v:=.tuple #[.agg #[.slice gA gn gc,.slice zA zn zc],.int .i64 0,.int .i64 0]) (by simp [results,Tryz.results33,go_sem,a0,a1]) rfl ?_
    rcases HO4.out with ⟨_,⟨m,hf⟩,hm⟩|⟨h0,_⟩
    ·refine ⟨#[.slice gA gn gc,.slice zA zn zc],0,0,rfl,(HB5.out.setCell (Nat.le_refl _) _).setCell (Nat.le_refl _) _,.inl ⟨rfl,rfl,(gs.map sG,ns),?_,?_⟩⟩
     ·rw [whole_ok HW.out]
      simp only [hf,onlyS]
      rw [left_cons HP4.out.ilt,HTk.out]
      rfl
     ·have hM:MemQ (w3.alloc (.cells #[.slice A l.length c,.int .i64 0] 98)).heap.size w4 #[.slice gA gn gc,.slice zA zn zc] (gs.map sG,ns):=⟨gs,ns,gA,zA,gn,gc,zn,zc,rfl,rfl,hm⟩
      have hsz:(w3.alloc (.cells #[.slice A l.length c,.int .i64 0] 98)).heap.size=w3.heap.size+1:=by simp
      refine hM.frame (by rw [hsz];omega) (Nat.le_trans (Nat.le_trans (by simp) HB45.out.size) (Nat.le_of_eq (sets2_size w5 w.heap.size _ _).symm)) fun b h1 h2=>?_
      rw [hsz] at h1
      exact (sets2_block w5 w.heap.size _ _ (by omega)).trans ((HB45.out.block b (by simp;omega)).trans (Below.heap_alloc w4 _ b h2))
    ·exact absurd rfl h0
   ·have hkb:(k != 0)=true:=bne_iff_ne.2 hk
    have HKn:=Lib.hid hk
    clear hk
    have c0:=fun o=>(HZ44.out.alloc o).get2.1
    have c1:=fun o=>(HZ44.out.alloc o).get2.2.1
    have f0:=fun o=>(HZ44.out.alloc o).get2.2.2.1
    have f1:=fun o=>(HZ44.out.alloc o).get2.2.2.2
    have d0:=fun o=>(HZ74.out.alloc o).get2.1
    have d1:=fun o=>(HZ74.out.alloc o).get2.2.1
    go_wp2_with (go_at_call 44;refine (QN.out _ (HP4.out.alloc _)).mono ?_;rintro en w6 ⟨rfl,hb6⟩;have HB6:=Lib.hid (Below.after (HB4.out.alloc (by omega) _) hb6 (by simp<;>omega));have HP6:=Lib.hid ((HP4.out.alloc _).below hb6);have HZ46:=Lib.hid ((HZ44.out.alloc _).below hb6);have HZ76:=Lib.hid ((HZ74.out.alloc _).below hb6);have hs6:w.heap.size+2≤w6.heap.size:=(by have:=hb6.size;simp at this;omega);obtain ⟨a0,a1,a2,a3⟩:=((HZ44.out.alloc _).below hb6).get2;obtain ⟨a4,a5,a6,a7⟩:=((HZ74.out.alloc _).below hb6).get2;clear hb6)
    clear a0 a1 a2 a3
    go_region_with (go_at_call 44;refine (QN.out _ (by first|exact HP6.out|exact HP6.out.drewN 1|exact (HP6.out.drewN 1).drewN 1)).mono ?_;rintro en w5 ⟨rfl,hb5⟩;have hb0:Below w6.heap.size w6 w5:=(by first|exact hb5|exact ⟨hb5.os,hb5.tape,hb5.output,hb5.size,hb5.block⟩);have HB5:=Lib.hid (Below.after HB6.out hb0 (by omega));obtain ⟨a0,a1,a2,a3⟩:=(HZ46.out.below hb0).get2;obtain ⟨b4,b5,b6,b7⟩:=(HZ76.out.below hb0).get2;clear hb5 hb0)
    all_goals
     go_wp2_with fail
     refine bodyPost_ret (v:=.tuple #[.agg #[.slice none 0 0,.slice none 0 0],.int .i64 (q:Int),.int .i64 16]) (by simp [results,Tryz.results33,go_sem,a0,a1]) rfl ?_
     refine ⟨#[.slice none 0 0,.slice none 0 0],q,16,rfl,?_,.inr ⟨by omega,rfl,?_⟩⟩
     ·first|exact (HB5.out.setCell (Nat.le_refl _) _).setCell (Nat.le_refl _) _|exact ((HB5.out.setCell (Nat.le_refl _) _).setCell (Nat.le_refl _) _).drew
     ·rw [whole_ok HW.out]
      rcases HO4.out with ⟨_,⟨m,hf⟩,hm⟩|⟨h0,_⟩
      ·have hne:¬((leftT l j).headD (0,[],false)).1=0:=by
        rw [left_cons HP4.out.ilt,HTk.out]
        exact HKn.out
       simp only [hf,onlyS,if_neg hne,off_here HP4.out.ilt,HTk.out]
      ·exact absurd rfl h0
  ·have hne:(er != 0)=true:=bne_iff_ne.2 her
   have hne2:(er==0)=false:=by simpa using her
   have HE:=Lib.hid her
   clear her
   have c0:=fun o=>(HZ44.out.alloc o).get2.1
   have c1:=fun o=>(HZ44.out.alloc o).get2.2.1
   have f0:=fun o=>(HZ44.out.alloc o).get2.2.2.1
   have f1:=fun o=>(HZ44.out.alloc o).get2.2.2.2
   have d0:=fun o=>(HZ74.out.alloc o).get2.1
   have d1:=fun o=>(HZ74.out.alloc o).get2.2.1
   go_wp2_with fail
   go_region_with (go_at_call 44;refine (QN.out _ (by first|exact HP4.out.alloc _|exact (HP4.out.alloc _).drewN 1|exact ((HP4.out.alloc _).drewN 1).drewN 1)).mono ?_;rintro en w5 ⟨rfl,hb5⟩;have hb0:Below (w4.alloc (.cells #[.slice gA gn gc,.slice zA zn zc] 79)).heap.size (w4.alloc (.cells #[.slice gA gn gc,.slice zA zn zc] 79)) w5:=(by first|exact hb5|exact ⟨hb5.os,hb5.tape,hb5.output,hb5.size,hb5.block⟩);have HB5:=Lib.hid (Below.after (HB4.out.alloc (by omega) _) hb0 (by simp<;>omega));obtain ⟨a0,a1,a2,a3⟩:=((HZ44.out.alloc _).below hb0).get2;obtain ⟨a4,a5,a6,a7⟩:=((HZ74.out.alloc _).below hb0).get2;clear hb5 hb0)
   all_goals
    go_wp2_with fail
    refine bodyPost_ret (v:=.tuple #[.agg #[.slice none 0 0,.slice none 0 0],.int .i64 (q:Int),.int .i64 er]) (by simp [results,Tryz.results33,go_sem,a0,a1]) rfl ?_
    refine ⟨#[.slice none 0 0,.slice none 0 0],q,er,rfl,?_,.inr ⟨HE.out,rfl,?_⟩⟩
    ·first|exact (HB5.out.setCell (Nat.le_refl _) _).setCell (Nat.le_refl _) _|exact ((HB5.out.setCell (Nat.le_refl _) _).setCell (Nat.le_refl _) _).drew
    ·rw [whole_ok HW.out]
     rcases HO4.out with ⟨h0,_⟩|⟨_,hf⟩
     ·exact absurd h0 HE.out
     ·simp only [hf,onlyS,off_here HP4.out.ilt,HTk.out]
 ·have HE:=Lib.hid he
  have hne:(e != 0)=true:=bne_iff_ne.2 he
  clear he
  go_enter Tryz.func33,Tryz.ntmps33
  go_wp2_with fail
  refine (QS.out _).mono ?_
  rintro en w3 ⟨A,c,rfl,_,hb3⟩
  have HB3:=Lib.hid (show Below w.heap.size w w3 from Below.after (((Below.refl w.heap.size w).alloc (Nat.le_refl _) (.cells #[.slice none 0 0,.slice none 0 0] 79)).alloc (by simp) (.cells #[.slice none 0 0,.slice none 0 0] 79)) hb3 (by simp<;>omega))
  obtain ⟨c0,c1,f0,f1⟩:=(((BoxL.new w [.slice none 0 0,.slice none 0 0] 79).alloc (.cells #[.slice none 0 0,.slice none 0 0] 79)).below hb3).get2
  obtain ⟨d0,d1,_,_⟩:=(show BoxL w3 (w.heap.size+1) [.slice none 0 0,.slice none 0 0] by
   have:=BoxL.new (w.alloc (.cells #[.slice none 0 0,.slice none 0 0] 79)) [.slice none 0 0,.slice none 0 0] 79
   rw [show (w.alloc (.cells #[.slice none 0 0,.slice none 0 0] 79)).heap.size=w.heap.size+1 by simp] at this
   exact this.below hb3).get2
  clear hb3
  go_wp2_with fail
  refine bodyPost_ret (v:=.tuple #[.agg #[.slice none 0 0,.slice none 0 0],.int .i64 (p:Int),.int .i64 e]) (by simp [results,Tryz.results33,go_sem,c0,c1]) rfl ?_
  exact ⟨#[.slice none 0 0,.slice none 0 0],p,e,rfl,(HB3.out.setCell (Nat.le_refl _) _).setCell (Nat.le_refl _) _,.inr ⟨HE.out,rfl,whole_err HW.out HE.out⟩⟩
end Go.Proofs.YtaojnljppcnhjaaGreatDoor
namespace Go.Proofs.YtaojnljppcnhjaaGreatDoor
open Go.RowKit
section
variable {F:Nat} {R:Nat} {A:Option Addr} {c:Nat} {l:List Tk}
theorem goal_F (hg:GoodT l) (a k:Nat) (w:World) (hP:Pq w R A c l k) (ha:a≤k) (hn:(leftT l k).length≤F+1) :
  Calls Tryz.prog 59 #[.pointer (some ⟨R,0,none⟩)] w (ElR rdGl (goalR (exprS (F+1))) R A c l a k w) :=
 one_Gl_at hg (n:=F+1) (fun k w hP ha hn=>any_goal_at hg (exprs_at hg a (F+1)) (expr_name _) (fun _ g r ns h=>expr_res F h g r ns) k w hP ha hn) k w hP ha hn
theorem head_F (hg:GoodT l) (a k:Nat) (w:World) (hP:Pq w R A c l k) (ha:a≤k) (hn:(leftT l k).length≤F+1) :
  Calls Tryz.prog 81 #[.pointer (some ⟨R,0,none⟩)] w (ElR rdAm (headR (exprS (F+1))) R A c l a k w) :=
 one_Am_at hg (n:=F+1) (fun k w hP ha hn=>atom_at hg (exprs_at hg a (F+1)) k w hP ha (by omega)) k w hP ha hn
theorem rule_F (hg:GoodT l) (k:Nat) (w:World) (hP:Pq w R A c l k) (hn:(leftT l k).length≤F+1) :
  Calls Tryz.prog 30 #[.pointer (some ⟨R,0,none⟩)] w (RuleQ (exprS (F+1)) R A c l k w) :=
 rule_at hg k (fun j w hP h hn=>head_F hg k j w hP h hn) (fun j w hP h hn=>goal_F hg k j w hP h hn) w hP hn
theorem len_F (hF:16384≤F) (hg:GoodT l):(leftT l 0).length≤F+1:=by rw [left_length];have:=hg.small;omega
end
section
variable {F:Nat} (hF:16384≤F) (s:ByteArray) (hs:s.size≤100000) (w:World)
include hF hs
theorem wholeP_F:Calls Tryz.prog 23 #[.string s,.func (.func 24) #[] #[]] w (WholeQ (programS (exprS (F+1))) #[.slice none 0 0,.slice none 0 0] MemP s w) :=
 whole_P (fun _ _ _ _ w hg hP=>program_at hg 0 (fun k w hP _ hn=>rule_F hg k w hP hn) w hP (len_F hF hg)) s hs w
theorem wholeR_F:Calls Tryz.prog 29 #[.string s,.func (.func 30) #[] #[]] w (WholeQ (ruleS (exprS (F+1))) ZR MemR s w) :=
 whole_R (fun _ _ _ _ w hg hP=>rule_F hg 0 w hP (len_F hF hg)) s hs w
theorem wholeQ_F:Calls Tryz.prog 33 #[.string s,.func (.func 34) #[] #[]] w (WholeQ (quS (exprS (F+1))) #[.slice none 0 0,.slice none 0 0] MemQ s w) :=
 whole_Q (fun _ _ _ _ w hg hP=>query_at hg 0 (fun j w hP h hn=>goal_F hg 0 j w hP h hn) w hP (len_F hF hg)) s hs w
set_option maxHeartbeats 4000000 in
set_option maxRecDepth 100000 in
theorem parse_at:Calls Tryz.prog 10 #[.string s] w (WholeQ (programS (exprS (F+1))) #[.slice none 0 0,.slice none 0 0] MemP s w):=by
 have Q:=Lib.hid (wholeP_F hF s hs (w.alloc (.cells #[.slice none 0 0,.slice none 0 0] 26)))
 have HB:=Lib.hid (BoxL.new w [.slice none 0 0,.slice none 0 0] 26)
 have H1:=Lib.hid ((Below.refl w.heap.size w).alloc (Nat.le_refl _) (.cells #[.slice none 0 0,.slice none 0 0] 26))
 clear hs hF
 go_enter Tryz.func10,Tryz.ntmps10
 go_wp2_with fail
 refine Q.out.mono ?_
 rintro en w2 ⟨V,p,er,rfl,hb,ho⟩
 have HB2:=Lib.hid (Below.after H1.out hb (by simp))
 have hs2:w.heap.size+1≤w2.heap.size:=by have:=hb.size;simpa using this
 obtain ⟨c0,c1,f0,f1⟩:=(HB.out.below hb).get2
 have HO:=Lib.hid ho
 clear hb
 obtain ⟨dA,dn,dc,rA,rn,rc,rfl⟩:∃dA dn dc rA rn rc,V=#[.slice dA dn dc,.slice rA rn rc]:=by
  rcases ho with ⟨_,_,x,_,ds,rz,dA,rA,dn,dc,rn,rc,e,_⟩|⟨_,e,_⟩
  ·exact ⟨dA,dn,dc,rA,rn,rc,e⟩
  ·exact ⟨none,0,0,none,0,0,e⟩
 clear ho
 go_wp2_with fail
 refine bodyPost_ret (v:=.tuple #[.agg #[.slice dA dn dc,.slice rA rn rc],.int .i64 (p:Int),.int .i64 er]) (by simp [results,Tryz.results10,go_sem,c0,c1]) rfl ?_
 refine ⟨#[.slice dA dn dc,.slice rA rn rc],p,er,rfl,(HB2.out.setCell (Nat.le_refl _) _).setCell (Nat.le_refl _) _,?_⟩
 rcases HO.out with ⟨h1,h2,x,hx,hm⟩|h
 ·refine .inl ⟨h1,h2,x,hx,hm.frame (by simp) (Nat.le_of_eq (sets2_size w2 w.heap.size _ _).symm) fun b h1 _=>?_⟩
  simp only [World.size_alloc] at h1
  exact sets2_block w2 w.heap.size _ _ (by omega)
 ·exact .inr h
set_option maxHeartbeats 4000000 in
set_option maxRecDepth 100000 in
theorem parse_rule_at:Calls Tryz.prog 13 #[.string s] w (WholeQ (ruleS (exprS (F+1))) ZR MemR s w):=by
 have Q:=Lib.hid (wholeR_F hF s hs (w.alloc (.cells ZR 35)))
 have HB:=Lib.hid (BoxL.new w ZR.toList 35)
 have H1:=Lib.hid ((Below.refl w.heap.size w).alloc (Nat.le_refl _) (.cells ZR 35))
 clear hs hF
 go_enter Tryz.func13,Tryz.ntmps13
 go_wp2_with fail
 refine Q.out.mono ?_
 rintro en w2 ⟨V,p,er,rfl,hb,ho⟩
 have HB2:=Lib.hid (Below.after H1.out hb (by simp))
 have hs2:w.heap.size+1≤w2.heap.size:=by have:=hb.size;simpa using this
 obtain ⟨c0,c1,c2,c3,c4,c5,f0,f1,f2,f3,f4,f5⟩:=(show BoxL w2 w.heap.size [.string ⟨#[]⟩,.slice none 0 0,.slice none 0 0,.slice none 0 0,.slice none 0 0,.int .i64 0] from HB.out.below hb).get6
 have HO:=Lib.hid ho
 clear hb
 obtain ⟨t,kA,kn,kc,rA,rn,rc,gA,gn,gc,bA,bn,bc,n,rfl⟩:∃(t:List UInt8) (kA:Option Addr) (kn kc:Nat) (rA:Option Addr) (rn rc:Nat) (gA:Option Addr) (gn gc:Nat) (bA:Option Addr) (bn bc n:Nat),V=#[.string (S t),.slice kA kn kc,.slice rA rn rc,.slice gA gn gc,.slice bA bn bc,.int .i64 (n:Int)]:=by
  rcases ho with ⟨_,_,x,_,t,ks,rs,gs,bs,kA,rA,gA,bA,kn,kc,rn,rc,gn,gc,bn,bc,n,e,_⟩|⟨_,e,_⟩
  ·exact ⟨t,kA,kn,kc,rA,rn,rc,gA,gn,gc,bA,bn,bc,n,e⟩
  ·exact ⟨[],none,0,0,none,0,0,none,0,0,none,0,0,0,e⟩
 clear ho
 go_wp2_with fail
 refine bodyPost_ret (v:=.tuple #[.agg #[.string (S t),.slice kA kn kc,.slice rA rn rc,.slice gA gn gc,.slice bA bn bc,.int .i64 (n:Int)],.int .i64 (p:Int),.int .i64 er]) (by simp [results,Tryz.results13,go_sem,c0,c1,c2,c3,c4,c5]) rfl ?_
 refine ⟨_,p,er,rfl,(((((HB2.out.setCell (Nat.le_refl _) _).setCell (Nat.le_refl _) _).setCell (Nat.le_refl _) _).setCell (Nat.le_refl _) _).setCell (Nat.le_refl _) _).setCell (Nat.le_refl _) _,?_⟩
 rcases HO.out with ⟨h1,h2,x,hx,hm⟩|h
 ·refine .inl ⟨h1,h2,x,hx,hm.frame (by simp) (Nat.le_of_eq (sets6_size w2 w.heap.size _ _ _ _ _ _).symm) fun b h1 _=>?_⟩
  simp only [World.size_alloc] at h1
  exact sets6_block w2 w.heap.size _ _ _ _ _ _ (by omega)
 ·exact .inr h
end
end Go.Proofs.YtaojnljppcnhjaaGreatDoor
namespace Go.Proofs.YtaojnljppcnhjaaGreatDoor
open Go.RowKit
def GoalsW (F:Nat) (s:ByteArray) (w:World) (en:Ending) (w':World):Prop :=
 ∃(gA zA:Option Addr) (gn gc zn zc:Nat) (p:Nat) (er:Int),en=.returned (.tuple #[.slice gA gn gc,.slice zA zn zc,.int .i64 (p:Int),.int .i64 er])∧Below w.heap.size w w' ∧
  ((er=0∧p=0∧∃x,wholeS (quS (exprS (F+1))) s=.ok x∧MemQ w.heap.size w' #[.slice gA gn gc,.slice zA zn zc] x)∨(er≠0∧gA=none∧gn=0∧gc=0∧zA=none∧zn=0∧zc=0∧wholeS (quS (exprS (F+1))) s=.error (p,er)))
section
variable {F:Nat} (hF:16384≤F) (s:ByteArray) (hs:s.size≤100000) (w:World)
include hF hs
set_option maxHeartbeats 4000000 in
set_option maxRecDepth 100000 in
theorem parse_goals_at:Calls Tryz.prog 16 #[.string s] w (GoalsW F s w):=by
 have Q:=Lib.hid (wholeQ_F hF s hs w)
 clear hs hF
 go_enter Tryz.func16,Tryz.ntmps16
 go_wp2_with fail
 refine Q.out.mono ?_
 rintro en w2 ⟨V,p,er,rfl,hb,ho⟩
 have HB2:=Lib.hid hb
 have HO:=Lib.hid ho
 obtain ⟨gA,gn,gc,zA,zn,zc,rfl⟩:∃gA gn gc zA zn zc,V=#[.slice gA gn gc,.slice zA zn zc]:=by
  rcases ho with ⟨_,_,x,_,gs,ns,gA,zA,gn,gc,zn,zc,e,_⟩|⟨_,e,_⟩
  ·exact ⟨gA,gn,gc,zA,zn,zc,e⟩
  ·exact ⟨none,0,0,none,0,0,e⟩
 obtain ⟨c0,c1,_,_⟩:=(BoxL.new w2 [.slice gA gn gc,.slice zA zn zc] 79).get2
 clear ho hb
 go_wp2_with fail
 go_region
 go_wp2_with fail
 refine bodyPost_ret (v:=.tuple #[.slice gA gn gc,.slice zA zn zc,.int .i64 (p:Int),.int .i64 er]) (by simp [results,Tryz.results16,go_sem]) rfl ?_
 refine ⟨gA,zA,gn,gc,zn,zc,p,er,rfl,?_,?_⟩
 ·first|exact (HB2.out.alloc HB2.out.size _).drew|exact HB2.out.alloc HB2.out.size _
 ·rcases HO.out with ⟨h1,h2,x,hx,hm⟩|⟨h1,h2,h3⟩
  ·refine .inl ⟨h1,h2,x,hx,hm.frame (Nat.le_refl _) (by first|exact Nat.le_of_lt (by simp [World.drew])|simp) fun b _ h2=>?_⟩
   exact Below.heap_alloc w2 _ b h2
  ·injection h2 with h2
   injection h2 with a1 h2
   injection h2 with a2 _
   injection a1 with b1 b2 b3
   injection a2 with b4 b5 b6
   exact .inr ⟨h1,b1,b2,b3,b4,b5,b6,h3⟩
end
end Go.Proofs.YtaojnljppcnhjaaGreatDoor
namespace Go.Proofs.YtaojnljppcnhjaaGreatDoor
open Go.RowKit
def MemQz (lo:Nat) (w':World) (V:Array Value) (x:List Gs×List (List UInt8)):Prop:=∃(gs:List Gl) (ns:List (List UInt8)) (gA zA:Option Addr) (gn gc zn zc:Nat),V=#[.slice gA gn gc,.slice zA zn zc]∧x=(gs.map sG,ns)∧RowZ elGl 54 lo Z0 w' (.slice gA gn gc) gs∧w'.ownsRow lo 9 1 (.slice zA zn zc) ns.length (nmC ns)
def GoalsZ (F:Nat) (s:ByteArray) (w:World) (en:Ending) (w':World):Prop :=
 ∃(gA zA:Option Addr) (gn gc zn zc:Nat) (p:Nat) (er:Int),en=.returned (.tuple #[.slice gA gn gc,.slice zA zn zc,.int .i64 (p:Int),.int .i64 er])∧Below w.heap.size w w' ∧
  ((er=0∧p=0∧∃x,wholeS (quS (exprS (F+1))) s=.ok x∧MemQz w.heap.size w' #[.slice gA gn gc,.slice zA zn zc] x)∨(er≠0∧gA=none∧gn=0∧gc=0∧zA=none∧zn=0∧zc=0∧wholeS (quS (exprS (F+1))) s=.error (p,er)))
structure QuZ (A:Option Addr) (c:Nat) (l:List Tk) (w w3:World) (base q:Nat) (z:Value) (ns:List (List UInt8)) (a:Nat) (gs:List Gl) (gA:Option Addr) (gc:Nat) (V:Option Addr) (vc:Nat) (U:List Int) (j:Nat) (done:List Gl) (wr:World):Prop where
 bel:Below w.heap.size w wr
 p:Pr wr w3.heap.size A c l q z ns a 0
 row:RowZ elGl 54 (w3.heap.size+1) z wr (.slice gA gs.length gc) (done++gs.drop j)
 own:OwnI wr base (.slice V U.length vc) U
 top:base≤wr.heap.size
 num:NumG (placeS U) base gs done j
 zT:∀k,z.ownBlock=some k→k < base
theorem RowZ.fz {α:Type} {E:Elt α} {T:TypeId} {lo g n cap:Nat} {z:Value} {w:World} {xs:List α} (h:RowZ E T lo z w (.slice (some ⟨g,0,none⟩) n cap) xs) (h0:0 < xs.length):∀j,w.frozen? ⟨g,j,none⟩=false:=by
 rcases h.row.2 with ⟨_,h1⟩|⟨g',cap',cur,e,hb,hg,_⟩
 ·omega
 ·injection e with e1 e2 e3
  injection e1 with e1
  injection e1 with e1 _ _
  subst e1
  intro j
  simp [World.frozen?,hg]
def namesT (ns:List (List UInt8)) (us:List Int):List (List UInt8):=us.map fun v=>ns.getD v.toNat []
section
variable {F:Nat} (hF:16384≤F) (s:ByteArray) (hs:s.size≤100000) (w:World)
include hF hs
end
end Go.Proofs.YtaojnljppcnhjaaGreatDoor
namespace Go.Proofs.YtaojnljppcnhjaaGreatDoor
open Go.RowKit
def elNm:Elt (List UInt8):=⟨1,fun x=>[.string (S x)],fun _=>rfl,fun x v hv=>by
 simp only [List.mem_cons,List.not_mem_nil,or_false] at hv
 rcases hv with rfl
 rfl,fun _=>[],fun _ _=>True,fun h _=>h⟩
theorem nm_cells (ns:List (List UInt8)):elNm.cellsL ns=nmC ns:=by
 induction ns with
 | nil=>rfl
 | cons a r ih =>
  simp only [Elt.cellsL,nmC,List.flatMap_cons,List.map_cons] at ih ⊢
  rw [ih]
  rfl
theorem nm_blk (ns:List (List UInt8)):elNm.blkL ns=[]:=by
 rw [Elt.blkL,List.flatMap_eq_nil_iff]
 exact fun _ _=>rfl
section
variable {α:Type}
structure RdB (E:Elt α) (w:World) (B:Option Addr) (xs:List α):Prop where
 rd:RdL E w B xs
 bd:∀b∈blkR E B xs,b < w.heap.size
variable {E:Elt α} {w w':World} {B:Option Addr} {xs:List α} {T:TypeId} {lo n c:Nat}
theorem RdB.below (h:RdB E w B xs) (hb:Below w.heap.size w w'):RdB E w' B xs:=⟨h.rd.frame fun b hx=>hb.block b (h.bd b hx),fun b hx=>Nat.lt_of_lt_of_le (h.bd b hx) hb.size⟩
theorem RdB.nil (E:Elt α) (w:World):RdB E w none []:=⟨⟨fun _ h=>(by cases h),fun h=>(by simp at h)⟩,fun b h=>(by simp [blkR,blkA,Elt.blkL] at h)⟩
theorem RdB.get [Inhabited α] (h:RdB E w B xs) {i:Nat} (hi:i < xs.length):∃g,B=some ⟨g,0,none⟩∧E.At w (xs.getD i default)∧∀j u,(E.cells (xs.getD i default))[j]?=some u→w.cell? ⟨g,i*E.k+j,none⟩=some u:=by
 obtain ⟨g,e,hr⟩:=h.rd.row (by omega)
 refine ⟨g,e,h.rd.at_ _ (getD_in hi),fun j u hu=>hr _ _ ?_⟩
 have hj:j < E.k:=by
  have:=(List.getElem?_eq_some_iff.1 hu).1
  rwa [E.len] at this
 rw [E.cellsL_get xs hi hj]
 exact hu
theorem RdB.elt (h:RdB E w B xs) {x:α} (hx:x∈xs):∀b∈E.blk x,b < w.heap.size:=fun b hb=>h.bd b (List.mem_append.2 (.inr (List.mem_flatMap.2 ⟨x,hx,hb⟩)))
theorem own_rd (h:w.ownsRow lo T E.k (.slice B n c) xs.length (E.cellsL xs)) (hat:∀x∈xs,E.At w x) (hbd:∀b∈E.blkL xs,b < w.heap.size):n=xs.length∧n≤maxLen∧RdB E w B xs:=by
 rcases h.2 with ⟨e,h1⟩|⟨g,cap,cur,e,hb,hg,hle,hcap,hcs,hcur⟩
 ·injection e with e1 e2 e3
  subst e1 e2
  exact ⟨h1.symm,by unfold maxLen;omega,⟨hat,fun h0=>by omega⟩,fun b hx=>by
   rcases List.mem_append.1 hx with hx|hx
   ·simp [blkA,blkO] at hx
   ·exact hbd b hx⟩
 ·injection e with e1 e2 e3
  subst e1 e2 e3
  have hlt:=own_lt h g rfl
  refine ⟨rfl,by omega,⟨hat,fun _=>⟨g,rfl,fun j u hu=>?_⟩⟩,fun b hx=>?_⟩
  ·have hj:j < (E.cellsL xs).length:=(List.getElem?_eq_some_iff.1 hu).1
   rw [Elt.cellsL_len] at hj
   rw [World.ownsRow.cellAt h j hj]
   exact hu
  ·rcases List.mem_append.1 hx with hx|hx
   ·have e:b=g:=by
     unfold blkA at hx
     split at hx
     ·cases hx
     ·simpa [blkO] using hx
    subst e
    exact hlt.2
   ·exact hbd b hx
theorem RowG.rdb (h:RowG E T lo w (.slice B n c) xs):n=xs.length∧n≤maxLen∧RdB E w B xs:=own_rd h.row h.sit.at_ fun b hb=>(h.sit.bd b hb).2
theorem RowZ.rdb {z:Value} (h:RowZ E T lo z w (.slice B n c) xs):n=xs.length∧n≤maxLen∧RdB E w B xs:=own_rd h.row h.sit.at_ fun b hb=>(h.sit.bd b hb).2
end
structure RuB (w:World) (u:Ru):Prop where
 t:u.t.length≤16384
 k:RdB elAm w u.kA u.ks
 r:RdB elAm w u.rA u.rs
 g:RdB elGl w u.gA u.gs
 b:RdB elGl w u.bA u.bs
theorem RuB.below {w w':World} {u:Ru} (h:RuB w u) (hb:Below w.heap.size w w'):RuB w' u:=⟨h.t,h.k.below hb,h.r.below hb,h.g.below hb,h.b.below hb⟩
theorem ru_at {w:World} {u:Ru} (h:elRu.At w u) (hb:∀b∈elRu.blk u,b < w.heap.size):RuB w u :=
 ⟨h.1,⟨h.2.1.1,fun b hx=>hb b (List.mem_append.2 (.inl (List.mem_append.2 (.inl hx))))⟩,⟨h.2.1.2,fun b hx=>hb b (List.mem_append.2 (.inl (List.mem_append.2 (.inr hx))))⟩,
  ⟨h.2.2.1,fun b hx=>hb b (List.mem_append.2 (.inr (List.mem_append.2 (.inl hx))))⟩,⟨h.2.2.2,fun b hx=>hb b (List.mem_append.2 (.inr (List.mem_append.2 (.inr hx))))⟩⟩
theorem ru_of_at {lo:Nat} {w:World} {u:Ru} (h:u.At lo w):elRu.At w u∧∀b∈elRu.blk u,b < w.heap.size:=by
 have hk:=(show RowG elAm 92 lo w (.slice u.kA u.ks.length u.kc) u.ks from h.k).rdb.2.2
 have hr:=(show RowG elAm 92 lo w (.slice u.rA u.rs.length u.rc) u.rs from h.r).rdb.2.2
 have hg:=(show RowG elGl 54 lo w (.slice u.gA u.gs.length u.gc) u.gs from h.g).rdb.2.2
 have hb:=(show RowG elGl 54 lo w (.slice u.bA u.bs.length u.bc) u.bs from h.b).rdb.2.2
 refine ⟨⟨h.name,⟨hk.rd,hr.rd⟩,⟨hg.rd,hb.rd⟩⟩,fun b hx=>?_⟩
 rcases List.mem_append.1 hx with hx|hx<;>rcases List.mem_append.1 hx with hx|hx
 ·exact hk.bd b hx
 ·exact hr.bd b hx
 ·exact hg.bd b hx
 ·exact hb.bd b hx
def RdP (w:World) (V:Array Value) (x:List Dl×List Rs):Prop:=∃(ds:List Dl) (rz:List Ru) (dA rA:Option Addr) (dc rc:Nat),V=#[.slice dA ds.length dc,.slice rA rz.length rc]∧x=(ds,rz.map Ru.p)∧RdB elDl w dA ds∧RdB elRu w rA rz
def RdR (w:World) (V:Array Value) (x:Rs):Prop:=∃u:Ru,V=u.cells.toArray∧x=u.p∧RuB w u
def RdQ (w:World) (V:Array Value) (x:List Gs×List (List UInt8)):Prop:=∃(gs:List Gl) (ns:List (List UInt8)) (gA zA:Option Addr) (gc zc:Nat),V=#[.slice gA gs.length gc,.slice zA ns.length zc]∧x=(gs.map sG,ns)∧ns.length≤maxLen∧RdB elGl w gA gs∧RdB elNm w zA ns
section
variable {w w':World} {V:Array Value}
theorem RdP.below {x:List Dl×List Rs} (h:RdP w V x) (hb:Below w.heap.size w w'):RdP w' V x:=by
 obtain ⟨ds,rz,dA,rA,dc,rc,e1,e2,h1,h2⟩:=h
 exact ⟨ds,rz,dA,rA,dc,rc,e1,e2,h1.below hb,h2.below hb⟩
theorem RdR.below {x:Rs} (h:RdR w V x) (hb:Below w.heap.size w w'):RdR w' V x:=by
 obtain ⟨u,e1,e2,h1⟩:=h
 exact ⟨u,e1,e2,h1.below hb⟩
theorem RdQ.below {x:List Gs×List (List UInt8)} (h:RdQ w V x) (hb:Below w.heap.size w w'):RdQ w' V x:=by
 obtain ⟨gs,ns,gA,zA,gc,zc,e1,e2,h0,h1,h2⟩:=h
 exact ⟨gs,ns,gA,zA,gc,zc,e1,e2,h0,h1.below hb,h2.below hb⟩
variable {lo:Nat}
theorem MemP.rd {x:List Dl×List Rs} (h:MemP lo w V x):RdP w V x:=by
 obtain ⟨ds,rz,dA,rA,dn,dc,rn,rc,e1,e2,hd,hr⟩:=h
 obtain ⟨a1,_,a2⟩:=hd.rdb
 have hrow:w.ownsRow lo 35 elRu.k (.slice rA rn rc) rz.length (elRu.cellsL rz):=hr.row
 obtain ⟨b1,_,b2⟩:=own_rd hrow (fun x hx=>(ru_of_at (hr.at_ x hx)).1) fun b hb=>by
  obtain ⟨x,hx,hb⟩:=List.mem_flatMap.1 hb
  exact (ru_of_at (hr.at_ x hx)).2 b hb
 subst a1 b1
 exact ⟨ds,rz,dA,rA,dc,rc,e1,e2,a2,b2⟩
theorem MemPz.rd {x:List Dl×List Rs} (h:MemPz lo w V x):RdP w V x:=by
 obtain ⟨ds,rz,dA,rA,dn,dc,rn,rc,e1,e2,hd,hr⟩:=h
 obtain ⟨a1,_,a2⟩:=hd.rdb
 obtain ⟨b1,_,b2⟩:=hr.rdb
 subst a1 b1
 exact ⟨ds,rz,dA,rA,dc,rc,e1,e2,a2,b2⟩
theorem MemR.rd {x:Rs} (h:MemR lo w V x):RdR w V x:=by
 obtain ⟨t,ks,rs,gs,bs,kA,rA,gA,bA,kn,kc,rn,rc,gn,gc,bn,bc,n,e1,e2,hm⟩:=h
 obtain ⟨a1,a2,a3,a4,ha⟩:=ru_of (n:=n) hm
 subst a1 a2 a3 a4
 obtain ⟨h1,h2⟩:=ru_of_at ha
 exact ⟨⟨t,ks,rs,gs,bs,kA,kc,rA,rc,gA,gc,bA,bc,n⟩,e1,e2,ru_at h1 h2⟩
theorem MemRz.rd {x:Rs} (h:MemRz lo w V x):RdR w V x:=by
 obtain ⟨u,e1,e2,hm⟩:=h
 exact ⟨u,e1,e2,ru_at (hm.at_ u (List.mem_singleton.2 rfl)) fun b hb=>(hm.bd b (by rw [Elt.blkL_one];exact hb)).2⟩
theorem nm_rd {zA:Option Addr} {zn zc:Nat} {ns:List (List UInt8)} (h:w.ownsRow lo 9 1 (.slice zA zn zc) ns.length (nmC ns)):zn=ns.length∧zn≤maxLen∧RdB elNm w zA ns :=
 own_rd (E:=elNm) (by rw [nm_cells];exact h) (fun _ _=>trivial) fun b hb=>by rw [nm_blk] at hb;cases hb
theorem MemQ.rd {x:List Gs×List (List UInt8)} (h:MemQ lo w V x):RdQ w V x:=by
 obtain ⟨gs,ns,gA,zA,gn,gc,zn,zc,e1,e2,hg,hz⟩:=h
 obtain ⟨a1,_,a2⟩:=hg.rdb
 obtain ⟨b1,b3,b2⟩:=nm_rd hz
 subst a1 b1
 exact ⟨gs,ns,gA,zA,gc,zc,e1,e2,b3,a2,b2⟩
theorem MemQz.rd {x:List Gs×List (List UInt8)} (h:MemQz lo w V x):RdQ w V x:=by
 obtain ⟨gs,ns,gA,zA,gn,gc,zn,zc,e1,e2,hg,hz⟩:=h
 obtain ⟨a1,_,a2⟩:=hg.rdb
 obtain ⟨b1,b3,b2⟩:=nm_rd hz
 subst a1 b1
 exact ⟨gs,ns,gA,zA,gc,zc,e1,e2,b3,a2,b2⟩
end
theorem whole_read {α:Type} {f:List Tok→PS α} {s:ByteArray} {x:α} (h:wholeS f s=.ok x):∃r ns,f (leftT (scanP s).1 0)=.ok x r ns:=by
 unfold wholeS at h
 split at h
 ·cases h
 ·split at h
  ·rename_i v r ns hv
   injection h with h
   subst h
   unfold onlyS at hv
   split at hv
   ·rename_i v2 r2 ns2 hf
    split at hv
    ·injection hv with h1 h2 h3
     subst h1
     exact ⟨_,_,hf⟩
    ·cases hv
   ·cases hv
  ·cases h
theorem whole_P_ok {F:Nat} {s:ByteArray} {x:List Dl×List Rs} (h:wholeS (programS (exprS F)) s=.ok x):x.1.length≤30∧x.2.length≤40∧∀q∈x.2,RuleOk q:=by
 obtain ⟨r,ns,h⟩:=whole_read h
 exact program_ok (d:=x.1) (l:=x.2) h
theorem whole_R_ok {F:Nat} {s:ByteArray} {x:Rs} (h:wholeS (ruleS (exprS F)) s=.ok x):RuleOk x:=by
 obtain ⟨r,ns,h⟩:=whole_read h
 exact rule_ok h
end Go.Proofs.YtaojnljppcnhjaaGreatDoor
namespace Go.Proofs.YtaojnljppcnhjaaGreatDoor
open Go.RowKit Go.Sort
theorem stripL_get {l m:List Tm} (h:stripL l=stripL m) (i:Nat):(l.getD i default).strip=(m.getD i default).strip:=by
 rw [stripL_map,stripL_map] at h
 have e:∀x:List Tm,(x.getD i default).strip=(x.map Tm.strip).getD i default:=fun x=>by
  rw [List.getD_eq_getElem?_getD,List.getD_eq_getElem?_getD,List.getElem?_map]
  cases x[i]?<;>rfl
 rw [e,e,h]
theorem box88 {w w':World} {v0 v1 v2 v3 u0 u1 u2 u3:Value} {T:TypeId}
  (hb:Below ((w.alloc (.cells #[v0,v1,v2,v3] T)).alloc (.cells #[u0,u1,u2,u3] T)).heap.size ((w.alloc (.cells #[v0,v1,v2,v3] T)).alloc (.cells #[u0,u1,u2,u3] T)) w') :
  (w'.cell? ⟨w.heap.size,0,none⟩=some v0∧w'.cell? ⟨w.heap.size,1,none⟩=some v1∧w'.cell? ⟨w.heap.size,2,none⟩=some v2∧w'.cell? ⟨w.heap.size,3,none⟩=some v3) ∧
  (w'.cell? ⟨w.heap.size+1,0,none⟩=some u0∧w'.cell? ⟨w.heap.size+1,1,none⟩=some u1∧w'.cell? ⟨w.heap.size+1,2,none⟩=some u2∧w'.cell? ⟨w.heap.size+1,3,none⟩=some u3)∧Below w.heap.size w w':=by
 have hz:(w.alloc (.cells #[v0,v1,v2,v3] T)).heap.size=w.heap.size+1:=by simp
 have h:∀j,w'.cell? ⟨w.heap.size,j,none⟩=(#[v0,v1,v2,v3]:Array Value)[j]?:=fun j=>by
  rw [hb.cell (p:=⟨w.heap.size,j,none⟩) (by simp;omega),World.cell?_alloc_lt _ _ _ (by simp),World.cell?_alloc_at _ _ _ _ rfl]
 have g:∀j,w'.cell? ⟨w.heap.size+1,j,none⟩=(#[u0,u1,u2,u3]:Array Value)[j]?:=fun j=>by
  rw [hb.cell (p:=⟨w.heap.size+1,j,none⟩) (by simp),World.cell?_alloc_at _ _ _ _ hz.symm]
 exact ⟨⟨h 0,h 1,h 2,h 3⟩,⟨g 0,g 1,g 2,g 3⟩,(((Below.refl _ _).alloc (Nat.le_refl _) _).alloc (by simp) _).trans (hb.mono (by simp;omega))⟩
set_option maxHeartbeats 4000000 in
theorem same4_at (t:Tm):∀(u:Tm) (w:World),t.strip=u.strip→t.At w→u.At w →
  Calls Tryz.prog 64 #[t.val,u.val] w fun e w'=>e=.returned (.bool true)∧Below w.heap.size w w':=by
 induction t using Tm.induct with
 | h k n s A c a ih =>
  intro u w hs ht hu
  obtain ⟨k',n',s',A',c',a'⟩:=u
  obtain ⟨h1,h2,h3,h4,h5⟩:=strip_parts hs
  simp only [Tm.kind,Tm.num,Tm.name,Tm.args] at h1 h2 h3 h4 h5
  subst h1 h2 h3
  have hl:Lst w A a c:=ht.lst
  have hm:Lst w A' a' c':=hu.lst
  have hlen:a.length≤9223372036854775807:=by have:=hl.1;have:=hl.2.1;unfold maxLen at *;omega
  have H5:=Lib.hid h5
  have H4:=Lib.hid h4
  have HL:=Lib.hid hl
  have HM:=Lib.hid hm
  have QI:=Lib.hid ih
  show Calls Tryz.prog 64 #[.agg #[.int .i64 k,.int .i64 n,.string s,.slice A a.length c],.agg #[.int .i64 k,.int .i64 n,.string s,.slice A' a'.length c']] w _
  rw [←h4]
  clear hs ht hu hl hm ih h4 h5
  go_enter Tryz.func64,Tryz.ntmps64
  go_wp2_with fail
  go_loopw [37] (fun i wr=>∃j:Nat,j≤a.length∧i=.int .i64 j∧Below ((w.alloc (.cells #[.int .i64 k,.int .i64 n,.string s,.slice A a.length c] 56)).alloc (.cells #[.int .i64 k,.int .i64 n,.string s,.slice A' a.length c'] 56)).heap.size ((w.alloc (.cells #[.int .i64 k,.int .i64 n,.string s,.slice A a.length c] 56)).alloc (.cells #[.int .i64 k,.int .i64 n,.string s,.slice A' a.length c'] 56)) wr) (fun i _=>a.length - (intOf i).toNat)
  case atStart=>exact ⟨0,Nat.zero_le _,rfl,Below.refl _ _⟩
  case round =>
   obtain ⟨j,hj,rfl,hbb⟩:=hrel
   obtain ⟨⟨_,_,_,d3⟩,⟨_,_,_,e3⟩,hbw⟩:=box88 hbb
   by_cases hlt:j < a.length
   ·have hlt':j < a'.length:=by rw [←H4.out];exact hlt
    obtain ⟨b,o,rfl,⟨c0,c1,c2,c3⟩,hx⟩:=(HL.out.below hbw).get hlt
    obtain ⟨b',o',rfl,⟨g0,g1,g2,g3⟩,hy⟩:=(HM.out.below hbw).get hlt'
    have hmem:=getD_mem hlt
    have hst:=stripL_get H5.out j
    generalize a.getD j default=x at *
    generalize a'.getD j default=y at *
    have Q1:=Lib.hid (fun W (h:Below wr.heap.size wr W)=>QI.out x hmem y W hst (hx.below h) (hy.below h))
    clear hx hy QI hmem hst hlt'
    obtain ⟨k1,n1,s1,A1,p1,a1⟩:=x
    obtain ⟨k2,n2,s2,A2,p2,a2⟩:=y
    simp only [Tm.kind,Tm.num,Tm.name,Tm.at_,Tm.args,Tm.cap] at c0 c1 c2 c3 g0 g1 g2 g3
    have kc0:=cell_regrown c0
    have kc1:=cell_regrown c1
    have kc2:=cell_regrown c2
    have kc3:=cell_regrown c3
    have kg0:=cell_regrown g0
    have kg1:=cell_regrown g1
    have kg2:=cell_regrown g2
    have kg3:=cell_regrown g3
    have kd3:=cell_regrown d3
    have ke3:=cell_regrown e3
    go_wp2_with fail
    refine wp_region_quiet_below (by kernel_rfl) (by kernel_rfl) ?_
    repeat (go_big_quiet_step ((go_at_call 64;exact Calls.regrown_of (Q1.out _ (below_regrown _ _ _)))))
    refine wpQuiet_nil ?_
    intro w1 hw'
    have hb4:=hbb.trans ((regrown_below hw').mono hbb.size)
    clear kc0 kc1 kc2 kc3 kg0 kg1 kg2 kg3 kd3 ke3 hw'
    go_wp2_with fail
    go_roundw
    case rel=>exact ⟨j+1,by omega,by go_num,hb4⟩
    case measure=>simp [intOf];omega
   ·obtain rfl:j=a.length:=by omega
    clear QI
    go_wp2_with fail
    go_ret
    exact ⟨rfl,hbw⟩
set_option maxHeartbeats 4000000 in
theorem lw_terms_at (a a':List Tm) (A A':Option Addr) (c c':Nat) (w:World) (hs:stripL a=stripL a') (hl:Lst w A a c) (hm:Lst w A' a' c') :
  Calls Tryz.prog 38 #[.slice A a.length c,.slice A' a'.length c'] w fun e w'=>e=.returned (.bool true)∧Below w.heap.size w w':=by
 have h4:a.length=a'.length:=by have:=congrArg List.length hs;simpa [stripL_len] using this
 have hlen:a.length≤9223372036854775807:=by have:=hl.1;have:=hl.2.1;unfold maxLen at *;omega
 have H5:=Lib.hid hs
 have H4:=Lib.hid h4
 have HL:=Lib.hid hl
 have HM:=Lib.hid hm
 rw [←h4]
 clear hs hl hm h4
 go_enter Tryz.func38,Tryz.ntmps38
 go_wp2_with fail
 go_loopw [13] (fun i wr=>∃j:Nat,j≤a.length∧i=.int .i64 j∧Below w.heap.size w wr) (fun i _=>a.length - (intOf i).toNat)
 case atStart=>exact ⟨0,Nat.zero_le _,rfl,Below.refl _ _⟩
 case round =>
  obtain ⟨j,hj,rfl,hbw⟩:=hrel
  by_cases hlt:j < a.length
  ·have hlt':j < a'.length:=by rw [←H4.out];exact hlt
   obtain ⟨b,o,rfl,⟨c0,c1,c2,c3⟩,hx⟩:=(HL.out.below hbw).get hlt
   obtain ⟨b',o',rfl,⟨g0,g1,g2,g3⟩,hy⟩:=(HM.out.below hbw).get hlt'
   have hst:=stripL_get H5.out j
   generalize a.getD j default=x at *
   generalize a'.getD j default=y at *
   have Q1:=Lib.hid (fun W (h:Below wr.heap.size wr W)=>same4_at x y W hst (hx.below h) (hy.below h))
   clear hx hy hst hlt'
   obtain ⟨k1,n1,s1,A1,p1,a1⟩:=x
   obtain ⟨k2,n2,s2,A2,p2,a2⟩:=y
   simp only [Tm.kind,Tm.num,Tm.name,Tm.at_,Tm.args,Tm.cap] at c0 c1 c2 c3 g0 g1 g2 g3
   have kc0:=cell_regrown c0
   have kc1:=cell_regrown c1
   have kc2:=cell_regrown c2
   have kc3:=cell_regrown c3
   have kg0:=cell_regrown g0
   have kg1:=cell_regrown g1
   have kg2:=cell_regrown g2
   have kg3:=cell_regrown g3
   go_wp2_with fail
   refine wp_region_quiet_below (by kernel_rfl) (by kernel_rfl) ?_
   repeat (go_big_quiet_step ((go_at_call 64;exact Calls.regrown_of (Q1.out _ (below_regrown _ _ _)))))
   refine wpQuiet_nil ?_
   intro w1 hw'
   have hb4:=hbw.trans ((regrown_below hw').mono hbw.size)
   clear kc0 kc1 kc2 kc3 kg0 kg1 kg2 kg3 hw'
   go_wp2_with fail
   go_roundw
   case rel=>exact ⟨j+1,by omega,by go_num,hb4⟩
   case measure=>simp [intOf];omega
  ·obtain rfl:j=a.length:=by omega
   go_wp2_with fail
   go_ret
   exact ⟨rfl,hbw⟩
theorem atoms_same {l m:List Am} (h:l.map sA=m.map sA) {i:Nat} (hi:i < l.length):sA (l.getD i default)=sA (m.getD i default):=by
 have hm:i < m.length:=by have:=congrArg List.length h;simp at this;omega
 have e:=congrArg (fun x=>x[i]?) h
 simp only [List.getElem?_map,List.getElem?_eq_getElem hi,List.getElem?_eq_getElem hm,Option.map_some,Option.some.injEq] at e
 simpa [List.getD,hi,hm] using e
set_option maxHeartbeats 4000000 in
theorem lw_atoms_at (a a':List Am) (A A':Option Addr) (c c':Nat) (w:World) (hs:a.map sA=a'.map sA) (hlen:a.length≤1000) (hl:RdB elAm w A a) (hm:RdB elAm w A' a') :
  Calls Tryz.prog 32 #[.slice A a.length c,.slice A' a'.length c'] w fun e w'=>e=.returned (.bool true)∧Below w.heap.size w w':=by
 have h4:a.length=a'.length:=by have:=congrArg List.length hs;simpa using this
 have H5:=Lib.hid (fun i (hi:i < a.length)=>atoms_same hs hi)
 have H4:=Lib.hid h4
 have HL:=Lib.hid hl
 have HM:=Lib.hid hm
 rw [←h4]
 clear hs hl hm h4
 go_enter Tryz.func32,Tryz.ntmps32
 go_wp2_with fail
 go_loopw [13] (fun i wr=>∃j:Nat,j≤a.length∧i=.int .i64 j∧Below w.heap.size w wr) (fun i _=>a.length - (intOf i).toNat)
 case atStart=>exact ⟨0,Nat.zero_le _,rfl,Below.refl _ _⟩
 case round =>
  obtain ⟨j,hj,rfl,hbw⟩:=hrel
  by_cases hlt:j < a.length
  ·have hlt':j < a'.length:=by rw [←H4.out];exact hlt
   obtain ⟨g,hA,hx,hc⟩:=(HL.out.below hbw).get hlt
   obtain ⟨g',hA',hy,hg⟩:=(HM.out.below hbw).get hlt'
   subst hA hA'
   have hst:=H5.out j hlt
   have c0:wr.cell? ⟨g,j*2,none⟩=_:=hc 0 _ rfl
   have g0:wr.cell? ⟨g',j*2,none⟩=_:=hg 0 _ rfl
   have c1:wr.cell? ⟨g,j*2+1,none⟩=_:=hc 1 _ rfl
   have g1:wr.cell? ⟨g',j*2+1,none⟩=_:=hg 1 _ rfl
   clear hc hg
   generalize a.getD j default=x at *
   generalize a'.getD j default=y at *
   obtain ⟨s1,A1,p1,a1⟩:=x
   obtain ⟨s2,A2,p2,a2⟩:=y
   obtain ⟨e1,e3⟩:=Prod.mk.inj hst
   simp only at e1 e3
   obtain rfl:s2=s1:=WideShapes.bytes_inj e1.symm
   clear e1
   simp only at c0 g0 c1 g1
   have kc0:=cell_regrown c0
   have kg0:=cell_regrown g0
   have kc1:=cell_regrown c1
   have kg1:=cell_regrown g1
   have hxl:Lst wr A1 a1 p1:=hx.1.2
   have hyl:Lst wr A2 a2 p2:=hy.1.2
   have Q1:=Lib.hid (fun W (h:Below wr.heap.size wr W)=>lw_terms_at a1 a2 A1 A2 p1 p2 W e3 (hxl.below h) (hyl.below h))
   clear hx hy hst hxl hyl hlt' e3
   go_wp2_with fail
   refine wp_region_quiet_below (by kernel_rfl) (by kernel_rfl) ?_
   repeat (go_big_quiet_step ((go_at_call 38;exact Calls.regrown_of (Q1.out _ (below_regrown _ _ _)))))
   refine wpQuiet_nil ?_
   intro w1 hw'
   have hb4:=hbw.trans ((regrown_below hw').mono hbw.size)
   clear kc0 kc1 kg0 kg1 hw'
   go_wp2_with fail
   go_roundw
   case rel=>exact ⟨j+1,by omega,by go_num,hb4⟩
   case measure=>simp [intOf];omega
  ·obtain rfl:j=a.length:=by omega
   go_wp2_with fail
   go_ret
   exact ⟨rfl,hbw⟩
theorem goals_same {l m:List Gl} (h:l.map sG=m.map sG) {i:Nat} (hi:i < l.length):sG (l.getD i default)=sG (m.getD i default):=by
 have hm:i < m.length:=by have:=congrArg List.length h;simp at this;omega
 have e:=congrArg (fun x=>x[i]?) h
 simp only [List.getElem?_map,List.getElem?_eq_getElem hi,List.getElem?_eq_getElem hm,Option.map_some,Option.some.injEq] at e
 simpa [List.getD,hi,hm] using e
set_option maxHeartbeats 4000000 in
theorem lw_goals_at (a a':List Gl) (A A':Option Addr) (c c':Nat) (w:World) (hs:a.map sG=a'.map sG) (hlen:a.length≤1000) (hl:RdB elGl w A a) (hm:RdB elGl w A' a') :
  Calls Tryz.prog 18 #[.slice A a.length c,.slice A' a'.length c'] w fun e w'=>e=.returned (.bool true)∧Below w.heap.size w w':=by
 have h4:a.length=a'.length:=by have:=congrArg List.length hs;simpa using this
 have H5:=Lib.hid (fun i (hi:i < a.length)=>goals_same hs hi)
 have H4:=Lib.hid h4
 have HL:=Lib.hid hl
 have HM:=Lib.hid hm
 rw [←h4]
 clear hs hl hm h4
 go_enter Tryz.func18,Tryz.ntmps18
 go_wp2_with fail
 go_loopw [13] (fun i wr=>∃j:Nat,j≤a.length∧i=.int .i64 j∧Below w.heap.size w wr) (fun i _=>a.length - (intOf i).toNat)
 case atStart=>exact ⟨0,Nat.zero_le _,rfl,Below.refl _ _⟩
 case round =>
  obtain ⟨j,hj,rfl,hbw⟩:=hrel
  by_cases hlt:j < a.length
  ·have hlt':j < a'.length:=by rw [←H4.out];exact hlt
   obtain ⟨g,hA,hx,hc⟩:=(HL.out.below hbw).get hlt
   obtain ⟨g',hA',hy,hg⟩:=(HM.out.below hbw).get hlt'
   subst hA hA'
   have hst:=H5.out j hlt
   have c0:wr.cell? ⟨g,j*3,none⟩=_:=hc 0 _ rfl
   have g0:wr.cell? ⟨g',j*3,none⟩=_:=hg 0 _ rfl
   have c1:wr.cell? ⟨g,j*3+1,none⟩=_:=hc 1 _ rfl
   have g1:wr.cell? ⟨g',j*3+1,none⟩=_:=hg 1 _ rfl
   have c2:wr.cell? ⟨g,j*3+2,none⟩=_:=hc 2 _ rfl
   have g2:wr.cell? ⟨g',j*3+2,none⟩=_:=hg 2 _ rfl
   clear hc hg
   generalize a.getD j default=x at *
   generalize a'.getD j default=y at *
   obtain ⟨o1,s1,A1,p1,a1⟩:=x
   obtain ⟨o2,s2,A2,p2,a2⟩:=y
   obtain ⟨e1,e0⟩:=Prod.mk.inj hst
   obtain ⟨e2,e3⟩:=Prod.mk.inj e0
   simp only at e1 e2 e3
   subst e1
   obtain rfl:s2=s1:=WideShapes.bytes_inj e2.symm
   clear e2 e0
   simp only at c0 g0 c1 g1 c2 g2
   have kc0:=cell_regrown c0
   have kg0:=cell_regrown g0
   have kc1:=cell_regrown c1
   have kg1:=cell_regrown g1
   have kc2:=cell_regrown c2
   have kg2:=cell_regrown g2
   have hxl:Lst wr A1 a1 p1:=hx.2.2
   have hyl:Lst wr A2 a2 p2:=hy.2.2
   have Q1:=Lib.hid (fun W (h:Below wr.heap.size wr W)=>lw_terms_at a1 a2 A1 A2 p1 p2 W e3 (hxl.below h) (hyl.below h))
   clear hx hy hst hxl hyl hlt' e3
   go_wp2_with fail
   refine wp_region_quiet_below (by kernel_rfl) (by kernel_rfl) ?_
   repeat (go_big_quiet_step ((go_at_call 38;exact Calls.regrown_of (Q1.out _ (below_regrown _ _ _)))))
   refine wpQuiet_nil ?_
   intro w1 hw'
   have hb4:=hbw.trans ((regrown_below hw').mono hbw.size)
   clear kc0 kc1 kc2 kg0 kg1 kg2 hw'
   go_wp2_with fail
   go_roundw
   case rel=>exact ⟨j+1,by omega,by go_num,hb4⟩
   case measure=>simp [intOf];omega
  ·obtain rfl:j=a.length:=by omega
   go_wp2_with fail
   go_ret
   exact ⟨rfl,hbw⟩
set_option maxHeartbeats 4000000 in
theorem lw_texts_at (a:List (List UInt8)) (A A':Option Addr) (c c':Nat) (w:World) (hlen:a.length≤maxLen) (hl:RdB elNm w A a) (hm:RdB elNm w A' a) :
  Calls Tryz.prog 19 #[.slice A a.length c,.slice A' a.length c'] w fun e w'=>e=.returned (.bool true)∧Below w.heap.size w w':=by
 have hlen2:a.length≤9223372036854775807:=by unfold maxLen at hlen;omega
 have HL:=Lib.hid hl
 have HM:=Lib.hid hm
 clear hl hm hlen
 go_enter Tryz.func19,Tryz.ntmps19
 go_wp2_with fail
 go_loopw [13] (fun i wr=>∃j:Nat,j≤a.length∧i=.int .i64 j∧Below w.heap.size w wr) (fun i _=>a.length - (intOf i).toNat)
 case atStart=>exact ⟨0,Nat.zero_le _,rfl,Below.refl _ _⟩
 case round =>
  obtain ⟨j,hj,rfl,hbw⟩:=hrel
  by_cases hlt:j < a.length
  ·obtain ⟨g,hA,hx,hc⟩:=(HL.out.below hbw).get hlt
   obtain ⟨g',hA',hy,hg⟩:=(HM.out.below hbw).get hlt
   subst hA hA'
   have c0:wr.cell? ⟨g,j,none⟩=some (.string (S (a.getD j default))):=by have h:=hc 0 _ rfl;rwa [show j*elNm.k+0=j from Nat.mul_one j] at h
   have g0:wr.cell? ⟨g',j,none⟩=some (.string (S (a.getD j default))):=by have h:=hg 0 _ rfl;rwa [show j*elNm.k+0=j from Nat.mul_one j] at h
   clear hc hg hx hy
   generalize a.getD j default=x at *
   have kc0:=cell_regrown c0
   have kg0:=cell_regrown g0
   go_wp2_with fail
   refine wp_region_quiet_below (by kernel_rfl) (by kernel_rfl) ?_
   repeat (go_big_quiet_step (fail))
   refine wpQuiet_nil ?_
   intro w1 hw'
   have hb4:=hbw.trans ((regrown_below hw').mono hbw.size)
   clear kc0 kg0 hw'
   go_wp2_with fail
   go_roundw
   case rel=>exact ⟨j+1,by omega,by go_num,hb4⟩
   case measure=>simp [intOf];omega
  ·obtain rfl:j=a.length:=by omega
   go_wp2_with fail
   go_ret
   exact ⟨rfl,hbw⟩
end Go.Proofs.YtaojnljppcnhjaaGreatDoor
