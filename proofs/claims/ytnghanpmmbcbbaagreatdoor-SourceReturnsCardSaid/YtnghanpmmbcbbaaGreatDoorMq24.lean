/-
  PgChkAm.
  PgRuleP.
  PgHeads.
 PgGoals.
 PgRname.
-/
import Derived.Test.YtnghanpmmbcbbaaGreatDoorMq23
import Derived.Test.YtnghanpmmbcbbaaGreatDoorMq14
import Derived.Test.YtnghanpmmbcbbaaGreatDoorMq15
namespace Go.Proofs.YtnghanpmmbcbbaaGreatDoor
open Go.RowKit
section
variable {R:Nat} {A:Option Addr} {c:Nat} {l:List Tk}
set_option maxHeartbeats 8000000 in
set_option maxRecDepth 100000 in
theorem checked_Am_at (hg:GoodT l) {a n:Nat} {f:Rd1 As}
  (hF:∀(i:Nat) (w:World),Pq w R A c l i→a≤i→(leftT l i).length≤n→Calls Tryz.prog 175 #[.pointer (some ⟨R,0,none⟩)] w (ElR rdAm f R A c l a i w))
  (i:Nat) (w:World) (h:Pq w R A c l i) (ha:a≤i) (hn:(leftT l i).length≤n) :
  Calls Tryz.prog 174 #[.pointer (some ⟨R,0,none⟩),.func (.func 175) #[.pointer (some ⟨R,0,none⟩)] #[],.func (.func 114) #[] #[]] w (ElR rdAm (chkS (fun x:As=>rightA x.1 x.2) f) R A c l a i w):=by
 have HG:=Lib.hid hg
 have hR:=h.lt
 have hTR:w.heap.size≠R:=by omega
 have HI:=Lib.hid h.ilt
 have HA:=Lib.hid ha
 have HP0:=Lib.hid (h.alloc (.cells #[.string ⟨#[]⟩,.slice none 0 0] 66))
 have l1:=HP0.out.l1
 have Q:=Lib.hid (hF i _ HP0.out ha hn)
 have HB0:=Lib.hid (BoxL.new w [.string ⟨#[]⟩,.slice none 0 0] 66)
 clear hg hF h ha hn
 go_enter Tryz.func174,Tryz.ntmps174
 go_wp2_with fail
 refine Q.out.mono ?_
 rintro e w2 ⟨u,j,er,he,hk,hp,hs,ho⟩
 have he2:e=.returned (.tuple #[.agg #[.string u.name,.slice u.at_ u.args.length u.cap],.int .i64 er]):=he
 clear he
 subst he2
 have hsz:w.heap.size+1≤w2.heap.size:=by have:=hk.size;simpa using this
 have hb3:=((Below.refl w2.heap.size w2).alloc (Nat.le_refl _) (.cells #[.string u.name,.slice u.at_ u.args.length u.cap] 66))
 have HB:=Lib.hid ((HB0.out.kq hk hTR).below hb3)
 have HK:=Lib.hid ((Kq.from_new hk).trans (Below.kp hb3 R Z0))
 have HP:=Lib.hid (hp.below hb3)
 have HS:=Lib.hid ((show SitG elAm (w.heap.size+1) w2 [u] from hs.low (by simp)).below hb3)
 have HSt:=Lib.hid (HS.out.at_ u (List.mem_singleton.2 rfl))
 have HU:=Lib.hid (BoxL.new w2 [.string u.name,.slice u.at_ u.args.length u.cap] 66)
 clear hk hp hs hb3 l1
 obtain ⟨c0,c1,f0,f1⟩:=HB.out.get2
 rcases ho with ⟨rfl,hf,hij,hv⟩|⟨her,hf⟩
 ·have HF:=Lib.hid hf
  have HJ:=Lib.hid hij
  have HV:=Lib.hid (show OkV l i j u.args from hv)
  obtain ⟨b,hb⟩:∃b,atomB u.name.data.toList u.args=b:=⟨_,rfl⟩
  have QR:=Lib.hid (fun W (hW:Below (w2.alloc (.cells #[.string u.name,.slice u.at_ u.args.length u.cap] 66)).heap.size (w2.alloc (.cells #[.string u.name,.slice u.at_ u.args.length u.cap] 66)) W)=>right_atom_at u W (HSt.out.1.below hW) hb)
  have HBe:=Lib.hid (show (fun x:As=>rightA x.1 x.2) (u.name.data.toList,numL2 (gL l a) u.args)=b by rw [←hb];exact (atomB_eq HG.out u.name HV.out HA.out (Nat.le_of_lt HP.out.ilt)).symm)
  have HPl:=Lib.hid (show chkS (fun x:As=>rightA x.1 x.2) f (leftT l i) (nsL l a i)=if b=false then .err (leftT l i).length 6 else .ok (u.name.data.toList,numL2 (gL l a) u.args) (leftT l j) (nsL l a j) by
   unfold chkS
   rw [HF.out,← HBe.out]
   rfl)
  clear hf hij hv hb
  cases b
  ·have l1:=HP.out.l1
   have lf:=HP.out.fr 1
   go_wp2_with (go_at_call 114;refine (QR.out _ (Below.refl _ _)).mono ?_;rintro en w5 ⟨rfl,hb5⟩;have HB5:=Lib.hid (HB.out.below hb5);have HK5:=Lib.hid (HK.out.trans (Below.kp hb5 R Z0));have HP5:=Lib.hid (HP.out.below hb5);have HS5:=Lib.hid (HS.out.below hb5);have HU5:=Lib.hid (HU.out.below hb5);have hsz5:w2.heap.size+1≤w5.heap.size:=(by have:=hb5.size;simpa using this);clear c0 c1 f0 f1 l1 lf;have l1:=HP5.out.l1;have lf:=HP5.out.fr 1;have HPs:=Lib.hid (HP5.out.set (q:=i) HI.out);obtain ⟨c0,c1,f0,f1⟩:=(HB5.out.put (p:=⟨R,1,none⟩) hTR.symm (.int .i64 (i:Int))).get2;obtain ⟨d0,d1,_⟩:=(HU5.out.put (p:=⟨R,1,none⟩) (show R≠w2.heap.size by omega) (.int .i64 (i:Int))).get2;clear hb5)
   refine bodyPost_ret (v:=.tuple #[.agg #[.string u.name,.slice u.at_ u.args.length u.cap],.int .i64 6]) (by simp [results,Tryz.results174,go_sem,c0,c1]) rfl ?_
   obtain ⟨e1,e2,e3⟩:=end2 hR (HK5.out.set 1 none (.int .i64 (i:Int))) HPs.out (HS5.out.put (p:=⟨R,1,none⟩) (fun hx=>by have:=(HS5.out.bd _ hx).1;simp only at this;omega) (.int .i64 (i:Int))) (Nat.lt_succ_self _) (.string u.name) (.slice u.at_ u.args.length u.cap)
   refine ⟨u,i,6,rfl,e1,e2,e3,.inr ⟨by omega,?_⟩⟩
   rw [HPl.out];first|exact if_pos rfl|exact if_pos trivial
  ·go_wp2_with (go_at_call 114;refine (QR.out _ (Below.refl _ _)).mono ?_;rintro en w5 ⟨rfl,hb5⟩;have HB5:=Lib.hid (HB.out.below hb5);have HK5:=Lib.hid (HK.out.trans (Below.kp hb5 R Z0));have HP5:=Lib.hid (HP.out.below hb5);have HS5:=Lib.hid (HS.out.below hb5);clear c0 c1 f0 f1;obtain ⟨c0,c1,f0,f1⟩:=HB5.out.get2;obtain ⟨d0,d1,_⟩:=(HU.out.below hb5).get2;clear hb5)
   refine bodyPost_ret (v:=.tuple #[.agg #[.string u.name,.slice u.at_ u.args.length u.cap],.int .i64 0]) (by simp [results,Tryz.results174,go_sem,c0,c1]) rfl ?_
   obtain ⟨e1,e2,e3⟩:=end2 hR HK5.out HP5.out HS5.out (Nat.lt_succ_self _) (.string u.name) (.slice u.at_ u.args.length u.cap)
   refine ⟨u,j,0,rfl,e1,e2,e3,.inl ⟨rfl,?_,HJ.out,HV.out⟩⟩
   rw [HPl.out,if_neg (by decide)]
   rfl
 ·have hne:(er==0)=false:=by simpa using her
  have HF:=Lib.hid hf
  have HE:=Lib.hid her
  clear her hf
  go_wp2_with fail
  refine bodyPost_ret (v:=.tuple #[.agg #[.string u.name,.slice u.at_ u.args.length u.cap],.int .i64 er]) (by simp [results,Tryz.results174,go_sem,c0,c1]) rfl ?_
  obtain ⟨e1,e2,e3⟩:=end2 hR HK.out HP.out HS.out (Nat.lt_succ_self _) (.string u.name) (.slice u.at_ u.args.length u.cap)
  refine ⟨u,j,er,rfl,e1,e2,e3,.inr ⟨HE.out,?_⟩⟩
  simp only [chkS,HF.out]
set_option maxHeartbeats 4000000 in
set_option maxRecDepth 10000 in
theorem one_Am_at (hg:GoodT l) {a n:Nat} {f:Rd1 As}
  (hF:∀(i:Nat) (w:World),Pq w R A c l i→a≤i→(leftT l i).length≤n→Calls Tryz.prog 175 #[.pointer (some ⟨R,0,none⟩)] w (ElR rdAm f R A c l a i w))
  (i:Nat) (w:World) (h:Pq w R A c l i) (ha:a≤i) (hn:(leftT l i).length≤n) :
  Calls Tryz.prog 139 #[.pointer (some ⟨R,0,none⟩)] w (ElR rdAm (chkS (fun x:As=>rightA x.1 x.2) f) R A c l a i w):=by
 have hR:=h.lt
 have hTR:w.heap.size≠R:=by omega
 have Q:=Lib.hid (checked_Am_at hg hF i _ (h.alloc (.cells #[.string ⟨#[]⟩,.slice none 0 0] 66)) ha hn)
 clear hF hg h ha hn
 go_enter Tryz.func139,Tryz.ntmps139
 go_wp2_with fail
 refine Q.out.mono ?_
 rintro e w2 ⟨u,j,er,he,hk,hp,hs,ho⟩
 have he2:e=.returned (.tuple #[.agg #[.string u.name,.slice u.at_ u.args.length u.cap],.int .i64 er]):=he
 clear he
 subst he2
 obtain ⟨c0,c1,f0,f1⟩:=((BoxL.new w [.string ⟨#[]⟩,.slice none 0 0] 66).kq hk hTR).get2
 have HK:=Lib.hid (Kq.from_new hk)
 have HP:=Lib.hid hp
 have HS:=Lib.hid (show SitG elAm (w.heap.size+1) w2 [u] from hs.low (by simp))
 have HO:=Lib.hid ho
 clear hk hp hs ho
 go_wp2_with fail
 refine bodyPost_ret (v:=.tuple #[.agg #[.string u.name,.slice u.at_ u.args.length u.cap],.int .i64 er]) (by simp [results,Tryz.results139,go_sem,c0,c1]) rfl ?_
 obtain ⟨e1,e2,e3⟩:=end2 hR HK.out HP.out HS.out (Nat.lt_succ_self _) (.string u.name) (.slice u.at_ u.args.length u.cap)
 exact ⟨u,j,er,rfl,e1,e2,e3,HO.out⟩
end
end Go.Proofs.YtnghanpmmbcbbaaGreatDoor
namespace Go.Proofs.YtnghanpmmbcbbaaGreatDoor
open Go.RowKit
abbrev headR (ex:Rd1 Tm):Rd1 As:=chkS (fun x:As=>rightA x.1 x.2) (atomS ex)
abbrev goalR (ex:Rd1 Tm):Rd1 Gs:=chkS rightG (goalS ex)
theorem heads_list (ex:Rd1 Tm) {before M:Nat} (hM:before+M=4):∀(n:Nat) (ts:List Tok),ts.length≤n→∀acc ns,acc.length≤M→headsS ex before acc ts ns=listS (headR ex) M acc ts ns
 | n,ts,hn,acc,ns,ha=>by
  rw [headsS,listS]
  by_cases h4:acc.length=M
  ·rw [if_pos (by omega),if_pos h4]
  ·rw [if_neg (by omega),if_neg h4]
   simp only [headR,chkS]
   cases atomS ex ts ns with
   | err l e=>rfl
   | ok a r ns2 =>
    simp only
    by_cases hr:rightA a.1 a.2=false
    ·rw [if_pos hr,if_pos hr]
    ·rw [if_neg hr,if_neg hr]
     simp only
     by_cases hc:isS [44] r=true
     ·rw [if_pos hc,if_pos hc]
      by_cases hl:r.tail.length < ts.length
      ·rw [dif_pos hl,dif_pos hl]
       match n,hn with
       | 0,hn=>omega
       | n+1,hn=>exact heads_list ex hM n r.tail (by omega) (acc++[a]) ns2 (by simp only [List.length_append,List.length_cons,List.length_nil];omega)
      ·rw [dif_neg hl,dif_neg hl]
     ·rw [if_neg hc,if_neg hc]
theorem goals_list (ex:Rd1 Tm) {M:Nat}:∀(n:Nat) (ts:List Tok),ts.length≤n→∀acc ns,acc.length≤M→goalsS ex M acc ts ns=listS (goalR ex) M acc ts ns
 | n,ts,hn,acc,ns,ha=>by
  rw [goalsS,listS]
  by_cases h4:acc.length=M
  ·rw [if_pos (by omega),if_pos h4]
  ·rw [if_neg (by omega),if_neg h4]
   simp only [goalR,chkS]
   cases goalS ex ts ns with
   | err l e=>rfl
   | ok a r ns2 =>
    simp only
    by_cases hr:rightG a=false
    ·rw [if_pos hr,if_pos hr]
    ·rw [if_neg hr,if_neg hr]
     simp only
     by_cases hc:isS [44] r=true
     ·rw [if_pos hc,if_pos hc]
      by_cases hl:r.tail.length < ts.length
      ·rw [dif_pos hl,dif_pos hl]
       match n,hn with
       | 0,hn=>omega
       | n+1,hn=>exact goals_list ex n r.tail (by omega) (acc++[a]) ns2 (by simp only [List.length_append,List.length_cons,List.length_nil];omega)
      ·rw [dif_neg hl,dif_neg hl]
     ·rw [if_neg hc,if_neg hc]
theorem listS_len {β:Type} {f:Rd1 β} {M:Nat}:∀(n:Nat) (ts:List Tok),ts.length≤n→∀acc ns v r ns2,listS f M acc ts ns=.ok v r ns2→acc.length≤M→v.length≤M
 | n,ts,hn,acc,ns,v,r,ns2,h,ha=>by
  rw [listS] at h
  split at h
  ·cases h
  ·rename_i hne
   split at h
   ·cases h
   ·split at h
    ·split at h
     ·rename_i hl
      match n,hn with
      | 0,hn=>omega
      | n+1,hn=>exact listS_len n _ (by omega) _ _ _ _ _ h (by simp only [List.length_append,List.length_cons,List.length_nil];omega)
     ·cases h
    ·injection h with h
     rw [←h]
     simp only [List.length_append,List.length_cons,List.length_nil]
     omega
abbrev ZB (B:Nat):Value:=.slice (some ⟨B,0,none⟩) 0 0
abbrev Kb (R B:Nat) (w w':World):Prop:=Kp R (ZB B) (ZB B) w w'
theorem ZB_own {B k:Nat} (h:k≠B):(ZB B).ownBlock≠some k:=by
 intro e
 have:B=k:=by simpa [Value.ownBlock] using e
 exact h this.symm
section
variable {R B:Nat} {w w0 w':World}
theorem Kp.kb (h:Kp R Z0 Z0 w w') (B:Nat):Kb R B w w':=⟨h.os,h.tape,h.output,h.size,fun k hk hr _=>h.block k hk hr (Z0_own k),fun _ h=>.inl h⟩
theorem Kp.unb (h0:Kp R Z0 Z0 w0 w) (hB:w0.heap.size≤B) (h:Kb R B w w'):Kq R w0 w' :=
 ⟨h.os.trans h0.os,h.tape.trans h0.tape,h.output.trans h0.output,Nat.le_trans h0.size h.size,fun k hk hr _=>(h.block k (Nat.lt_of_lt_of_le hk h0.size) hr (ZB_own (by omega))).trans (h0.block k hk hr (Z0_own k)),fun _ h=>.inl h⟩
theorem Kp.putb (h:Kb R B w w') (q:Nat) (v:Value):Kb R B w (w'.setCell ⟨B,q,none⟩ v) :=
 h.trans ⟨rfl,rfl,rfl,by simp [World.setCell],fun k _ _ ho=>Below.heap_setCell _ _ _ _ (fun e=>ho (by rw [e];rfl)),fun _ h=>.inl h⟩
theorem RowG.kb {α:Type} {E:Elt α} {T:TypeId} {lo:Nat} {r:Value} {L:List α} (h:RowG E T lo w r L) (k:Kb R B w w') (hR:R < lo) (hB:B < lo):RowG E T lo w' r L:=h.frame k.size fun b h1 h2=>k.block b h2 (by omega) (ZB_own (by omega))
theorem RowG.put {α:Type} {E:Elt α} {T:TypeId} {lo:Nat} {r:Value} {L:List α} (h:RowG E T lo w r L) {p:Addr} (hp:p.block < lo) (v:Value):RowG E T lo (w.setCell p v) r L:=h.frame (by simp [World.setCell]) fun b h1 _=>Below.heap_setCell _ _ _ _ (by omega)
theorem RowG.low {α:Type} {E:Elt α} {T:TypeId} {lo lo':Nat} {r:Value} {L:List α} (h:RowG E T lo w r L) (hl:lo'≤lo):RowG E T lo' w r L:=by
 refine ⟨⟨h.row.1,h.row.2.elim .inl fun ⟨g,cap,cur,e,hb,rest⟩=>.inr ⟨g,cap,cur,e,Nat.le_trans hl hb,rest⟩⟩,h.sit.low hl,h.apart⟩
theorem BoxL.kb {T:Nat} {vs:List Value} (h:BoxL w T vs) (k:Kb R B w w') (hT:T≠R) (hB:T≠B):BoxL w' T vs:=h.of k.size (k.block T h.lt hT (ZB_own hB))
theorem BoxL.get6 {T:Nat} {v0 v1 v2 v3 v4 v5:Value} (h:BoxL w T [v0,v1,v2,v3,v4,v5]):w.cell? ⟨T,0,none⟩=some v0∧w.cell? ⟨T,1,none⟩=some v1∧w.cell? ⟨T,2,none⟩=some v2∧w.cell? ⟨T,3,none⟩=some v3∧w.cell? ⟨T,4,none⟩=some v4∧w.cell? ⟨T,5,none⟩=some v5 ∧
  w.frozen? ⟨T,0,none⟩=false∧w.frozen? ⟨T,1,none⟩=false∧w.frozen? ⟨T,2,none⟩=false∧w.frozen? ⟨T,3,none⟩=false∧w.frozen? ⟨T,4,none⟩=false∧w.frozen? ⟨T,5,none⟩=false:=⟨h.cells 0 _ rfl,h.cells 1 _ rfl,h.cells 2 _ rfl,h.cells 3 _ rfl,h.cells 4 _ rfl,h.cells 5 _ rfl,h.free 0,h.free 1,h.free 2,h.free 3,h.free 4,h.free 5⟩
def LessG {α:Type} (E:Elt α) (r:Value) (L:List α) (m:Nat):Prop:=(∀k,r.ownBlock=some k→k < m)∧∀b∈E.blkL L,b < m
theorem RowG.less {α:Type} {E:Elt α} {T:TypeId} {lo:Nat} {r:Value} {L:List α} (h:RowG E T lo w r L):LessG E r L w.heap.size:=⟨fun k hk=>(own_lt h.row k hk).2,fun b hb=>(h.sit.bd b hb).2⟩
theorem LessG.nil {α:Type} (E:Elt α) (m:Nat):LessG E (.slice none 0 0) [] m:=⟨fun k hk=>(by cases hk),fun b hb=>(by simp [Elt.blkL] at hb)⟩
theorem LessG.more {α:Type} {E:Elt α} {r:Value} {L:List α} {m m':Nat} (h:LessG E r L m) (hm:m≤m'):LessG E r L m':=⟨fun k hk=>Nat.lt_of_lt_of_le (h.1 k hk) hm,fun b hb=>Nat.lt_of_lt_of_le (h.2 b hb) hm⟩
end
end Go.Proofs.YtnghanpmmbcbbaaGreatDoor
namespace Go.Proofs.YtnghanpmmbcbbaaGreatDoor
open Go.RowKit
section
variable {R B:Nat} {A:Option Addr} {c:Nat} {l:List Tk}
def HeadsQ (ex:Rd1 Tm) (R B:Nat) (A:Option Addr) (c:Nat) (l:List Tk) (a i:Nat) (vn gd bd vr:Value) (w:World) (en:Ending) (w':World):Prop :=
 ∃(ks rs:List Am) (j:Nat) (er:Int) (kv rv:Value) (m:Nat),en=.returned (.int .i64 er)∧Kb R B w w'∧Pq w' R A c l j∧BoxL w' B [vn,kv,rv,gd,bd,vr] ∧
  RowG elAm 66 w.heap.size w' kv ks∧RowG elAm 66 m w' rv rs∧w.heap.size≤m∧LessG elAm kv ks m ∧
  ((er=0∧bothS ex (leftT l i) (nsL l a i)=.ok (ks.map (rdAm.h (gL l a)),rs.map (rdAm.h (gL l a))) (leftT l j) (nsL l a j)∧i < j∧OkV l i j (ks.flatMap Am.args++rs.flatMap Am.args)∧ks.length≤4∧rs.length≤4)∨(er≠0∧bothS ex (leftT l i) (nsL l a i)=.err (leftT l j).length er))
theorem isS_text {l:List Tk} (hg:GoodT l) {i:Nat} (hi:i < l.length) (s:List UInt8) (hs:kindO s=4) {b:Bool} (hb:((l.getD i default).2.2==s)=b):isS s (leftT l i)=b:=by rw [isS_left hg hi hs];exact hb
set_option maxHeartbeats 8000000 in
set_option maxRecDepth 100000 in
theorem heads_at (hg:GoodT l) {a n:Nat} {ex:Rd1 Tm}
  (hH:∀(i:Nat) (w:World),Pq w R A c l i→a≤i→(leftT l i).length≤n→Calls Tryz.prog 139 #[.pointer (some ⟨R,0,none⟩)] w (ElR rdAm (headR ex) R A c l a i w))
  (i:Nat) (w:World) (h:Pq w R A c l i) (ha:a≤i) (hn:(leftT l i).length≤n) (vn gd bd vr:Value) (hB:BoxL w B [vn,.slice none 0 0,.slice none 0 0,gd,bd,vr]) (hRB:R < B) :
  Calls Tryz.prog 96 #[.pointer (some ⟨R,0,none⟩),.pointer (some ⟨B,0,none⟩)] w (HeadsQ ex R B A c l a i vn gd bd vr w):=by
 have HG:=Lib.hid hg
 have hR:=h.lt
 have HI:=Lib.hid h.ilt
 have HA:=Lib.hid ha
 have HNn:=Lib.hid hn
 have HB0:=Lib.hid hB
 have hBw:=hB.lt
 have QL:=Lib.hid (fun most (hm:most≤4) i w (h:Pq w R A c l i) ha hn=>list_Am_at hg a n most (by omega) (headR ex) hH i w h ha hn)
 have Q4:=Lib.hid (show Calls Tryz.prog 138 #[.pointer (some ⟨R,0,none⟩),.int .i64 4,.func (.func 139) #[.pointer (some ⟨R,0,none⟩)] #[]] w _ from QL.out 4 (by omega) i w h ha hn)
 have QX:=Lib.hid (fun (j:Nat) (s:List UInt8) (hs:s≠[]) (b:Bool) (hb:((l.getD j default).2.2==s)=b) W (hW:Pq W R A c l j)=>accept_at hg hW s hs hb)
 clear hg hH h ha hn hB
 have hBR:¬B=R:=by omega
 have hRB2:¬R=B:=by omega
 go_enter Tryz.func96,Tryz.ntmps96
 go_wp2_with fail
 refine Q4.out.mono ?_
 rintro e w2 ⟨ks,j,er,kv,rfl,hk,hp,hrow,ho⟩
 obtain ⟨kA,kc,rfl⟩:=RowG.zform hrow
 have HB2:=Lib.hid (HB0.out.kq hk hBR)
 have HK2:=Lib.hid hk
 have HP2:=Lib.hid hp
 have HR2:=Lib.hid hrow
 have hsz:w.heap.size≤w2.heap.size:=hk.size
 clear hk hp hrow
 rcases ho with ⟨rfl,hf,hij,hv,h0,hl⟩|⟨her,rfl,hkv,hf⟩
 ·have HL4:=Lib.hid (show ks.length≤4 from by have:=listS_len _ _ (Nat.le_refl _) _ _ _ _ _ hf (Nat.zero_le _);rw [List.length_map] at this;exact this)
  have HF:=Lib.hid (show headsS ex 0 [] (leftT l i) (nsL l a i)=.ok (ks.map (rdAm.h (gL l a))) (leftT l j) (nsL l a j) by rw [heads_list ex (M:=4) rfl _ _ (Nat.le_refl _) _ _ (Nat.zero_le _)];exact hf)
  have HJ:=Lib.hid hij
  have HV:=Lib.hid (show OkV l i j (ks.flatMap Am.args) from hv)
  clear hf hij hv
  obtain ⟨q0,q1,q2,q3,q4,q5,f0,f1,f2,f3,f4,f5⟩:=HB2.out.get6
  obtain ⟨b1,hb1⟩:∃b,((l.getD j default).2.2==[60,61,62])=b:=⟨_,rfl⟩
  have X1:=Lib.hid (isS_text HG.out HP2.out.ilt [60,61,62] (by decide) hb1)
  have Q1:=Lib.hid (QX.out j [60,61,62] (by decide) b1 hb1)
  cases b1
  ·obtain ⟨b2,hb2⟩:∃b,((l.getD j default).2.2==[61,61,62])=b:=⟨_,rfl⟩
   have X2:=Lib.hid (isS_text HG.out HP2.out.ilt [61,61,62] (by decide) hb2)
   have Q2:=Lib.hid (QX.out j [61,61,62] (by decide) b2 hb2)
   cases b2
   ·obtain ⟨b3,hb3⟩:∃b,((l.getD j default).2.2==[92])=b:=⟨_,rfl⟩
    have X3:=Lib.hid (isS_text HG.out HP2.out.ilt [92] (by decide) hb3)
    have Q3:=Lib.hid (QX.out j [92] (by decide) b3 hb3)
    cases b3
    ·go_wp2_with (first
      | (go_at_call 100;(with_reducible refine (Q1.out _ HP2.out).mono ?_);rintro en w3 ⟨rfl,hk3,hp3⟩;have HB3:=Lib.hid (HB2.out.kq hk3 hBR);have HP3:=Lib.hid (show Pq w3 R A c l j from hp3);have HK3:=Lib.hid (HK2.out.trans hk3);clear hk3 hp3 Q1)
      | (go_at_call 100;(with_reducible refine (Q2.out _ HP3.out).mono ?_);rintro en w4 ⟨rfl,hk3,hp3⟩;have HB4:=Lib.hid (HB3.out.kq hk3 hBR);have HP4:=Lib.hid (show Pq w4 R A c l j from hp3);have HK4:=Lib.hid (HK3.out.trans hk3);clear hk3 hp3 Q2)
      | (go_at_call 100;(with_reducible refine (Q3.out _ HP4.out).mono ?_);rintro en w5 ⟨rfl,hk3,hp3⟩;have HB5:=Lib.hid (HB4.out.kq hk3 hBR);have HP5:=Lib.hid (show Pq w5 R A c l j from hp3);have HK5:=Lib.hid (HK4.out.trans hk3);clear hk3 hp3 Q3))
     go_ret
     refine ⟨[],[],j,16,.slice none 0 0,.slice none 0 0,w.heap.size,rfl,HK5.out.kb B,HP5.out,HB5.out,RowG.nil _ _ _ _,RowG.nil _ _ _ _,Nat.le_refl _,LessG.nil _ _,.inr ⟨by omega,?_⟩⟩
     simp only [bothS,HF.out,X1.out,X2.out,X3.out]
     rfl
    ·have HJ3:=Lib.hid (show j+1 < l.length from good_next HG.out HP2.out.ilt (by rw [beq_iff_eq.1 hb3];decide))
     have hnl:(4:Int) - (ks.length:Int)=((4 - ks.length:Nat):Int):=by have:=HL4.out;omega
     have Q6:=Lib.hid (fun W (hW:Pq W R A c l (j+1))=>show Calls Tryz.prog 138 #[.pointer (some ⟨R,0,none⟩),.int .i64 (4 - (ks.length:Int)),.func (.func 139) #[.pointer (some ⟨R,0,none⟩)] #[]] W (ListR rdAm 66 (headR ex) (4 - ks.length) R A c l a (j+1) W) by
      rw [hnl]
      exact QL.out (4 - ks.length) (by omega) (j+1) W hW (by have:=HA.out;have:=HJ.out;omega) (by have hn:=HNn.out;have hj:=HJ.out;rw [left_length] at hn ⊢;omega))
     have hk4:(ks.length:Int)≤4:=by have:=HL4.out;omega
     have hk0:(0:Int)≤(ks.length:Int):=by omega
     clear hnl
     go_wp2_with (first
      | (go_at_call 100;(with_reducible refine (Q1.out _ HP2.out).mono ?_);rintro en w3 ⟨rfl,hk3,hp3⟩;have HB3:=Lib.hid (HB2.out.kq hk3 hBR);have HP3:=Lib.hid (show Pq w3 R A c l j from hp3);have HK3:=Lib.hid (HK2.out.trans hk3);have HR3:=Lib.hid (HR2.out.kq hk3 hR);have hsz3:w2.heap.size≤w3.heap.size:=hk3.size;clear hk3 hp3 Q1)
      | (go_at_call 100;(with_reducible refine (Q2.out _ HP3.out).mono ?_);rintro en w4 ⟨rfl,hk3,hp3⟩;have HB4:=Lib.hid (HB3.out.kq hk3 hBR);have HP4:=Lib.hid (show Pq w4 R A c l j from hp3);have HK4:=Lib.hid (HK3.out.trans hk3);have HR4:=Lib.hid (HR3.out.kq hk3 hR);have hsz4:w3.heap.size≤w4.heap.size:=hk3.size;clear hk3 hp3 Q2)
      | (go_at_call 100;(with_reducible refine (Q3.out _ HP4.out).mono ?_);rintro en w5 ⟨rfl,hk3,hp3⟩;clear q0 q1 q2 q3 q4 q5 f0 f1 f2 f3 f4 f5;have HB5:=Lib.hid ((HB4.out.kq hk3 hBR));obtain ⟨q0,q1,q2,q3,q4,q5,f0,f1,f2,f3,f4,f5⟩:=HB5.out.get6;have HP5:=Lib.hid (show Pq w5 R A c l (j+1) from hp3);have HK5:=Lib.hid (HK4.out.trans hk3);have HR5:=Lib.hid (HR4.out.kq hk3 hR);have hsz5:w4.heap.size≤w5.heap.size:=hk3.size;clear hk3 hp3 Q3))
     have HB5s:=Lib.hid (HB5.out.set (j:=1) (by simp) (.slice kA ks.length kc))
     have HP5s:=Lib.hid (HP5.out.put (p:=⟨B,1,none⟩) hRB (.slice kA ks.length kc))
     have HK5s:=Lib.hid ((HK5.out.kb B).putb 1 (.slice kA ks.length kc))
     have HR5s:=Lib.hid (HR5.out.put (p:=⟨B,1,none⟩) hBw (.slice kA ks.length kc))
     refine (Q6.out _ HP5s.out).mono ?_
     rintro e w6 ⟨rs,j2,er2,rv,rfl,hk6,hp6,hrow6,ho6⟩
     obtain ⟨rA,rc,rfl⟩:=RowG.zform hrow6
     have hsz6:w5.heap.size≤w6.heap.size:=by have:=hk6.size;simpa [World.setCell] using this
     have HB6:=Lib.hid (HB5s.out.kq hk6 hBR)
     have HK6:=Lib.hid (HK5s.out.trans (Kp.kb hk6 B))
     have HP6:=Lib.hid hp6
     have HR6:=Lib.hid (HR5s.out.kq hk6 hR)
     have HRr6:=Lib.hid (show RowG elAm 66 w5.heap.size w6 (.slice rA rs.length rc) rs from hrow6.low (by simp [World.setCell]))
     have HLs:=Lib.hid (show LessG elAm (.slice kA ks.length kc) ks w5.heap.size from HR5.out.less)
     have HNs:=Lib.hid (nsL_s HP2.out.ilt X3.out (a:=a))
     have HO6:=Lib.hid ho6
     clear hk6 hp6 hrow6 ho6 q0 q1 q2 q3 q4 q5 f0 f1 f2 f3 f4 f5
     obtain ⟨q0,q1,q2,q3,q4,q5,f0,f1,f2,f3,f4,f5⟩:=HB6.out.get6
     have HMm:=Lib.hid (show 0+ks.length+(4 - ks.length)=4 by have:=HL4.out;omega)
     rcases HO6.out with ⟨rfl,hf6,hij6,hv6,h06,hl6⟩|⟨her6,rfl,hrv,hf6⟩
     ·have HF6:=Lib.hid (show headsS ex ks.length [] (leftT l (j+1)) (nsL l a j)=.ok (rs.map (rdAm.h (gL l a))) (leftT l j2) (nsL l a j2) by
       rw [heads_list ex (M:=4 - ks.length) (by have:=HMm.out;omega) _ _ (Nat.le_refl _) _ _ (Nat.zero_le _),← HNs.out];exact hf6)
      have HL6:=Lib.hid (show rs.length≤4 from by have:=listS_len _ _ (Nat.le_refl _) _ _ _ _ _ hf6 (Nat.zero_le _);rw [List.length_map] at this;omega)
      have HJ6:=Lib.hid hij6
      have HV6:=Lib.hid (show OkV l (j+1) j2 (rs.flatMap Am.args) from hv6)
      clear hf6 hij6 hv6
      obtain ⟨b4,hb4⟩:∃b,((l.getD j2 default).2.2==[60,61,62])=b:=⟨_,rfl⟩
      have X4:=Lib.hid (isS_text HG.out HP6.out.ilt [60,61,62] (by decide) hb4)
      have Q7:=Lib.hid (fun W (hW:Pq W R A c l j2)=>expect_at HG.out hW [60,61,62] (by decide) hb4)
      have HBoth:=Lib.hid (show bothS ex (leftT l i) (nsL l a i)=if isS [60,61,62] (leftT l j2) then .ok (ks.map (rdAm.h (gL l a)),rs.map (rdAm.h (gL l a))) (leftT l (j2+1)) (nsL l a j2) else .err (leftT l j2).length 16 by
       simp only [bothS,HF.out,X1.out,X2.out,X3.out,if_true,left_tail,List.length_map,HF6.out]
       rfl)
      have HV7:=Lib.hid (show OkV l i j2 (ks.flatMap Am.args++rs.flatMap Am.args) from HV.out.append HV6.out (by omega) (by have:=HJ.out;omega) (by have:=HJ6.out;omega))
      cases b4
      all_goals
       go_wp2_with (go_at_call 98;refine (Q7.out _ (HP6.out.put (p:=⟨B,2,none⟩) hRB _)).mono ?_;rintro en w7 ⟨rfl,hk7,hp7⟩;have HB7:=Lib.hid ((HB6.out.set (j:=2) (by simp) (.slice rA rs.length rc)).kq hk7 hBR);have HP7:=Lib.hid hp7;have HK7:=Lib.hid ((HK6.out.putb 2 (.slice rA rs.length rc)).trans (Kp.kb hk7 B));have HR7:=Lib.hid ((HR6.out.put (p:=⟨B,2,none⟩) hBw (.slice rA rs.length rc)).kq hk7 hR);have HRr7:=Lib.hid ((HRr6.out.put (p:=⟨B,2,none⟩) (by show B < _;omega) (.slice rA rs.length rc)).kq hk7 (by omega));clear hk7 hp7)
       go_ret
      ·exact ⟨ks,rs,j2,16,.slice kA ks.length kc,.slice rA rs.length rc,w5.heap.size,rfl,HK7.out,HP7.out,HB7.out,HR7.out,HRr7.out,by omega,HLs.out,.inr ⟨by omega,by rw [HBoth.out,X4.out];rfl⟩⟩
      ·refine ⟨ks,rs,j2+1,0,.slice kA ks.length kc,.slice rA rs.length rc,w5.heap.size,rfl,HK7.out,HP7.out,HB7.out,HR7.out,HRr7.out,by omega,HLs.out,.inl ⟨rfl,?_,by have:=HJ.out;have:=HJ6.out;omega,HV7.out.wide (Nat.le_refl _) (Nat.le_succ _),HL4.out,HL6.out⟩⟩
       rw [HBoth.out,X4.out,nsL_s HP6.out.ilt X4.out]
       rfl
     ·have hne:(er2==0)=false:=by simpa using her6
      have HE6:=Lib.hid her6
      have HF6:=Lib.hid (show headsS ex ks.length [] (leftT l (j+1)) (nsL l a j)=.err (leftT l j2).length er2 by
       rw [heads_list ex (M:=4 - ks.length) (by have:=HMm.out;omega) _ _ (Nat.le_refl _) _ _ (Nat.zero_le _),← HNs.out];exact hf6)
      clear her6 hf6
      go_wp2_with fail
      go_ret
      refine ⟨ks,[],j2,er2,_,_,w5.heap.size,rfl,HK6.out.putb 2 _,HP6.out.put (p:=⟨B,2,none⟩) hRB _,HB6.out.set (j:=2) (by simp) _,HR6.out.put (p:=⟨B,2,none⟩) hBw _,HRr6.out.put (p:=⟨B,2,none⟩) (by show B < _;omega) _,by omega,HLs.out,.inr ⟨HE6.out,?_⟩⟩
      simp only [bothS,HF.out,X1.out,X2.out,X3.out,if_true,left_tail,List.length_map,HF6.out]
      rfl
   ·go_wp2_with (first
     | (go_at_call 100;(with_reducible refine (Q1.out _ HP2.out).mono ?_);rintro en w3 ⟨rfl,hk3,hp3⟩;have HB3:=Lib.hid (HB2.out.kq hk3 hBR);have HP3:=Lib.hid (show Pq w3 R A c l j from hp3);have HK3:=Lib.hid (HK2.out.trans hk3);have HR3:=Lib.hid (HR2.out.kq hk3 hR);have hsz3:w2.heap.size≤w3.heap.size:=hk3.size;clear hk3 hp3 Q1)
     | (go_at_call 100;(with_reducible refine (Q2.out _ HP3.out).mono ?_);rintro en w4 ⟨rfl,hk3,hp3⟩;clear q0 q1 q2 q3 q4 q5 f0 f1 f2 f3 f4 f5;have HB4:=Lib.hid (HB3.out.kq hk3 hBR);obtain ⟨q0,q1,q2,q3,q4,q5,f0,f1,f2,f3,f4,f5⟩:=HB4.out.get6;have HP4:=Lib.hid (show Pq w4 R A c l (j+1) from hp3);have HK4:=Lib.hid (HK3.out.trans hk3);have HR4:=Lib.hid (HR3.out.kq hk3 hR);have hsz4:w3.heap.size≤w4.heap.size:=hk3.size;clear hk3 hp3 Q2))
    go_ret
    refine ⟨ks,[],j+1,0,.slice kA ks.length kc,.slice none 0 0,w4.heap.size,rfl,((HK4.out.kb B).putb 1 (.slice kA ks.length kc)),HP4.out.put (p:=⟨B,1,none⟩) hRB _,HB4.out.set (j:=1) (by simp) _,HR4.out.put (p:=⟨B,1,none⟩) hBw _,RowG.nil _ _ _ _,by omega,HR4.out.less,.inl ⟨rfl,?_,by have:=HJ.out;omega,by simpa using HV.out.wide (Nat.le_refl _) (Nat.le_succ j),HL4.out,by simp⟩⟩
    simp only [bothS,HF.out,X1.out,X2.out,if_true,left_tail]
    rw [nsL_s HP2.out.ilt X2.out]
    rfl
  ·have HT:=Lib.hid (show (l.getD j default).2.2=[60,61,62] by simpa using hb1)
   go_wp2_with (go_at_call 100;refine (Q1.out _ HP2.out).mono ?_;rintro en w3 ⟨rfl,hk3,hp3⟩;clear q0 q1 q2 q3 q4 q5 f0 f1 f2 f3 f4 f5;have HB3:=Lib.hid (HB2.out.kq hk3 hBR);obtain ⟨q0,q1,q2,q3,q4,q5,f0,f1,f2,f3,f4,f5⟩:=HB3.out.get6;have HP3:=Lib.hid (show Pq w3 R A c l (j+1) from hp3);have HK3:=Lib.hid hk3;have HR3:=Lib.hid (HR2.out.kq hk3 hR);have hsz3:w2.heap.size≤w3.heap.size:=hk3.size;clear hk3 hp3)
   go_ret
   refine ⟨[],ks,j+1,0,.slice none 0 0,.slice kA ks.length kc,w.heap.size,rfl,(((HK2.out.trans HK3.out).kb B).putb 2 (.slice kA ks.length kc)),HP3.out.put (p:=⟨B,2,none⟩) hRB _,HB3.out.set (j:=2) (by simp) _,RowG.nil _ _ _ _,HR3.out.put (p:=⟨B,2,none⟩) hBw _,Nat.le_refl _,LessG.nil _ _,.inl ⟨rfl,?_,by have:=HJ.out;omega,by simpa using HV.out.wide (Nat.le_refl _) (Nat.le_succ j),by simp,HL4.out⟩⟩
   simp only [bothS,HF.out,X1.out,if_true,left_tail]
   rw [nsL_s HP2.out.ilt X1.out]
   rfl
 ·have hne:(er != 0)=true:=bne_iff_ne.2 her
  have HE:=Lib.hid her
  have HF:=Lib.hid (show headsS ex 0 [] (leftT l i) (nsL l a i)=.err (leftT l j).length er by rw [heads_list ex (M:=4) rfl _ _ (Nat.le_refl _) _ _ (Nat.zero_le _)];exact hf)
  clear her hf hkv
  go_wp2_with fail
  go_ret
  refine ⟨[],[],j,er,.slice none 0 0,.slice none 0 0,w.heap.size,rfl,HK2.out.kb B,HP2.out,HB2.out,RowG.nil _ _ _ _,RowG.nil _ _ _ _,Nat.le_refl _,LessG.nil _ _,.inr ⟨HE.out,?_⟩⟩
  simp only [bothS,HF.out]
end
end Go.Proofs.YtnghanpmmbcbbaaGreatDoor
namespace Go.Proofs.YtnghanpmmbcbbaaGreatDoor
open Go.RowKit
def goals1S (ex:Rd1 Tm):Rd1 (List Gs×List Gs):=fun ts ns =>
 match goalsS ex 12 [] ts ns with
 | .err l e=>.err l e
 | .ok b r ns2 =>
  if isS [124] r then (match goalsS ex 12 [] r.tail ns2 with
   | .err l e=>.err l e
   | .ok b2 r2 ns3=>.ok (b,b2) r2 ns3)
  else .ok ([],b) r ns2
theorem body_one {bs:List Gl} {g:Int→Int} (h:bs.length=1) (h1:(bs.getD 0 default).op=1):bodyS (bs.map (rdGl.h g))=[]:=by
 match bs,h with
 | [b],_ =>
  show (if b.op=1 then [] else _)=_
  have h2:b.op=1:=h1
  rw [if_pos h2]
theorem body_all {bs:List Gl} {g:Int→Int} (h:¬(bs.length=1∧(bs.getD 0 default).op=1)):bodyS (bs.map (rdGl.h g))=bs.map (rdGl.h g):=by
 match bs,h with
 | [],_=>rfl
 | [b],h =>
  show (if b.op=1 then [] else _)=_
  have h2:¬b.op=1:=fun e=>h ⟨rfl,e⟩
  rw [if_neg h2]
 | _ :: _ :: _,_=>rfl
theorem row_op {lo:Nat} {w:World} {A':Option Addr} {c' n:Nat} {xs:List Gl} (h:RowG elGl 59 lo w (.slice A' n c') xs) (h0:0 < xs.length):∃g,A'=some ⟨g,0,none⟩∧w.cell? ⟨g,0,none⟩=some (.int .i64 (xs.getD 0 default).op)∧lo≤g:=by
 obtain ⟨g,c2,e,_,_,hlo,_,_,_,hcell⟩:=h.form h0
 injection e with e1 _ _
 refine ⟨g,e1,?_,hlo⟩
 have:=Elt.cellsL_get elGl xs (i:=0) (j:=0) h0 (by show 0 < 3;omega)
 exact hcell 0 _ (by rw [Nat.zero_mul,Nat.zero_add] at this;exact this)
section
variable {R B:Nat} {A:Option Addr} {c:Nat} {l:List Tk}
def GoalsQ (ex:Rd1 Tm) (R B:Nat) (A:Option Addr) (c:Nat) (l:List Tk) (a i:Nat) (vn kv rv vr:Value) (w:World) (en:Ending) (w':World):Prop :=
 ∃(gs bs:List Gl) (j:Nat) (er:Int) (gv bv:Value) (m:Nat),en=.returned (.int .i64 er)∧Kb R B w w'∧Pq w' R A c l j∧BoxL w' B [vn,kv,rv,gv,bv,vr] ∧
  RowG elGl 59 w.heap.size w' gv gs∧RowG elGl 59 m w' bv bs∧w.heap.size≤m∧LessG elGl gv gs m ∧
  ((er=0∧(∃b,goals1S ex (leftT l i) (nsL l a i)=.ok (gs.map (rdGl.h (gL l a)),b) (leftT l j) (nsL l a j)∧bodyS b=bs.map (rdGl.h (gL l a)))∧i < j∧OkV l i j (gs.flatMap Gl.args++bs.flatMap Gl.args)∧gs.length≤12∧bs.length≤12)∨(er≠0∧goals1S ex (leftT l i) (nsL l a i)=.err (leftT l j).length er))
set_option maxHeartbeats 8000000 in
set_option maxRecDepth 100000 in
theorem goals_at (hg:GoodT l) {a n:Nat} {ex:Rd1 Tm}
  (hH:∀(i:Nat) (w:World),Pq w R A c l i→a≤i→(leftT l i).length≤n→Calls Tryz.prog 106 #[.pointer (some ⟨R,0,none⟩)] w (ElR rdGl (goalR ex) R A c l a i w))
  (i:Nat) (w:World) (h:Pq w R A c l i) (ha:a≤i) (hn:(leftT l i).length≤n) (vn kv rv vr:Value) (hB:BoxL w B [vn,kv,rv,.slice none 0 0,.slice none 0 0,vr]) (hRB:R < B) :
  Calls Tryz.prog 97 #[.pointer (some ⟨R,0,none⟩),.pointer (some ⟨B,0,none⟩)] w (GoalsQ ex R B A c l a i vn kv rv vr w):=by
 have HG:=Lib.hid hg
 have hR:=h.lt
 have HI:=Lib.hid h.ilt
 have HA:=Lib.hid ha
 have HNn:=Lib.hid hn
 have HB0:=Lib.hid hB
 have hBw:=hB.lt
 have QL:=Lib.hid (fun i w (h:Pq w R A c l i) ha hn=>show Calls Tryz.prog 105 #[.pointer (some ⟨R,0,none⟩),.int .i64 12,.func (.func 106) #[.pointer (some ⟨R,0,none⟩)] #[]] w _ from list_Gl_at hg a n 12 (by omega) (goalR ex) hH i w h ha hn)
 have Q4:=Lib.hid (QL.out i w h ha hn)
 have QX:=Lib.hid (fun (j:Nat) (s:List UInt8) (hs:s≠[]) (b:Bool) (hb:((l.getD j default).2.2==s)=b) W (hW:Pq W R A c l j)=>accept_at hg hW s hs hb)
 clear hg hH h ha hn hB
 have hBR:¬B=R:=by omega
 have hRB2:¬R=B:=by omega
 go_enter Tryz.func97,Tryz.ntmps97
 go_wp2_with fail
 refine Q4.out.mono ?_
 rintro e w2 ⟨gs,j,er,gv,rfl,hk,hp,hrow,ho⟩
 obtain ⟨gA,gc,rfl⟩:=RowG.zform hrow
 have HB2:=Lib.hid (HB0.out.kq hk hBR)
 have HK2:=Lib.hid hk
 have HP2:=Lib.hid hp
 have HR2:=Lib.hid hrow
 have hsz:w.heap.size≤w2.heap.size:=hk.size
 clear hk hp hrow
 rcases ho with ⟨rfl,hf,hij,hv,h0,hl⟩|⟨her,rfl,hkv,hf⟩
 ·have HL4:=Lib.hid (show gs.length≤12 from by have:=listS_len _ _ (Nat.le_refl _) _ _ _ _ _ hf (Nat.zero_le _);rw [List.length_map] at this;exact this)
  have HF:=Lib.hid (show goalsS ex 12 [] (leftT l i) (nsL l a i)=.ok (gs.map (rdGl.h (gL l a))) (leftT l j) (nsL l a j) by rw [goals_list ex _ _ (Nat.le_refl _) _ _ (Nat.zero_le _)];exact hf)
  have HJ:=Lib.hid hij
  have HV:=Lib.hid (show OkV l i j (gs.flatMap Gl.args) from hv)
  have H0:=Lib.hid h0
  clear hf hij hv
  obtain ⟨q0,q1,q2,q3,q4,q5,f0,f1,f2,f3,f4,f5⟩:=HB2.out.get6
  obtain ⟨b1,hb1⟩:∃b,((l.getD j default).2.2==[124])=b:=⟨_,rfl⟩
  have X1:=Lib.hid (isS_text HG.out HP2.out.ilt [124] (by decide) hb1)
  have Q1:=Lib.hid (QX.out j [124] (by decide) b1 hb1)
  cases b1
  ·
   have HPl:=Lib.hid (show goals1S ex (leftT l i) (nsL l a i)=.ok ([],gs.map (rdGl.h (gL l a))) (leftT l j) (nsL l a j) by
    simp only [goals1S,HF.out,X1.out]
    rfl)
   by_cases hone:gs.length=1∧(gs.getD 0 default).op=1
   ·have HOne:=Lib.hid hone
    obtain ⟨gg,rfl,hop,_⟩:=row_op HR2.out (by omega)
    rw [hone.2] at hop
    have hlen1:((gs.length:Nat):Int)=1:=by omega
    have hlt1:(0:Int) < (gs.length:Int):=by omega
    have hKg:=Lib.hid hop
    clear hone
    go_wp2_with (go_at_call 100;(with_reducible refine (Q1.out _ HP2.out).mono ?_);rintro en w3 ⟨rfl,hk3,hp3⟩;clear q0 q1 q2 q3 q4 q5 f0 f1 f2 f3 f4 f5 hop;have HB3:=Lib.hid (HB2.out.kq hk3 hBR);obtain ⟨q0,q1,q2,q3,q4,q5,f0,f1,f2,f3,f4,f5⟩:=HB3.out.get6;have HP3:=Lib.hid (show Pq w3 R A c l j from hp3);have HK3:=Lib.hid (HK2.out.trans hk3);have HR3:=Lib.hid (HR2.out.kq hk3 hR);obtain ⟨g2,e2,hop,_⟩:=row_op HR3.out H0.out;rw [HOne.out.2] at hop;injection e2 with e2;injection e2 with e2;subst e2;clear hk3 hp3 Q1)
    go_ret
    refine ⟨[],[],j,0,.slice none 0 0,.slice none 0 0,w.heap.size,rfl,HK3.out.kb B,HP3.out,HB3.out,RowG.nil _ _ _ _,RowG.nil _ _ _ _,Nat.le_refl _,LessG.nil _ _,.inl ⟨rfl,⟨_,HPl.out,body_one HOne.out.1 HOne.out.2⟩,HJ.out,OkV.nil _ _ _,by simp,by simp⟩⟩
   ·have HOne:=Lib.hid hone
    obtain ⟨gg,rfl,hop,_⟩:=row_op HR2.out h0
    obtain ⟨o,ho⟩:∃o,(gs.getD 0 default).op=o:=⟨_,rfl⟩
    rw [ho] at hop
    have HCase:Hid (((gs.length:Int) != 1)=true∨((gs.length:Int) != 1)=false∧(o != 1)=true):=Lib.hid (by
     by_cases e:gs.length=1
     ·exact .inr ⟨by simp [e],by rw [←ho];exact bne_iff_ne.2 fun h=>hone ⟨e,h⟩⟩
     ·exact .inl (by simp;omega))
    have HOo:=Lib.hid ho
    have hlt1:(0:Int) < (gs.length:Int):=by omega
    clear hone ho
    rcases HCase.out with hc1|⟨hc1,hc2⟩
    all_goals
     go_wp2_with (go_at_call 100;(with_reducible refine (Q1.out _ HP2.out).mono ?_);rintro en w3 ⟨rfl,hk3,hp3⟩;clear q0 q1 q2 q3 q4 q5 f0 f1 f2 f3 f4 f5 hop;have HB3:=Lib.hid (HB2.out.kq hk3 hBR);obtain ⟨q0,q1,q2,q3,q4,q5,f0,f1,f2,f3,f4,f5⟩:=HB3.out.get6;have HP3:=Lib.hid (show Pq w3 R A c l j from hp3);have HK3:=Lib.hid (HK2.out.trans hk3);have HR3:=Lib.hid (HR2.out.kq hk3 hR);obtain ⟨g2,e2,hop,_⟩:=row_op HR3.out H0.out;rw [HOo.out] at hop;injection e2 with e2;injection e2 with e2;subst e2;clear hk3 hp3 Q1)
     go_ret
     refine ⟨[],gs,j,0,.slice none 0 0,_,w.heap.size,rfl,(HK3.out.kb B).putb 4 _,HP3.out.put (p:=⟨B,4,none⟩) hRB _,HB3.out.set (j:=4) (by simp) _,RowG.nil _ _ _ _,HR3.out.put (p:=⟨B,4,none⟩) hBw _,Nat.le_refl _,LessG.nil _ _,.inl ⟨rfl,⟨_,HPl.out,body_all HOne.out⟩,HJ.out,by simpa using HV.out,by simp,HL4.out⟩⟩
  ·have HN1:=Lib.hid (show j+1 < l.length from good_next HG.out HP2.out.ilt (by rw [beq_iff_eq.1 hb1];decide))
   have Q6:=Lib.hid (fun W (hW:Pq W R A c l (j+1))=>QL.out (j+1) W hW (by have:=HA.out;have:=HJ.out;omega) (by have hn:=HNn.out;have hj:=HJ.out;rw [left_length] at hn ⊢;omega))
   go_wp2_with (go_at_call 100;(with_reducible refine (Q1.out _ HP2.out).mono ?_);rintro en w3 ⟨rfl,hk3,hp3⟩;clear q0 q1 q2 q3 q4 q5 f0 f1 f2 f3 f4 f5;have HB3:=Lib.hid (HB2.out.kq hk3 hBR);obtain ⟨q0,q1,q2,q3,q4,q5,f0,f1,f2,f3,f4,f5⟩:=HB3.out.get6;have HP3:=Lib.hid (show Pq w3 R A c l (j+1) from hp3);have HK3:=Lib.hid (HK2.out.trans hk3);have HR3:=Lib.hid (HR2.out.kq hk3 hR);have hsz3:w2.heap.size≤w3.heap.size:=hk3.size;clear hk3 hp3 Q1)
   have HB3s:=Lib.hid (HB3.out.set (j:=3) (by simp) (.slice gA gs.length gc))
   have HP3s:=Lib.hid (HP3.out.put (p:=⟨B,3,none⟩) hRB (.slice gA gs.length gc))
   have HK3s:=Lib.hid ((HK3.out.kb B).putb 3 (.slice gA gs.length gc))
   have HR3s:=Lib.hid (HR3.out.put (p:=⟨B,3,none⟩) hBw (.slice gA gs.length gc))
   refine (Q6.out _ HP3s.out).mono ?_
   rintro e w6 ⟨bs,j2,er2,bv,rfl,hk6,hp6,hrow6,ho6⟩
   obtain ⟨bA,bc,rfl⟩:=RowG.zform hrow6
   have hsz6:w3.heap.size≤w6.heap.size:=by have:=hk6.size;simpa [World.setCell] using this
   have HB6:=Lib.hid (HB3s.out.kq hk6 hBR)
   have HK6:=Lib.hid (HK3s.out.trans (Kp.kb hk6 B))
   have HP6:=Lib.hid hp6
   have HR6:=Lib.hid (HR3s.out.kq hk6 hR)
   have HRr6:=Lib.hid (show RowG elGl 59 w3.heap.size w6 (.slice bA bs.length bc) bs from hrow6.low (by simp [World.setCell]))
   have HLs:=Lib.hid (show LessG elGl (.slice gA gs.length gc) gs w3.heap.size from HR3.out.less)
   have HNs:=Lib.hid (nsL_s HP2.out.ilt X1.out (a:=a))
   clear hk6 hp6 hrow6 q0 q1 q2 q3 q4 q5 f0 f1 f2 f3 f4 f5
   obtain ⟨q0,q1,q2,q3,q4,q5,f0,f1,f2,f3,f4,f5⟩:=HB6.out.get6
   have hBw3:B < w3.heap.size:=by omega
   rcases ho6 with ⟨rfl,hf6,hij6,hv6,h06,hl6⟩|⟨her6,rfl,hrv,hf6⟩
   ·have HF6:=Lib.hid (show goalsS ex 12 [] (leftT l (j+1)) (nsL l a j)=.ok (bs.map (rdGl.h (gL l a))) (leftT l j2) (nsL l a j2) by
     rw [goals_list ex _ _ (Nat.le_refl _) _ _ (Nat.zero_le _),← HNs.out];exact hf6)
    have HL6:=Lib.hid (show bs.length≤12 from by have:=listS_len _ _ (Nat.le_refl _) _ _ _ _ _ hf6 (Nat.zero_le _);rw [List.length_map] at this;exact this)
    have HJ6:=Lib.hid hij6
    have H06:=Lib.hid h06
    have HV7:=Lib.hid (show OkV l i j2 (gs.flatMap Gl.args++bs.flatMap Gl.args) from HV.out.append (show OkV l (j+1) j2 (bs.flatMap Gl.args) from hv6) (by omega) (by have:=HJ.out;omega) (by omega))
    have HPl:=Lib.hid (show goals1S ex (leftT l i) (nsL l a i)=.ok (gs.map (rdGl.h (gL l a)),bs.map (rdGl.h (gL l a))) (leftT l j2) (nsL l a j2) by
     simp only [goals1S,HF.out,X1.out,if_true,left_tail,HF6.out])
    clear hf6 hij6 hv6
    by_cases hone:bs.length=1∧(bs.getD 0 default).op=1
    ·have HOne:=Lib.hid hone
     obtain ⟨gg,rfl,hop,_⟩:=row_op HRr6.out (by omega)
     rw [hone.2] at hop
     have hlen1:((bs.length:Nat):Int)=1:=by omega
     have hlt1:(0:Int) < (bs.length:Int):=by omega
     clear hone
     go_wp2_with fail
     go_ret
     exact ⟨gs,[],j2,0,.slice gA gs.length gc,.slice none 0 0,w6.heap.size,rfl,HK6.out,HP6.out,HB6.out,HR6.out,RowG.nil _ _ _ _,by omega,HR6.out.less,.inl ⟨rfl,⟨_,HPl.out,body_one HOne.out.1 HOne.out.2⟩,by have:=HJ.out;have:=HJ6.out;omega,by simpa using (HV.out.wide (Nat.le_refl _) (by have:=HJ6.out;omega:j≤j2)),HL4.out,by simp⟩⟩
    ·have HOne:=Lib.hid hone
     obtain ⟨gg,rfl,hop,_⟩:=row_op HRr6.out h06
     obtain ⟨o,ho⟩:∃o,(bs.getD 0 default).op=o:=⟨_,rfl⟩
     rw [ho] at hop
     have HCase:Hid (((bs.length:Int) != 1)=true∨((bs.length:Int) != 1)=false∧(o != 1)=true):=Lib.hid (by
      by_cases e:bs.length=1
      ·exact .inr ⟨by simp [e],by rw [←ho];exact bne_iff_ne.2 fun h=>hone ⟨e,h⟩⟩
      ·exact .inl (by simp;omega))
     have hlt1:(0:Int) < (bs.length:Int):=by omega
     clear hone ho
     rcases HCase.out with hc1|⟨hc1,hc2⟩
     all_goals
      go_wp2_with fail
      go_ret
      exact ⟨gs,bs,j2,0,.slice gA gs.length gc,_,w3.heap.size,rfl,HK6.out.putb 4 _,HP6.out.put (p:=⟨B,4,none⟩) hRB _,HB6.out.set (j:=4) (by simp) _,HR6.out.put (p:=⟨B,4,none⟩) hBw _,HRr6.out.put (p:=⟨B,4,none⟩) hBw3 _,by omega,HLs.out,.inl ⟨rfl,⟨_,HPl.out,body_all HOne.out⟩,by have:=HJ.out;have:=HJ6.out;omega,HV7.out,HL4.out,HL6.out⟩⟩
   ·have HE6:=Lib.hid her6
    have HF6:=Lib.hid (show goalsS ex 12 [] (leftT l (j+1)) (nsL l a j)=.err (leftT l j2).length er2 by
     rw [goals_list ex _ _ (Nat.le_refl _) _ _ (Nat.zero_le _),← HNs.out];exact hf6)
    clear her6 hf6 hrv
    go_wp2_with fail
    go_ret
    refine ⟨gs,[],j2,er2,.slice gA gs.length gc,_,w3.heap.size,rfl,HK6.out.putb 4 _,HP6.out.put (p:=⟨B,4,none⟩) hRB _,HB6.out.set (j:=4) (by simp) _,HR6.out.put (p:=⟨B,4,none⟩) hBw _,HRr6.out.put (p:=⟨B,4,none⟩) hBw3 _,by omega,HLs.out,.inr ⟨HE6.out,?_⟩⟩
    simp only [goals1S,HF.out,X1.out,if_true,left_tail,HF6.out]
 ·have hne:(er==0)=false:=by simpa using her
  have HE:=Lib.hid her
  have HF:=Lib.hid (show goalsS ex 12 [] (leftT l i) (nsL l a i)=.err (leftT l j).length er by rw [goals_list ex _ _ (Nat.le_refl _) _ _ (Nat.zero_le _)];exact hf)
  obtain ⟨q0,q1,q2,q3,q4,q5,f0,f1,f2,f3,f4,f5⟩:=HB2.out.get6
  clear her hf hkv
  go_wp2_with fail
  go_ret
  refine ⟨[],[],j,er,.slice none 0 0,_,w.heap.size,rfl,(HK2.out.kb B).putb 4 _,HP2.out.put (p:=⟨B,4,none⟩) hRB _,HB2.out.set (j:=4) (by simp) _,RowG.nil _ _ _ _,HR2.out.put (p:=⟨B,4,none⟩) hBw _,Nat.le_refl _,LessG.nil _ _,.inr ⟨HE.out,?_⟩⟩
  simp only [goals1S,HF.out]
end
end Go.Proofs.YtnghanpmmbcbbaaGreatDoor
namespace Go.Proofs.YtnghanpmmbcbbaaGreatDoor
open Go.RowKit Go.Maps
section
variable {R:Nat} {A:Option Addr} {c:Nat} {l:List Tk}
def RnameQ (R:Nat) (A:Option Addr) (c:Nat) (l:List Tk) (a i:Nat) (w:World) (en:Ending) (w':World):Prop :=
 ∃(t:List UInt8) (er:Int) (j:Nat),en=.returned (.tuple #[.string (S t),.int .i64 er])∧Kq R w w'∧Pq w' R A c l j∧t.length≤16384 ∧
  ((er=0∧i≤j∧labelS (leftT l i) (nsL l a i)=.ok t (leftT l j) (nsL l a j))∨((er=16∨er=7)∧j=i∧(labelS (leftT l i) (nsL l a i)=.err (leftT l i).length er∨labelS (leftT l i) (nsL l a i)=.ok [] (leftT l i) (nsL l a i)∧∀ns,nmS (leftT l i) ns=.err (leftT l i).length er)))
set_option maxHeartbeats 4000000 in
set_option maxRecDepth 10000 in
theorem rname_at (hg:GoodT l) (a i:Nat) (w:World) (h:Pq w R A c l i) :
  Calls Tryz.prog 95 #[.pointer (some ⟨R,0,none⟩)] w (RnameQ R A c l a i w):=by
 have HG:=Lib.hid hg
 have HI:=Lib.hid h.ilt
 have l1:=h.l1
 have Q:=Lib.hid (p_name_at hg h)
 have QX:=Lib.hid (fun (b:Bool) (hb:((l.getD (i+1) default).2.2==[64])=b) W (hW:Pq W R A c l (i+1))=>accept_at hg hW [64] (by decide) hb)
 clear h hg
 go_enter Tryz.func95,Tryz.ntmps95
 go_wp2_with fail
 refine Q.out.mono ?_
 rintro e w2 ⟨t,er,j,rfl,hk,hp,ht,ho⟩
 have HK:=Lib.hid hk
 have HP:=Lib.hid hp
 have HT:=Lib.hid ht
 clear hk hp ht
 rcases ho with ⟨rfl,rfl,hte,hf⟩|⟨her,rfl,rfl,hf⟩
 ·have HF:=Lib.hid hf
  have hk1:(l.getD i default).1=1:=by
   have:=hf []
   rw [left_cons HI.out,nmS] at this
   split at this
   ·cases this
   ·rename_i h1;simpa using h1
  have HK1:=Lib.hid hk1
  have HNs:=Lib.hid (nsL_no (a:=a) hk1 (by decide))
  obtain ⟨b,hb⟩:∃b,((l.getD (i+1) default).2.2==[64])=b:=⟨_,rfl⟩
  have X1:=Lib.hid (isS_text HG.out HP.out.ilt [64] (by decide) hb)
  have Q1:=Lib.hid (QX.out b hb)
  have HLb:=Lib.hid (show labelS (leftT l i) (nsL l a i)=if b=true then .ok t (leftT l (i+2)) (nsL l a i) else .ok [] (leftT l i) (nsL l a i) by
   have hX:=X1.out
   have hF:=HF.out (nsL l a i)
   rw [left_cons HI.out] at hF ⊢
   simp only [labelS,hk1,hX]
   rw [hk1] at hF
   cases b
   ·simp
   ·simp only [and_self,if_true,hF,left_tail])
  clear hf hte hk1
  cases b
  ·have l2:=HP.out.l1
   have lf:=HP.out.fr 1
   go_wp2_with (go_at_call 100;(with_reducible refine (Q1.out _ HP.out).mono ?_);rintro en w3 ⟨rfl,hk3,hp3⟩;have HP3:=Lib.hid (show Pq w3 R A c l (i+1) from hp3);have HK3:=Lib.hid (HK.out.trans hk3);clear l2 lf;have l2:=HP3.out.l1;have lf:=HP3.out.fr 1;clear hk3 hp3)
   refine bodyPost_ret (v:=.tuple #[.string ⟨#[]⟩,.int .i64 0]) (by simp [results,Tryz.results95,go_sem]) rfl ?_
   exact ⟨[],0,i,rfl,HK3.out.set 1 none _,HP3.out.set (q:=i) HI.out,by simp,.inl ⟨rfl,Nat.le_refl _,by rw [HLb.out];simp⟩⟩
  ·go_wp2_with (go_at_call 100;(with_reducible refine (Q1.out _ HP.out).mono ?_);rintro en w3 ⟨rfl,hk3,hp3⟩;have HP3:=Lib.hid (show Pq w3 R A c l (i+2) from hp3);have HK3:=Lib.hid (HK.out.trans hk3);clear hk3 hp3)
   refine bodyPost_ret (v:=.tuple #[.string (S t),.int .i64 0]) (by simp [results,Tryz.results95,go_sem]) rfl ?_
   refine ⟨t,0,i+2,rfl,HK3.out,HP3.out,HT.out,.inl ⟨rfl,by omega,?_⟩⟩
   rw [HLb.out,show nsL l a (i+2)=nsL l a (i+1) from nsL_s HP.out.ilt X1.out,HNs.out]
   first|exact if_pos rfl|exact if_pos trivial|simp
 ·have hne:(er==0)=false:=by rcases her with rfl|rfl<;>rfl
  have HF:=Lib.hid hf
  have HE:=Lib.hid her
  clear her hf
  go_wp2_with fail
  refine bodyPost_ret (v:=.tuple #[.string (S []),.int .i64 er]) (by simp [results,Tryz.results95,go_sem]) rfl ?_
  refine ⟨[],er,j,rfl,HK.out,HP.out,by simp,.inr ⟨HE.out,rfl,?_⟩⟩
  have hF:=HF.out
  rw [left_cons HI.out] at hF ⊢
  simp only [labelS]
  by_cases h1:(l.getD j default).1=1∧isS [64] (leftT l (j+1))=true
  ·rw [if_pos h1]
   exact .inl (by simp only [hF])
  ·rw [if_neg h1]
   exact .inr ⟨rfl,hF⟩
end
theorem new_numbering_at (A:Option Addr) (c:Nat) (l:List Tk) (w:World) (ht:TLst w A l c) (hlow:∀g,A=some ⟨g,0,none⟩→g < w.heap.size) :
  Calls Tryz.prog 140 #[.slice A l.length c] w fun e w'=>e=.returned (.pointer (some ⟨w.heap.size+1,0,none⟩))∧Below w.heap.size w w'∧NumS w' (w.heap.size+1) w.heap.size A c l (.slice none 0 0) []:=by
 have HT:=Lib.hid ht
 have HL:=Lib.hid hlow
 have hmm:=@run_makeMap Tryz.prog
 clear ht hlow
 go_enter Tryz.func140,Tryz.ntmps140
 go_wp2_with fail
 go_ret
 have hb1:=(Below.refl w.heap.size w).alloc (Nat.le_refl _) (.map #[] 0)
 have hb2:=hb1.alloc (by simp) (.cells #[.slice A l.length c,.map (some w.heap.size),.slice none 0 0] 182)
 have hbox:=BoxL.new (w.alloc (.map #[] 0)) [.slice A l.length c,.map (some w.heap.size),.slice none 0 0] 182
 rw [show (w.alloc (.map #[] 0)).heap.size=w.heap.size+1 by simp] at hbox
 refine ⟨rfl,hb2,hbox,by omega,⟨_,NmMap.nil,?_⟩,⟨rfl,.inl ⟨rfl,rfl⟩⟩,HT.out.below hb2,HL.out⟩
 exact (World.ownsMap_made w Tryz.prog 9 (plainElem Tryz.prog 3)).alloc _
end Go.Proofs.YtnghanpmmbcbbaaGreatDoor
