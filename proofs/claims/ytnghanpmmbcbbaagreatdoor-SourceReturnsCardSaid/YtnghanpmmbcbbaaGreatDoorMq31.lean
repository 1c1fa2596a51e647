/-
  SnRule.
  SnQuery.
  SnBuild.
 SnProg.
 SwWrites.
-/
import Derived.Test.YtnghanpmmbcbbaaGreatDoorMq30
import Derived.Test.YtnghanpmmbcbbaaGreatDoorMq18
import Derived.Test.YtnghanpmmbcbbaaGreatDoorMq12
import Derived.Deep.RegionHeld3
import Derived.Test.YtnghanpmmbcbbaaGreatDoorMq21
import Derived.Shelf.Strings.Builder1
import Derived.Test.YtnghanpmmbcbbaaGreatDoorProg
import Derived.Test.YtnghanpmmbcbbaaGreatDoorMq29
namespace Go.Proofs.YtnghanpmmbcbbaaGreatDoor
open Go.RowKit
theorem txt_parts (u:Rl):u.txt=nameTx u.name++headsTx u.keep u.remove++guardTx u.guard++bodyTx u.body++[46]:=by
 unfold Rl.txt Rl.labT Rl.bodT nameTx guardTx bodyTx
 rw [heads_eq]
 simp only [List.append_assoc]
theorem parts_len (u:Rl) (hn:u.name.size≤100000) (h:u.Tiny):(nameTx u.name).length≤100003∧(headsTx u.keep u.remove).length≤80000010∧(guardTx u.guard).length≤100000003∧(bodyTx u.body).length≤100000004:=by
 have h1:=txtAm_len u.keep
 have h2:=txtAm_len u.remove
 have h3:=txtGl_len u.guard
 have h4:=txtGl_len u.body
 have a1:=Nat.mul_le_mul_right 100002 h.k1
 have a2:=Nat.mul_le_mul_right 100002 h.r1
 have a3:=Nat.mul_le_mul_right 300002 h.g1
 have a4:=Nat.mul_le_mul_right 300002 h.b1
 have e:u.name.data.toList.length=u.name.size:=Array.length_toList
 refine ⟨?_,?_,?_,?_⟩
 ·unfold nameTx
  split
  ·simp
  ·simp only [List.length_append,List.length_cons,List.length_nil];omega
 ·unfold headsTx
  split
  ·simp only [List.length_append,List.length_cons,List.length_nil];omega
  ·split<;>simp only [List.length_append,List.length_cons,List.length_nil]<;>omega
 ·unfold guardTx
  split
  ·simp
  ·simp only [List.length_append,List.length_cons,List.length_nil];omega
 ·unfold bodyTx
  split
  ·simp
  ·omega
set_option maxHeartbeats 16000000 in
set_option maxRecDepth 100000 in
theorem rule_text_at (r:Rl) (w:World) (h:r.At w) (hs:r.Tiny) (hn:r.name.size≤100000) (hL:Laid w) :
  Calls Tryz.prog 10 #[r.val] w fun e w'=>e=.returned (.string (S r.numR.src))∧Below w.heap.size w w':=by
 obtain ⟨src,hsrc⟩:∃s,r.numR.src=s:=⟨_,rfl⟩
 rw [hsrc]
 have HSrc0:=Lib.hid hsrc
 clear hsrc
 obtain ⟨X,hX⟩:∃X,w.alloc (.cells #[.string r.name,.slice r.kA r.keep.length r.kc,.slice r.rA r.remove.length r.rc,.slice r.gA r.guard.length r.gc,.slice r.bA r.body.length r.bc,.int .i64 r.vars] 25)=X:=⟨_,rfl⟩
 have H0:=Lib.hid (show HeldL w.heap.size X [.string r.name,.slice r.kA r.keep.length r.kc,.slice r.rA r.remove.length r.rc,.slice r.gA r.guard.length r.gc,.slice r.bA r.body.length r.bc,.int .i64 r.vars] from by rw [←hX];exact heldL_new _ _ _)
 have HX:=Lib.hid (show Ext w X from by rw [←hX];exact below1 _ _)
 have HXs:=Lib.hid (show X.heap.size=w.heap.size+1 from by rw [←hX];simp)
 have QN:=Lib.hid (number_rule_at r w X h HX.out hs)
 have HSm:=Lib.hid hs
 have HNm:=Lib.hid hn
 have HAt:=Lib.hid h
 have HLd:=Lib.hid hL
 clear h hs hn hL
 show Calls Tryz.prog 10 #[.agg #[.string r.name,.slice r.kA r.keep.length r.kc,.slice r.rA r.remove.length r.rc,.slice r.gA r.guard.length r.gc,.slice r.bA r.body.length r.bc,.int .i64 r.vars]] w _
 go_enter Tryz.func10,Tryz.ntmps10
 go_upto_region 1 with (fail)
 (try rw [hX])
 clear hX
 have p00:=(H0.out).cell 0 _ rfl
 have p01:=(H0.out).cell 1 _ rfl
 have p02:=(H0.out).cell 2 _ rfl
 have p03:=(H0.out).cell 3 _ rfl
 have p04:=(H0.out).cell 4 _ rfl
 have p05:=(H0.out).cell 5 _ rfl
 have pf0:=H0.out.free 0
 have pf1:=H0.out.free 1
 have pf2:=H0.out.free 2
 have pf3:=H0.out.free 3
 have pf4:=H0.out.free 4
 have pf5:=H0.out.free 5
 go_wp2_with fail
 refine QN.out.mono ?_
 rintro e Y ⟨u,rfl,hlike,hat,hby⟩
 have HT:=Lib.hid (like_num hlike)
 have HLk:=Lib.hid hlike
 have HY:=Lib.hid hby
 have HB1:=Lib.hid (H0.out.below hby)
 clear hlike QN p00 p01 p02 p03 p04 p05 pf0 pf1 pf2 pf3 pf4 pf5
 have q0:=(HB1.out).cell 0 _ rfl
 have q1:=(HB1.out).cell 1 _ rfl
 have q2:=(HB1.out).cell 2 _ rfl
 have q3:=(HB1.out).cell 3 _ rfl
 have q4:=(HB1.out).cell 4 _ rfl
 have q5:=(HB1.out).cell 5 _ rfl
 have qf0:=HB1.out.free 0
 have qf1:=HB1.out.free 1
 have qf2:=HB1.out.free 2
 have qf3:=HB1.out.free 3
 have qf4:=HB1.out.free 4
 have qf5:=HB1.out.free 5
 have qz:=HB1.out.lt
 go_upto_region 2 with (fail)
 obtain ⟨W1,hW1⟩:∃W1,((((((Y.setCell ⟨w.heap.size,0,none⟩ (.string u.name)).setCell ⟨w.heap.size,1,none⟩ (.slice u.kA u.keep.length u.kc)).setCell ⟨w.heap.size,2,none⟩ (.slice u.rA u.remove.length u.rc)).setCell ⟨w.heap.size,3,none⟩ (.slice u.gA u.guard.length u.gc)).setCell ⟨w.heap.size,4,none⟩ (.slice u.bA u.body.length u.bc)).setCell ⟨w.heap.size,5,none⟩ (.int .i64 u.vars))=W1:=⟨_,rfl⟩
 have HU1:=Lib.hid (show HeldL w.heap.size W1 [.string u.name,.slice u.kA u.keep.length u.kc,.slice u.rA u.remove.length u.rc,.slice u.gA u.guard.length u.gc,.slice u.bA u.body.length u.bc,.int .i64 u.vars] from by
  rw [←hW1]
  exact (((((HB1.out.set (j:=0) (by simp) _).set (j:=1) (by simp) _).set (j:=2) (by simp) _).set (j:=3) (by simp) _).set (j:=4) (by simp) _).set (j:=5) (by simp) _)
 have hfar:∀b,w.heap.size < b→W1.heap[b]?=Y.heap[b]?:=fun b hb=>by
  have hne:∀j,b≠(⟨w.heap.size,j,none⟩:Addr).block:=fun j=>by show b≠w.heap.size;omega
  rw [←hW1,Below.heap_setCell _ _ _ _ (hne 5),Below.heap_setCell _ _ _ _ (hne 4),Below.heap_setCell _ _ _ _ (hne 3),Below.heap_setCell _ _ _ _ (hne 2),Below.heap_setCell _ _ _ _ (hne 1),Below.heap_setCell _ _ _ _ (hne 0)]
 have hsize:W1.heap.size=Y.heap.size:=by rw [←hW1];simp [World.setCell]
 have HW1:=Lib.hid (show Ext w W1 from by
  rw [←hW1]
  exact (((((((Ext.trans HX.out HY.out:Below w.heap.size w Y).setCell (p:=⟨w.heap.size,0,none⟩) (Nat.le_refl _) _).setCell (p:=⟨w.heap.size,1,none⟩) (Nat.le_refl _) _).setCell (p:=⟨w.heap.size,2,none⟩) (Nat.le_refl _) _).setCell (p:=⟨w.heap.size,3,none⟩) (Nat.le_refl _) _).setCell (p:=⟨w.heap.size,4,none⟩) (Nat.le_refl _) _).setCell (p:=⟨w.heap.size,5,none⟩) (Nat.le_refl _) _))
 have HUat:=Lib.hid (fun (W:World) (h:Ext W1 W)=>show u.At W from hat W (Ext.trans HW1.out h) fun b h1 h2 _=>(h.block b (by rw [hsize];exact h2)).trans (hfar b (by have:=HXs.out;omega)))
 rw [hW1]
 clear hW1 hat hfar hsize HB1 HY q0 q1 q2 q3 q4 q5 qf0 qf1 qf2 qf3 qf4 qf5 qz
 have HTw:=Lib.hid (show src=u.src by rw [←HSrc0.out,HT.out.src])
 have HSz:=Lib.hid (show u.Tiny∧u.name.size≤100000 from ⟨like_tiny HLk.out (show Rl.Tiny { r with vars:=(r.vs.length:Int) } from ⟨HSm.out.k1,HSm.out.k2,HSm.out.r1,HSm.out.r2,HSm.out.g1,HSm.out.g2,HSm.out.b1,HSm.out.b2⟩),by rw [HLk.out.name];exact HNm.out⟩)
 have HLW:=Lib.hid (fun (W:World) (h:Ext W1 W)=>HLd.out.below (Ext.trans HW1.out h))
 have QR:=Lib.hid (fun (q:Bool) (hq:u.goodB=q)=>right_rule_at u W1 (HUat.out W1 (Ext.refl _)) HSz.out.1 HSz.out.2 hq)
 have z0:=HU1.out.cell 0 _ rfl
 have z1:=HU1.out.cell 1 _ rfl
 have z2:=HU1.out.cell 2 _ rfl
 have z3:=HU1.out.cell 3 _ rfl
 have z4:=HU1.out.cell 4 _ rfl
 have z5:=HU1.out.cell 5 _ rfl
 by_cases hg:u.goodB=true
 ·have QG:=Lib.hid (QR.out true hg)
  have HSrc:=Lib.hid (show S src=S (limT u.txt) by rw [HTw.out,src_good ((good_iff u).1 hg)])
  have HC:=Lib.hid (fun W (hb:Ext W1 W)=>(⟨(HU1.out.below hb).cell 0 _ rfl,(HU1.out.below hb).cell 1 _ rfl,(HU1.out.below hb).cell 2 _ rfl,(HU1.out.below hb).cell 3 _ rfl,(HU1.out.below hb).cell 4 _ rfl⟩:W.cell? ⟨w.heap.size,0,none⟩=some (.string u.name)∧W.cell? ⟨w.heap.size,1,none⟩=some (.slice u.kA u.keep.length u.kc)∧W.cell? ⟨w.heap.size,2,none⟩=some (.slice u.rA u.remove.length u.rc)∧W.cell? ⟨w.heap.size,3,none⟩=some (.slice u.gA u.guard.length u.gc)∧W.cell? ⟨w.heap.size,4,none⟩=some (.slice u.bA u.body.length u.bc)))
  obtain ⟨l1,l2,l3,l4⟩:=parts_len u HSz.out.2 HSz.out.1
  have P1:=Lib.hid (fun (W:World)=>text_name_at u.name (by have:=HSz.out.2;omega) W)
  have P2:=Lib.hid (fun (W:World) (h:Ext W1 W)=>text_heads_at u.keep u.remove u.kA u.rA u.kc u.rc W (HUat.out W h).keep (HUat.out W h).remove HSz.out.1.k1 HSz.out.1.r1 (HLW.out W h))
  have P3:=Lib.hid (fun (W:World) (h:Ext W1 W)=>text_guard_at u.guard u.gA u.gc W (HUat.out W h).guard HSz.out.1.g1 (HLW.out W h))
  have P4:=Lib.hid (fun (W:World) (h:Ext W1 W)=>text_body_at u.body u.bA u.bc W (HUat.out W h).body HSz.out.1.b1 (HLW.out W h))
  have P5:=Lib.hid (fun (W:World)=>unless_at u.txt (by rw [txt_parts];simp only [List.length_append,List.length_cons,List.length_nil];omega) W)
  have hcat:S u.txt=S (nameTx u.name)++S (headsTx u.keep u.remove)++S (guardTx u.guard)++S (bodyTx u.body)++⟨#[46]⟩:=by
   apply WideShapes.bytes_inj
   rw [show (S u.txt).data.toList=u.txt from rfl,txt_parts]
   simp
  rw [hcat] at P5
  obtain ⟨sa,ha⟩:∃s,S (nameTx u.name)=s:=⟨_,rfl⟩
  obtain ⟨sb,hb⟩:∃s,S (headsTx u.keep u.remove)=s:=⟨_,rfl⟩
  obtain ⟨sg,hgg⟩:∃s,S (guardTx u.guard)=s:=⟨_,rfl⟩
  obtain ⟨sd,hd⟩:∃s,S (bodyTx u.body)=s:=⟨_,rfl⟩
  have m1:sa.size≤100003:=by rw [←ha];exact l1
  have m2:sb.size≤80000010:=by rw [←hb];exact l2
  have m3:sg.size≤100000003:=by rw [←hgg];exact l3
  have m4:sd.size≤100000004:=by rw [←hd];exact l4
  rw [ha,hb,hgg,hd] at P5
  rw [ha] at P1
  rw [hb] at P2
  rw [hgg] at P3
  rw [hd] at P4
  have s1:¬9223372036854775807 < sa.size+sb.size:=by omega
  have s2:¬9223372036854775807 < sa.size+sb.size+sg.size:=by omega
  have s3:¬9223372036854775807 < sa.size+sb.size+sg.size+sd.size:=by omega
  have s4:¬9223372036854775807 < sa.size+sb.size+sg.size+sd.size+1:=by omega
  clear hg hcat ha hb hgg hd l1 l2 l3 l4 QR m1 m2 m3 m4
  go_wp2_with fail
  refine QG.out.mono ?_
  rintro e Y2 ⟨rfl,hy2⟩
  have E0:=Lib.hid (show Ext W1 Y2 from hy2)
  clear hy2 z0 z1 z2 z3 z4 z5
  go_upto_region 4 with (fail)
  go_region_held3 (fun W=>W.cell? ⟨w.heap.size,0,none⟩=some (.string u.name)∧W.cell? ⟨w.heap.size,1,none⟩=some (.slice u.kA u.keep.length u.kc)∧W.cell? ⟨w.heap.size,2,none⟩=some (.slice u.rA u.remove.length u.rc)∧W.cell? ⟨w.heap.size,3,none⟩=some (.slice u.gA u.guard.length u.gc)∧W.cell? ⟨w.heap.size,4,none⟩=some (.slice u.bA u.body.length u.bc)) (first|(with_reducible exact HC.out _ (Ext.trans E0.out (Ext.drew _)))|(with_reducible exact HC.out _ E4.out)|(with_reducible exact HC.out _ E3.out)|(with_reducible exact HC.out _ E2.out)|fail) (first
   | (go_at_call 35;(with_reducible refine (P1.out Y2.drew).mono ?_);rintro e y1 ⟨rfl,rfl⟩)
   | (go_at_call 36;(with_reducible refine (P2.out Y2.drew (Ext.trans E0.out (Ext.drew _))).mono ?_);rintro e y2 ⟨rfl,h1⟩;have E2:=Lib.hid (show Ext W1 y2 from Ext.trans (Ext.trans E0.out (Ext.drew _)) h1);clear h1)
   | (go_at_call 37;(with_reducible refine (P3.out y2 E2.out).mono ?_);rintro e y3 ⟨rfl,h1⟩;have E3:=Lib.hid (show Ext W1 y3 from Ext.trans E2.out h1);clear h1)
   | (go_at_call 38;(with_reducible refine (P4.out y3 E3.out).mono ?_);rintro e y4 ⟨rfl,h1⟩;have E4:=Lib.hid (show Ext W1 y4 from Ext.trans E3.out h1);clear h1)
   | (go_at_call 34;(with_reducible refine (P5.out y4).mono ?_);rintro e y5 ⟨rfl,rfl⟩)
   | fail)
  all_goals
   go_wp2_with fail
   go_ret
   exact ⟨ret_str HSrc.out.symm,Ext.trans HW1.out E4.out⟩
 ·have QG:=Lib.hid (QR.out false (by simpa using hg))
  have HSrc:=Lib.hid (show S src=⟨#[]⟩ by rw [HTw.out,src_bad (fun h=>hg ((good_iff u).2 h))])
  clear hg QR
  go_wp2_with fail
  refine QG.out.mono ?_
  rintro e Y2 ⟨rfl,hy2⟩
  go_wp2_with fail
  go_ret
  exact ⟨ret_str HSrc.out.symm,Ext.trans HW1.out hy2⟩
end Go.Proofs.YtnghanpmmbcbbaaGreatDoor
namespace Go.Proofs.YtnghanpmmbcbbaaGreatDoor
open Go.RowKit
theorem goals_text_at (l:List Gl) (A:Option Addr) (c:Nat) (w:World) (hl:GlLst w A l c) (hL:Laid w) :
  Calls Tryz.prog 18 #[.slice A l.length c] w fun e w'=>e=.returned (.string (S (goalsSrc l)))∧Below w.heap.size w w':=by
 obtain ⟨q,hq⟩:∃q,(decide (l.length≤40)&&allGl l)=q:=⟨_,rfl⟩
 have Q:=Lib.hid (right_goals_at l A c 40 w hl hq)
 obtain ⟨src,hs⟩:∃s,goalsSrc l=s:=⟨_,rfl⟩
 rw [hs]
 have hll:=hl.len
 cases q
 ·have HE:=Lib.hid (show S src=⟨#[]⟩ by
   rw [←hs,goalsSrc,if_neg]
   rintro ⟨h1,h2⟩
   rw [h1,decide_eq_true h2] at hq
   cases hq)
  clear hl hL hq hs
  go_enter Tryz.func18,Tryz.ntmps18
  go_wp2_with fail
  refine Q.out.mono ?_
  rintro e w1 ⟨rfl,hb⟩
  go_wp2_with fail
  go_ret
  exact ⟨ret_str HE.out.symm,hb⟩
 ·rw [Bool.and_eq_true,decide_eq_true_eq] at hq
  have HE:=Lib.hid (show limT (txtGl l)=src by rw [←hs,goalsSrc,if_pos ⟨hq.2,hq.1⟩])
  have QT:=Lib.hid (fun W (h:Below w.heap.size w W)=>text_goals_at l A c W (hl.below h) (by omega) (hL.below h))
  have QU:=Lib.hid (fun W=>unless_at (txtGl l) (by have:=txtGl_len l;have:=Nat.mul_le_mul_right 300002 hq.1;omega) W)
  rw [HE.out] at QU
  clear hl hL hq hs
  go_enter Tryz.func18,Tryz.ntmps18
  go_wp2_with fail
  refine Q.out.mono ?_
  rintro e w1 ⟨rfl,hb⟩
  have HB:=Lib.hid hb
  clear hb
  go_wp2_with fail
  refine (QT.out w1 HB.out).mono ?_
  rintro e w2 ⟨rfl,hb2⟩
  have HB2:=Lib.hid (HB.out.trans (hb2.mono HB.out.size))
  clear hb2
  go_wp2_with fail
  refine (QU.out w2).mono ?_
  rintro e w3 ⟨rfl,rfl⟩
  go_wp2_with fail
  go_ret
  exact ⟨rfl,HB2.out⟩
end Go.Proofs.YtnghanpmmbcbbaaGreatDoor
namespace Go.Proofs
open Go.Shelf
def Tryz.sb_ren:Go.Shelf.Ren:=⟨fun|166=>50|240=>86|276=>127|n=>n,fun|0=>0|3=>3|4=>4|9=>9|20=>20|37=>87|70=>86|72=>89|75=>91|164=>165|5=>5|80=>96|n=>n,fun|n=>n⟩
theorem Tryz.sb_lays:Go.Proofs.Lays.n166 Tryz.prog Tryz.sb_ren:={
 mixed:=by kernel_rfl
 f166:=Tryz.func50.trans (congrArg some (by kernel_rfl))
 f240:=Tryz.func86.trans (congrArg some (by kernel_rfl))
 f276:=Tryz.func127.trans (congrArg some (by kernel_rfl))
 t0:=Tryz.underlying0
 a0:=Tryz.isAgg0
 z0:=Tryz.sizeOf0
 v0:=Tryz.zeroValue0
 t3:=Tryz.underlying3
 a3:=Tryz.isAgg3
 z3:=Tryz.sizeOf3
 v3:=Tryz.zeroValue3
 t4:=Tryz.underlying4
 a4:=Tryz.isAgg4
 z4:=Tryz.sizeOf4
 v4:=Tryz.zeroValue4
 t9:=Tryz.underlying9
 a9:=Tryz.isAgg9
 z9:=Tryz.sizeOf9
 v9:=Tryz.zeroValue9
 t20:=Tryz.underlying20
 a20:=Tryz.isAgg20
 z20:=Tryz.sizeOf20
 v20:=Tryz.zeroValue20
 t37:=Tryz.underlying87
 a37:=Tryz.isAgg87
 z37:=Tryz.sizeOf87
 v37:=Tryz.zeroValue87
 t70:=Tryz.underlying86
 a70:=Tryz.isAgg86
 z70:=Tryz.sizeOf86
 v70:=Tryz.zeroValue86
 t72:=Tryz.underlying89
 a72:=Tryz.isAgg89
 z72:=Tryz.sizeOf89
 v72:=Tryz.zeroValue89
 t75:=Tryz.underlying91
 a75:=Tryz.isAgg91
 z75:=Tryz.sizeOf91
 v75:=Tryz.zeroValue91
 t164:=Tryz.underlying165
 a164:=Tryz.isAgg165
 z164:=Tryz.sizeOf165
 v164:=Tryz.zeroValue165 }
theorem Tryz.sb_extra:Builder.Extra Tryz.prog Tryz.sb_ren:={
 sizeBuilder:=by kernel_rfl
 liesBuilder:=by kernel_rfl
 t5:=Tryz.underlying5
 a5:=Tryz.isAgg5
 z5:=Tryz.sizeOf5
 v5:=Tryz.zeroValue5
 infoByte:=by kernel_rfl
 cellsByte:=by kernel_rfl
 sizeByte:=by kernel_rfl
 neB5:=by decide }
open Go.RowKit in
theorem Tryz.sb_write (B b:Nat) (bs:List Value) (s:ByteArray) (w:World) (h:Lib.IsBuilder 89 5 B b bs w) (hlen:bs.length+s.size≤140737488355328) (hBw:B≤w.heap.size) :
  Calls Tryz.prog 50 #[.pointer (some ⟨b,0,none⟩),.string s] w fun e w'=>e=.returned (.tuple #[.int .i64 s.size,.nilIface])∧(Lib.BuilderAt 89 5 B b (.pointer (some ⟨b,0,none⟩)) (bs++Lib.strCells s) w'∧Below B w w'):=Any.Builder_WriteString Tryz.sb_lays Tryz.sb_extra B b bs s w h hlen hBw
def Tryz.sb_ren2:Go.Shelf.Ren:=⟨fun|169=>53|n=>n,fun|0=>0|3=>3|9=>9|37=>87|70=>86|72=>89|127=>125|5=>5|n=>n,fun|n=>n⟩
theorem Tryz.sb_lays2:Go.Proofs.Lays.n169 Tryz.prog Tryz.sb_ren2:={
 mixed:=by kernel_rfl
 f169:=Tryz.func53.trans (congrArg some (by kernel_rfl))
 t0:=Tryz.underlying0
 a0:=Tryz.isAgg0
 z0:=Tryz.sizeOf0
 v0:=Tryz.zeroValue0
 t3:=Tryz.underlying3
 a3:=Tryz.isAgg3
 z3:=Tryz.sizeOf3
 v3:=Tryz.zeroValue3
 t9:=Tryz.underlying9
 a9:=Tryz.isAgg9
 z9:=Tryz.sizeOf9
 v9:=Tryz.zeroValue9
 t37:=Tryz.underlying87
 a37:=Tryz.isAgg87
 z37:=Tryz.sizeOf87
 v37:=Tryz.zeroValue87
 t70:=Tryz.underlying86
 a70:=Tryz.isAgg86
 z70:=Tryz.sizeOf86
 v70:=Tryz.zeroValue86
 t72:=Tryz.underlying89
 a72:=Tryz.isAgg89
 z72:=Tryz.sizeOf89
 v72:=Tryz.zeroValue89
 t127:=Tryz.underlying125
 a127:=Tryz.isAgg125
 z127:=Tryz.sizeOf125
 v127:=Tryz.zeroValue125 }
theorem Tryz.sb_extra2:Builder.Extra Tryz.prog Tryz.sb_ren2:={
 sizeBuilder:=by kernel_rfl
 liesBuilder:=by kernel_rfl
 t5:=Tryz.underlying5
 a5:=Tryz.isAgg5
 z5:=Tryz.sizeOf5
 v5:=Tryz.zeroValue5
 infoByte:=by kernel_rfl
 cellsByte:=by kernel_rfl
 sizeByte:=by kernel_rfl
 neB5:=by decide }
open Go.RowKit in
theorem Tryz.sb_string (B b:Nat) (l:List UInt8) (w:World) (h:Lib.IsBuilder 89 5 B b (Lib.byteCells l) w) (hBw:B≤w.heap.size) :
  Calls Tryz.prog 53 #[.pointer (some ⟨b,0,none⟩)] w fun e w'=>e=.returned (.string ⟨l.toArray⟩)∧Below B w w':=Any.Builder_String_any Tryz.sb_lays2 Tryz.sb_extra2 B b l w h hBw
end Go.Proofs
namespace Go.Proofs.YtnghanpmmbcbbaaGreatDoor
open Go.RowKit
abbrev Bld (B:Nat) (l:List UInt8) (w:World):Prop:=Lib.IsBuilder 89 5 B B (Lib.byteCells l) w
theorem Bld.lt {B:Nat} {l:List UInt8} {w:World} (h:Bld B l w):B < w.heap.size:=by
 rcases h with h|h<;>exact h.lt
theorem bld_keep {B:Nat} {l:List UInt8} {w w':World} (h:Bld B l w) (hb:Below w.heap.size w w'):Bld B l w':=by
 have k:∀{p:Value},Lib.BuilderAt 89 5 B B p (Lib.byteCells l) w→Lib.BuilderAt 89 5 B B p (Lib.byteCells l) w':=by
  rintro p ⟨h1,v,h2,h3,h4⟩
  have hlt:B < w.heap.size:=by
   rcases Nat.lt_or_ge B w.heap.size with h|h
   ·exact h
   ·rw [Array.getElem?_eq_none h] at h2;cases h2
  exact ⟨h1,v,(hb.block B hlt).trans h2,own_of h3 fun k hk=>hb.block k (own_lt h3 k hk).2,h4⟩
 exact h.elim (fun h=>.inl (k h)) (fun h=>.inr (k h))
theorem write_at (B:Nat) (l s:List UInt8) (w:World) (h:Bld B l w) (hl:l.length+s.length≤1000000000) :
  Calls Tryz.prog 50 #[.pointer (some ⟨B,0,none⟩),.string (S s)] w fun e w'=>∃v,e=.returned v∧v=.tuple #[.int .i64 (s.length:Int),.nilIface]∧Bld B (l++s) w'∧Below B w w':=by
 have hsz:(S s).size=s.length:=by show s.toArray.size=_;simp
 refine (Tryz.sb_write B B (Lib.byteCells l) (S s) w h (by rw [hsz];unfold Lib.byteCells;rw [List.length_map];omega) (Nat.le_of_lt (Bld.lt h))).mono ?_
 rintro e w' ⟨rfl,hb,hbl⟩
 refine ⟨_,rfl,by rw [hsz],.inr ?_,hbl⟩
 rw [show Lib.strCells (S s)=Lib.byteCells s from rfl,← Lib.byteCells_append] at hb
 exact hb
set_option maxHeartbeats 16000000 in
set_option maxRecDepth 100000 in
theorem program_text_at (p:Pm) (w:World) (h:p.At w) (hr:∀r∈p.rules,r.Tiny∧r.name.size≤100000) (hL:Laid w) :
  Calls Tryz.prog 16 #[p.val] w fun e w'=>e=.returned (.string (S p.src))∧Below w.heap.size w w':=by
 obtain ⟨src,hsrc⟩:∃s,p.src=s:=⟨_,rfl⟩
 rw [hsrc]
 have HS:=Lib.hid (show (p.Good→limT (dlineT p.decls++linesR p.rules)=src)∧(¬p.Good→S src=⟨#[]⟩) from ⟨fun g=>by rw [←hsrc];exact (if_pos g).symm,fun g=>by rw [←hsrc,Pm.src,if_neg g]⟩)
 clear hsrc
 obtain ⟨X,hX⟩:∃X,w.alloc (.cells #[.slice p.dA p.decls.length p.dc,.slice p.rA p.rules.length p.rc] 35)=X:=⟨_,rfl⟩
 have HX:=Lib.hid (show Ext w X from by rw [←hX];exact below1 _ _)
 have HXz:=Lib.hid (show w.heap.size < X.heap.size from by rw [←hX];simp)
 have H0:=heldL_new w [.slice p.dA p.decls.length p.dc,.slice p.rA p.rules.length p.rc] 35
 rw [show w.alloc (.cells [.slice p.dA p.decls.length p.dc,.slice p.rA p.rules.length p.rc].toArray 35)=X from hX] at H0
 have HC:=Lib.hid (fun W (hb:Ext X W)=>(⟨(H0.below hb).cell 0 _ rfl,(H0.below hb).cell 1 _ rfl⟩:W.cell? ⟨w.heap.size,0,none⟩=some (.slice p.dA p.decls.length p.dc)∧W.cell? ⟨w.heap.size,1,none⟩=some (.slice p.rA p.rules.length p.rc)))
 have HD:=Lib.hid (fun W (g:Ext X W)=>h.decls.below (Ext.trans HX.out g))
 have HR:=Lib.hid (fun W (g:Ext X W)=>h.rules.below (Ext.trans HX.out g))
 have HTr:=Lib.hid hr
 have HLd:=Lib.hid (fun W (g:Ext X W)=>hL.below (Ext.trans HX.out g))
 have hld:=h.decls.len
 have hlr:=h.rules.len
 clear h hr H0 hL
 show Calls Tryz.prog 16 #[.agg #[.slice p.dA p.decls.length p.dc,.slice p.rA p.rules.length p.rc]] w _
 go_enter Tryz.func16,Tryz.ntmps16
 go_upto_region 1 with (fail)
 (try rw [hX])
 clear hX
 obtain ⟨p0,p1⟩:=HC.out X (Ext.refl _)
 by_cases d30:30 < p.decls.length
 ·have e:=HS.out.2 (fun g=>by have:=g.d30;omega)
  have d30':decide ((30:Int) < (p.decls.length:Int))=true:=by simp;omega
  go_wp2_with fail
  go_ret
  exact ⟨ret_str e.symm,HX.out⟩
 have d30':decide ((30:Int) < (p.decls.length:Int))=false:=by simp;omega
 by_cases r40:40 < p.rules.length
 ·have e:=HS.out.2 (fun g=>by have:=g.r40;omega)
  have r40':decide ((40:Int) < (p.rules.length:Int))=true:=by simp;omega
  go_wp2_with fail
  go_ret
  exact ⟨ret_str e.symm,HX.out⟩
 have r40':decide ((40:Int) < (p.rules.length:Int))=false:=by simp;omega
 have HLn:=Lib.hid (show p.decls.length≤30∧p.rules.length≤40 from ⟨by omega,by omega⟩)
 clear d30 r40
 obtain ⟨qd,hqd⟩:∃q,p.decls.all Dc.ok=q:=⟨_,rfl⟩
 have QA:=Lib.hid (all_dc_at p.decls p.dA p.dc X (HD.out X (Ext.refl _)) hqd)
 cases qd
 ·have e:=HS.out.2 (fun g=>by have:=g.decls;rw [hqd] at this;cases this)
  clear hqd
  go_wp2_with fail
  refine QA.out.mono ?_
  rintro e w1 ⟨rfl,hb⟩
  have HB:=Lib.hid (Ext.trans HX.out hb)
  clear hb
  go_wp2_with fail
  go_ret
  exact ⟨ret_str e.symm,HB.out⟩
 have HOk:=Lib.hid hqd
 have HNd:=Lib.hid (show ∀d∈p.decls,d.name.size≤40 from fun d hd=>by
  have h1:=List.all_eq_true.1 hqd d hd
  simp only [Dc.ok,Bool.and_eq_true] at h1
  have h2:=right_len h1.1
  rwa [len_str] at h2)
 have hdl0:=dsT_len hqd (fun d hd=>by have:=HNd.out d hd;omega)
 have HDl:=Lib.hid (show (dsT p.decls).length≤3420 by have:=HLn.out.1;omega)
 clear hqd hdl0
 have QJ:=Lib.hid (fun W (g:Ext X W)=>joined_dc_at p.decls p.dA p.dc W (HD.out W g) (by have:=HLn.out.1;omega) (by have:=HDl.out;unfold dsT at this;omega) ⟨HOk.out,fun d hd=>by have:=HNd.out d hd;omega⟩ (HLd.out W g))
 go_wp2_with fail
 refine QA.out.mono ?_
 rintro e Y ⟨rfl,hy⟩
 have HY:=Lib.hid (show Ext X Y from hy)
 clear hy p0 p1 QA
 obtain ⟨p0,p1⟩:=HC.out Y HY.out
 have HYz:=Lib.hid (show w.heap.size < Y.heap.size by have:=HY.out.size;have:=HXz.out;omega)
 obtain ⟨Z,hZ⟩:∃Z,Y.alloc (.cells #[.pointer none,.slice none 0 0] 89)=Z:=⟨_,rfl⟩
 have HZ:=Lib.hid (show Ext Y Z from by rw [←hZ];exact below1 _ _)
 have HBd:=Lib.hid (show Bld Y.heap.size [] Z from by rw [←hZ];exact Lib.fresh_isBuilder _ _ Y)
 clear p0 p1
 have QF:=Lib.hid (fun l (hl:l.length≤1000000) W=>unless_at l (by omega) W)
 go_upto_region 4 with (fail)
 (try rw [hZ])
 clear hZ
 obtain ⟨p0,p1⟩:=HC.out Z (Ext.trans HY.out HZ.out)
 by_cases d0:p.decls.length=0
 ·have d0':decide ((0:Int) < (p.decls.length:Int))=false:=by rw [decide_eq_false_iff_not];omega
  have d0n:¬0 < p.decls.length:=by omega
  obtain ⟨dl,hdl⟩:∃l:List UInt8,[]=l:=⟨_,rfl⟩
  have HDE:=Lib.hid (show dlineT p.decls=dl by rw [←hdl,dlineT,if_pos d0])
  have HDL:=Lib.hid (show dl.length≤4000 by rw [←hdl];simp)
  have HB0:=Lib.hid (show Bld Y.heap.size dl Z by rw [←hdl];exact HBd.out)
  have HL0:=Lib.hid (show Below Y.heap.size Y Z from HZ.out)
  clear hdl d0 QJ HDl HBd
  go_wp2_with fail
  go_loopw [36] (fun i wr=>∃j:Nat,j≤p.rules.length∧i=.int .i64 j∧Hid (Bld Y.heap.size (dl++linesR (p.rules.take j)) wr)∧Hid (∀r∈p.rules.take j,r.numR.src≠[])∧Hid (Below Y.heap.size Y wr)) (fun i _=>p.rules.length - (intOf i).toNat)
  case atStart=>exact ⟨0,Nat.zero_le _,rfl,Lib.hid (by simpa [linesR] using HB0.out),Lib.hid (by simp),HL0⟩
  case round =>
   obtain ⟨j,hj,rfl,HB,HG,HK⟩:=hrel
   have HEx:=Lib.hid (show Ext X wr from Ext.trans HY.out HK.out)
   by_cases hlt:j < p.rules.length
   ·obtain ⟨b,o,hA,hcs,hxa⟩:=(HR.out wr HEx.out).get hlt
    have hmem:=rl_getD_mem hlt
    have HNX:=Lib.hid (linesR_next hlt)
    have HTK:=Lib.hid (rl_take_next hlt)
    have hll:(dl++linesR (p.rules.take j)).length≤800000:=by
     have h1:=linesR_len (p.rules.take j)
     have h2:=HLn.out.2
     have h3:=HDL.out
     rw [List.length_take] at h1
     rw [List.length_append]
     omega
    obtain ⟨r,hre⟩:∃r,p.rules.getD j default=r:=⟨_,rfl⟩
    rw [hre] at hcs hxa hmem HNX HTK
    have c0:=hcs 0 _ rfl
    have c1:=hcs 1 _ rfl
    have c2:=hcs 2 _ rfl
    have c3:=hcs 3 _ rfl
    have c4:=hcs 4 _ rfl
    have c5:=hcs 5 _ rfl
    simp only [Nat.add_zero] at c0
    have QR:=Lib.hid (fun W (g:Below wr.heap.size wr W)=>rule_text_at r W (hxa.below g) (HTr.out r hmem).1 (HTr.out r hmem).2 (HLd.out W (Ext.trans HEx.out g)))
    obtain ⟨sl,hsl⟩:∃s,r.numR.src=s:=⟨_,rfl⟩
    rw [hsl] at QR HNX
    have HSl:=Lib.hid hsl
    have hsm:sl.length≤16384:=by rw [←hsl];exact src_len _
    have HMm:=Lib.hid hmem
    clear hcs hmem hsl hre hxa
    rcases hse:sl with _|⟨x0,sr⟩
    ·subst hse
     have e:=HS.out.2 (fun g=>g.rules r HMm.out HSl.out)
     rw [hA]
     go_wp2_with fail
     refine (QR.out _ (below1 _ _)).mono ?_
     rintro e w5 ⟨rfl,hb5⟩
     have HB5:=Lib.hid (Ext.trans HX.out (Ext.trans HEx.out (Ext.trans (Ext.al _ _) hb5)))
     clear hb5
     go_wp2_with fail
     go_ret
     exact ⟨ret_str e.symm,HB5.out⟩
    ·have hne:sl≠[]:=by rw [hse];simp
     have hfull:(S sl).toList.isEmpty=false:=str_full (by simpa using hne)
     have hem:sl.isEmpty=false:=by simpa using hne
     have hsn:¬sl=[]:=hne
     clear hse
     have HG2:=Lib.hid (show ∀r'∈p.rules.take (j+1),r'.numR.src≠[] from fun r' hr'=>by
      rw [HTK.out,List.mem_append,List.mem_singleton] at hr'
      rcases hr' with h|rfl
      ·exact HG.out r' h
      ·rw [HSl.out];exact hne)
     have s1:¬9223372036854775807 < sl.length+1:=by omega
     have hcat:S sl++(⟨#[10]⟩:ByteArray)=S (sl++[10]):=by apply WideShapes.bytes_inj;simp
     have QW:=Lib.hid (fun W (g:Bld Y.heap.size (dl++linesR (p.rules.take j)) W)=>write_at Y.heap.size (dl++linesR (p.rules.take j)) (sl++[10]) W g (by simp only [List.length_append,List.length_cons,List.length_nil] at hll ⊢;omega))
     rw [←hcat] at QW
     rw [hA]
     go_wp2_with fail
     refine (QR.out _ (below1 _ _)).mono ?_
     rintro e w5 ⟨rfl,hb5⟩
     have HE5:=Lib.hid (show Ext wr w5 from Ext.trans (Ext.al _ _) hb5)
     have HB5:=Lib.hid (bld_keep HB.out HE5.out)
     clear hb5
     go_wp2_with fail
     refine (QW.out w5 HB5.out).mono ?_
     rintro e w6 ⟨v,rfl,rfl,hb6,hk6⟩
     have HB6:=Lib.hid (show Bld Y.heap.size (dl++linesR (p.rules.take (j+1))) w6 by rw [HNX.out,← List.append_assoc];exact hb6)
     have HK6:=Lib.hid ((HK.out.trans (HE5.out.mono HK.out.size)).trans hk6)
     clear hb6 hk6
     go_wp2_with fail
     go_roundw
     case rel=>exact ⟨j+1,by omega,by go_num,HB6,HG2,HK6⟩
     case measure=>simp [intOf];omega
   ·obtain rfl:j=p.rules.length:=by omega
    have hB:=HB.out
    have hG:=HG.out
    rw [List.take_length] at hB hG
    have HV:=Lib.hid (show limT (dl++linesR p.rules)=src by
     rw [←HDE.out]
     exact HS.out.1 ⟨HLn.out.1,HLn.out.2,HOk.out,hG⟩)
    have hll:(dl++linesR p.rules).length≤800000:=by
     have h1:=linesR_len p.rules
     have h2:=HLn.out.2
     have h3:=HDL.out
     rw [List.length_append]
     omega
    have QS:=Lib.hid (Tryz.sb_string Y.heap.size Y.heap.size (dl++linesR p.rules) wr hB (Nat.le_of_lt (Bld.lt hB)))
    have QU:=Lib.hid (fun W=>QF.out (dl++linesR p.rules) (by omega) W)
    rw [HV.out] at QU
    clear hB hG hll
    go_wp2_with fail
    refine QS.out.mono ?_
    rintro e w5 ⟨rfl,hb5⟩
    have hww:Below w.heap.size w wr:=Ext.trans HX.out HEx.out
    have HB5:=Lib.hid (hww.trans (hb5.mono (Nat.le_of_lt HYz.out)))
    clear hww
    clear hb5
    go_wp2_with fail
    refine (QU.out w5).mono ?_
    rintro e w6 ⟨rfl,rfl⟩
    go_wp2_with fail
    go_ret
    exact ⟨rfl,HB5.out⟩
 ·have d0':decide ((0:Int) < (p.decls.length:Int))=true:=by rw [decide_eq_true_eq];omega
  have d0n:0 < p.decls.length:=by omega
  obtain ⟨dl,hdl⟩:∃l:List UInt8,[99,111,110,115,116,114,97,105,110,116,32]++dsT p.decls++[46,10]=l:=⟨_,rfl⟩
  have HDE:=Lib.hid (show dlineT p.decls=dl by rw [←hdl,dlineT,if_neg d0])
  have HDL:=Lib.hid (show dl.length≤4000 by rw [←hdl];have:=HDl.out;simp only [List.length_append,List.length_cons,List.length_nil];omega)
  have QJ1:=Lib.hid (show Calls Tryz.prog _ _ Z _ from QJ.out Z (Ext.trans HY.out HZ.out))
  obtain ⟨ds,hds⟩:∃l,joinS 0 (p.decls.map Dc.tx) []=l:=⟨_,rfl⟩
  have hdz:ds.length≤3420:=by rw [←hds];exact HDl.out
  have hcat:(⟨#[99,111,110,115,116,114,97,105,110,116,32]⟩:ByteArray)++S ds++⟨#[46,10]⟩=S dl:=by
   apply WideShapes.bytes_inj
   rw [←hdl,dsT,hds]
   simp
  rw [hds] at QJ1
  have QW:=Lib.hid (fun W (g:Bld Y.heap.size [] W)=>write_at Y.heap.size [] dl W g (by have:=HDL.out;simp only [List.length_nil];omega))
  rw [←hcat] at QW
  have s1:¬9223372036854775807 < 11+ds.length:=by omega
  have s2:¬9223372036854775807 < 11+ds.length+2:=by omega
  clear hdl d0 QJ HDl hds hcat
  go_wp2_with fail
  refine QJ1.out.mono ?_
  rintro e Z1 ⟨rfl,hz1⟩
  have HB1:=Lib.hid (bld_keep HBd.out hz1)
  have HZ1:=Lib.hid (show Below Y.heap.size Y Z1 from Ext.trans HZ.out hz1)
  clear hz1
  go_wp2_with fail
  refine (QW.out Z1 HB1.out).mono ?_
  rintro e Z2 ⟨v,rfl,rfl,hb2,hk2⟩
  have HB0:=Lib.hid (show Bld Y.heap.size dl Z2 from hb2)
  have HL0:=Lib.hid (show Below Y.heap.size Y Z2 from HZ1.out.trans hk2)
  clear hb2 hk2 p0 p1
  obtain ⟨p0,p1⟩:=HC.out Z2 (Ext.trans HY.out HL0.out)
  go_wp2_with fail
  go_loopw [36] (fun i wr=>∃j:Nat,j≤p.rules.length∧i=.int .i64 j∧Hid (Bld Y.heap.size (dl++linesR (p.rules.take j)) wr)∧Hid (∀r∈p.rules.take j,r.numR.src≠[])∧Hid (Below Y.heap.size Y wr)) (fun i _=>p.rules.length - (intOf i).toNat)
  case atStart=>exact ⟨0,Nat.zero_le _,rfl,Lib.hid (by simpa [linesR] using HB0.out),Lib.hid (by simp),HL0⟩
  case round =>
   obtain ⟨j,hj,rfl,HB,HG,HK⟩:=hrel
   have HEx:=Lib.hid (show Ext X wr from Ext.trans HY.out HK.out)
   by_cases hlt:j < p.rules.length
   ·obtain ⟨b,o,hA,hcs,hxa⟩:=(HR.out wr HEx.out).get hlt
    have hmem:=rl_getD_mem hlt
    have HNX:=Lib.hid (linesR_next hlt)
    have HTK:=Lib.hid (rl_take_next hlt)
    have hll:(dl++linesR (p.rules.take j)).length≤800000:=by
     have h1:=linesR_len (p.rules.take j)
     have h2:=HLn.out.2
     have h3:=HDL.out
     rw [List.length_take] at h1
     rw [List.length_append]
     omega
    obtain ⟨r,hre⟩:∃r,p.rules.getD j default=r:=⟨_,rfl⟩
    rw [hre] at hcs hxa hmem HNX HTK
    have c0:=hcs 0 _ rfl
    have c1:=hcs 1 _ rfl
    have c2:=hcs 2 _ rfl
    have c3:=hcs 3 _ rfl
    have c4:=hcs 4 _ rfl
    have c5:=hcs 5 _ rfl
    simp only [Nat.add_zero] at c0
    have QR:=Lib.hid (fun W (g:Below wr.heap.size wr W)=>rule_text_at r W (hxa.below g) (HTr.out r hmem).1 (HTr.out r hmem).2 (HLd.out W (Ext.trans HEx.out g)))
    obtain ⟨sl,hsl⟩:∃s,r.numR.src=s:=⟨_,rfl⟩
    rw [hsl] at QR HNX
    have HSl:=Lib.hid hsl
    have hsm:sl.length≤16384:=by rw [←hsl];exact src_len _
    have HMm:=Lib.hid hmem
    clear hcs hmem hsl hre hxa
    rcases hse:sl with _|⟨x0,sr⟩
    ·subst hse
     have e:=HS.out.2 (fun g=>g.rules r HMm.out HSl.out)
     rw [hA]
     go_wp2_with fail
     refine (QR.out _ (below1 _ _)).mono ?_
     rintro e w5 ⟨rfl,hb5⟩
     have HB5:=Lib.hid (Ext.trans HX.out (Ext.trans HEx.out (Ext.trans (Ext.al _ _) hb5)))
     clear hb5
     go_wp2_with fail
     go_ret
     exact ⟨ret_str e.symm,HB5.out⟩
    ·have hne:sl≠[]:=by rw [hse];simp
     have hfull:(S sl).toList.isEmpty=false:=str_full (by simpa using hne)
     have hem:sl.isEmpty=false:=by simpa using hne
     have hsn:¬sl=[]:=hne
     clear hse
     have HG2:=Lib.hid (show ∀r'∈p.rules.take (j+1),r'.numR.src≠[] from fun r' hr'=>by
      rw [HTK.out,List.mem_append,List.mem_singleton] at hr'
      rcases hr' with h|rfl
      ·exact HG.out r' h
      ·rw [HSl.out];exact hne)
     have s1:¬9223372036854775807 < sl.length+1:=by omega
     have hcat:S sl++(⟨#[10]⟩:ByteArray)=S (sl++[10]):=by apply WideShapes.bytes_inj;simp
     have QW:=Lib.hid (fun W (g:Bld Y.heap.size (dl++linesR (p.rules.take j)) W)=>write_at Y.heap.size (dl++linesR (p.rules.take j)) (sl++[10]) W g (by simp only [List.length_append,List.length_cons,List.length_nil] at hll ⊢;omega))
     rw [←hcat] at QW
     rw [hA]
     go_wp2_with fail
     refine (QR.out _ (below1 _ _)).mono ?_
     rintro e w5 ⟨rfl,hb5⟩
     have HE5:=Lib.hid (show Ext wr w5 from Ext.trans (Ext.al _ _) hb5)
     have HB5:=Lib.hid (bld_keep HB.out HE5.out)
     clear hb5
     go_wp2_with fail
     refine (QW.out w5 HB5.out).mono ?_
     rintro e w6 ⟨v,rfl,rfl,hb6,hk6⟩
     have HB6:=Lib.hid (show Bld Y.heap.size (dl++linesR (p.rules.take (j+1))) w6 by rw [HNX.out,← List.append_assoc];exact hb6)
     have HK6:=Lib.hid ((HK.out.trans (HE5.out.mono HK.out.size)).trans hk6)
     clear hb6 hk6
     go_wp2_with fail
     go_roundw
     case rel=>exact ⟨j+1,by omega,by go_num,HB6,HG2,HK6⟩
     case measure=>simp [intOf];omega
   ·obtain rfl:j=p.rules.length:=by omega
    have hB:=HB.out
    have hG:=HG.out
    rw [List.take_length] at hB hG
    have HV:=Lib.hid (show limT (dl++linesR p.rules)=src by
     rw [←HDE.out]
     exact HS.out.1 ⟨HLn.out.1,HLn.out.2,HOk.out,hG⟩)
    have hll:(dl++linesR p.rules).length≤800000:=by
     have h1:=linesR_len p.rules
     have h2:=HLn.out.2
     have h3:=HDL.out
     rw [List.length_append]
     omega
    have QS:=Lib.hid (Tryz.sb_string Y.heap.size Y.heap.size (dl++linesR p.rules) wr hB (Nat.le_of_lt (Bld.lt hB)))
    have QU:=Lib.hid (fun W=>QF.out (dl++linesR p.rules) (by omega) W)
    rw [HV.out] at QU
    clear hB hG hll
    go_wp2_with fail
    refine QS.out.mono ?_
    rintro e w5 ⟨rfl,hb5⟩
    have hww:Below w.heap.size w wr:=Ext.trans HX.out HEx.out
    have HB5:=Lib.hid (hww.trans (hb5.mono (Nat.le_of_lt HYz.out)))
    clear hww
    clear hb5
    go_wp2_with fail
    refine (QU.out w5).mono ?_
    rintro e w6 ⟨rfl,rfl⟩
    go_wp2_with fail
    go_ret
    exact ⟨rfl,HB5.out⟩
end Go.Proofs.YtnghanpmmbcbbaaGreatDoor
namespace Go.Proofs.YtnghanpmmbcbbaaGreatDoor
open Go.RowKit
theorem number_p (r:Rl) (w0 W:World) (h0:r.At w0) (hb:Below w0.heap.size w0 W) (hs:r.Tiny):Calls Tryz.prog 13 #[r.val] W (NumP w0 r W):=by
 refine (number_rule_at r w0 W h0 hb hs).mono ?_
 rintro e w' ⟨u,rfl,hk,hat,hb2⟩
 have ht:=like_num hk
 exact ⟨u,rfl,ht.can hk.vars,like_tiny hk (show Rl.Tiny { r with vars:=(r.vs.length:Int) } from ⟨hs.k1,hs.k2,hs.r1,hs.r2,hs.g1,hs.g2,hs.b1,hs.b2⟩),hat,hb2⟩
theorem rule_p (r:Rl) (W:World) (h:r.At W) (hs:r.Tiny) (hn:r.name.size≤2500) (hL:Laid W):Calls Tryz.prog 10 #[r.val] W fun e w'=>e=.returned (.string (S r.numR.src))∧Below W.heap.size W w':=rule_text_at r W h hs (by omega) hL
theorem program_p (p:Pm) (W:World) (h:p.At W) (hr:∀r∈p.rules,r.Tiny∧r.name.size≤2500) (hL:Laid W):Calls Tryz.prog 16 #[p.val] W fun e w'=>e=.returned (.string (S p.src))∧Below W.heap.size W w':=program_text_at p W h (fun r hx=>⟨(hr r hx).1,by have:=(hr r hx).2;omega⟩) hL
theorem writes:Writes where
 rule:=rule_p
 number:=fun r w0 W h0 hb hs _=>number_p r w0 W h0 hb hs
 program:=fun p W h _ _ hr hL=>program_p p W h hr hL
 goals:=fun l A c W h _ _ hL=>goals_text_at l A c W h hL
 example_:=fun W hL=>example_at rule_p (fun r w0 W h0 hb hs _=>number_p r w0 W h0 hb hs) (fun p W h _ _ hr hL=>program_p p W h hr hL) (fun l A c W h _ _ hL=>goals_text_at l A c W h hL) W hL
end Go.Proofs.YtnghanpmmbcbbaaGreatDoor
