/-
  WkSourceReturns.
-/
import Derived.Test.YtnghanpmmbcbbaaGreatDoorMq21
import Derived.Test.YtnghanpmmbcbbaaGreatDoorMq28
import Derived.Test.YtnghanpmmbcbbaaGreatDoorMq32
import Derived.Deep.LoopGhost
import Derived.Deep.AppendLies
import Derived.Deep.RegionHeld3
import Derived.Deep.Cut
namespace Go.Proofs.YtnghanpmmbcbbaaGreatDoor.sourceReturns
open Go.ChangeShapes Go.WideShapes Go.ChangeAt Go.RowKit Go.Sort
set_option linter.unusedVariables false
set_option maxHeartbeats 16000000 in
set_option maxRecDepth 100000 in
theorem walk (H:Writes) (a0:Pm) (w:World) (w0:a0.At w) (hL:Laid w) :
  Calls Tryz.prog 5 #[a0.val] w fun e w'=>e=.returned (.bool true)∧Below w.heap.size w w':=by
 obtain ⟨X,hX⟩:∃X,w.alloc (.cells #[.slice a0.dA a0.decls.length a0.dc,.slice a0.rA a0.rules.length a0.rc] 35)=X:=⟨_,rfl⟩
 have H0:=Lib.hid (show HeldL w.heap.size X [.slice a0.dA a0.decls.length a0.dc,.slice a0.rA a0.rules.length a0.rc] from by rw [←hX];exact heldL_new _ _ _)
 have HX:=Lib.hid (show Ext w X from by rw [←hX];exact below1 _ _)
 have BX:=Lib.hid (fun W (h:Ext X W)=>show Below w.heap.size w W from Ext.trans HX.out h)
 have HP:=Lib.hid (fun W (h:Ext w W)=>show a0.At W from w0.below h)
 have HLd:=Lib.hid (fun W (h:Ext w W)=>show Laid W from hL.below h)
 have QE:=Lib.hid (fun W (h:Ext X W)=>H.example_ W (HLd.out W (BX.out W h)))
 obtain ⟨q,hq⟩:∃q,largeB a0.rules=q:=⟨_,rfl⟩
 have QG:=Lib.hid (large_at a0.rules a0.rA a0.rc X (HP.out X HX.out).rules hq)
 have hld:=w0.decls.len
 have hlr:=w0.rules.len
 have HH:=Lib.hid H
 have Hq:=Lib.hid hq
 clear w0 hL hq
 show Calls Tryz.prog 5 #[.agg #[.slice a0.dA a0.decls.length a0.dc,.slice a0.rA a0.rules.length a0.rc]] w _
 go_enter Tryz.func5,Tryz.ntmps5
 go_upto_region 1 with (fail)
 (try rw [hX])
 clear hX
 have a00:=H0.out.cell 0 _ rfl
 have a01:=H0.out.cell 1 _ rfl
 cases q with
 | true =>
  go_wp2_with (first
   | (go_at_call 8;(with_reducible refine QG.out.mono ?_);rintro e v1 ⟨rfl,h1⟩;have G1:=Lib.hid (show Ext X v1 from h1);have x0:=(H0.out.below h1).cell 0 _ rfl;have x1:=(H0.out.below h1).cell 1 _ rfl;clear h1)
   | (go_at_call 9;(with_reducible refine (QE.out _ G1.out).mono ?_);rintro e v3 ⟨rfl,h3⟩;have G3:=Lib.hid (show Ext X v3 from Ext.trans G1.out h3);clear h3)
   | fail)
  go_ret
  exact ⟨rfl,BX.out _ G3.out⟩
 | false =>
 by_cases r20:20 < a0.rules.length
 ·have r20':decide ((20:Int) < (a0.rules.length:Int))=true:=by simp;omega
  go_wp2_with (first
   | (go_at_call 8;(with_reducible refine QG.out.mono ?_);rintro e v1 ⟨rfl,h1⟩;have G1:=Lib.hid (show Ext X v1 from h1);have x0:=(H0.out.below h1).cell 0 _ rfl;have x1:=(H0.out.below h1).cell 1 _ rfl;clear h1)
   | (go_at_call 9;(with_reducible refine (QE.out _ G1.out).mono ?_);rintro e v3 ⟨rfl,h3⟩;have G3:=Lib.hid (show Ext X v3 from Ext.trans G1.out h3);clear h3)
   | fail)
  go_ret
  exact ⟨rfl,BX.out _ G3.out⟩
 have r20':decide ((20:Int) < (a0.rules.length:Int))=false:=by simp;omega
 by_cases d40:40 < a0.decls.length
 ·have d40':decide ((40:Int) < (a0.decls.length:Int))=true:=by simp;omega
  go_wp2_with (first
   | (go_at_call 8;(with_reducible refine QG.out.mono ?_);rintro e v1 ⟨rfl,h1⟩;have G1:=Lib.hid (show Ext X v1 from h1);have x0:=(H0.out.below h1).cell 0 _ rfl;have x1:=(H0.out.below h1).cell 1 _ rfl;clear h1)
   | (go_at_call 9;(with_reducible refine (QE.out _ G1.out).mono ?_);rintro e v3 ⟨rfl,h3⟩;have G3:=Lib.hid (show Ext X v3 from Ext.trans G1.out h3);clear h3)
   | fail)
  go_ret
  exact ⟨rfl,BX.out _ G3.out⟩
 have d40':decide ((40:Int) < (a0.decls.length:Int))=false:=by simp;omega
 have HTi:=Lib.hid (large_tiny Hq.out)
 have HLe:=Lib.hid (show a0.decls.length≤40∧a0.rules.length≤20 from ⟨by omega,by omega⟩)
 clear r20 d40
 go_upto_region 4 with (first
   | (go_at_call 8;(with_reducible refine QG.out.mono ?_);rintro e v1 ⟨rfl,h1⟩;have G1:=Lib.hid (show Ext X v1 from h1);have x0:=(H0.out.below h1).cell 0 _ rfl;have x1:=(H0.out.below h1).cell 1 _ rfl;clear h1)
   | (go_at_call 9;(with_reducible refine (QE.out _ G1.out).mono ?_);rintro e v3 ⟨rfl,h3⟩;have G3:=Lib.hid (show Ext X v3 from Ext.trans G1.out h3);clear h3)
   | fail)
 clear a00 a01 x0 x1 QG
 obtain ⟨V2,hV2⟩:∃V2,v1.alloc (.cells #[.slice a0.dA a0.decls.length a0.dc,.slice none 0 0] 35)=V2:=⟨_,rfl⟩
 have HB:=Lib.hid (show HeldL v1.heap.size V2 [.slice a0.dA a0.decls.length a0.dc,.slice none 0 0] from by rw [←hV2];exact heldL_new _ _ _)
 have HV:=Lib.hid (show Ext v1 V2 from by rw [←hV2];exact Ext.al _ _)
 rw [hV2]
 clear hV2
 go_wp2_with fail
 obtain ⟨i0,hi,hz0,hz1,hz2⟩:=info_parts rl_info
 have HG1:=Lib.hid (BX.out v1 G1.out)
 go_loopg [4] a0.rules.length (fun gk i wr=>∃(j:Nat) (acc:List Rl) (z:Value),j≤a0.rules.length∧i=.int .i64 (j:Int)∧Hid (HeldL v1.heap.size wr [.slice a0.dA a0.decls.length a0.dc,z])∧Hid (RlRowT (From w) (v1.heap.size+1) wr z acc)∧Hid (acc.length=j∧∀i,i < j→(acc.getD i default).Can (a0.rules.getD i default).numR∧(acc.getD i default).Short)∧Hid (Ext v1 wr)∧Hid (a0.rules.length - j≤gk))
 case atStart=>exact ⟨0,[],_,Nat.zero_le _,rfl,HB,Lib.hid (RlRowT.nil _ _ _),Lib.hid ⟨rfl,fun i hi=>by omega⟩,HV,Lib.hid (by omega)⟩
 case round =>
  clear HB HV
  obtain ⟨j,acc,z,hj,rfl,HB,HK,HAc,HV,HG⟩:=hrel
  have q1:=(H0.out.below (Ext.trans G1.out HV.out)).cell 1 _ rfl
  have q0:=(H0.out.below (Ext.trans G1.out HV.out)).cell 0 _ rfl
  have HE:=Lib.hid (show Ext w wr from Ext.trans HG1.out HV.out)
  by_cases hlt:j < a0.rules.length
  ·obtain ⟨b,o,hA,hcs,hxa⟩:=(HP.out _ HE.out).rules.get hlt
   rw [hA] at q1
   clear hA
   have hmem:=rl_getD_mem hlt
   have hxw:=(HP.out w (Ext.refl w)).rules.mem hmem
   obtain ⟨ht,hn⟩:=HTi.out.2 _ hmem
   have HCs:=Lib.hid (fun W (g:Ext w W)=>(HP.out W g).rules.get hlt)
   have HNum:=Lib.hid (show ∀(u:Rl),u.Can (a0.rules.getD j default).numR→u.Short→∀i,i < j+1→((acc++[u]).getD i default).Can (a0.rules.getD i default).numR∧((acc++[u]).getD i default).Short from fun u hu hs i hi=>by
    by_cases hij:i < j
    ·have e:(acc++[u]).getD i default=acc.getD i default:=by
      simp [List.getD,List.getElem?_append_left (show i < acc.length by have:=HAc.out.1;omega)]
     rw [e];exact HAc.out.2 i hij
    ·obtain rfl:i=j:=by omega
     have e:(acc++[u]).getD i default=u:=by
      have:=HAc.out.1
      simp [List.getD,this.symm]
     rw [e];exact ⟨hu,hs⟩)
   have c0:=hcs 0 _ rfl
   have c1:=hcs 1 _ rfl
   have c2:=hcs 2 _ rfl
   have c3:=hcs 3 _ rfl
   have c4:=hcs 4 _ rfl
   have c5:=hcs 5 _ rfl
   simp only [Nat.add_zero] at c0
   have QN:=Lib.hid (HH.out.number (a0.rules.getD j default) w wr hxw HE.out ht hn)
   have QRl:=Lib.hid (fun W (g:Ext w W)=>HH.out.rule (a0.rules.getD j default) W (hxw.below g) ht hn (HLd.out W g))
   have QPr:=Lib.hid (fun W (h:(a0.rules.getD j default).numR.src≠[])=>rule_returns (a0.rules.getD j default) (by have h1:=varsL_len (a0.rules.getD j default).ts;have h2:=ht.nodes;unfold Rl.vs;omega) h W)
   have HSh:=Lib.hid (fun (u:Rl) (h:u.Twin (a0.rules.getD j default).numR) (hv:u.vars=(a0.rules.getD j default).numR.vars)=>(⟨h.can hv,can_short (h.can hv) ht⟩:u.Can (a0.rules.getD j default).numR∧u.Short))
   have HTx:=Lib.hid ht
   clear hcs hmem hxw hxa ht hn
   generalize a0.rules.getD j default=x at *
   obtain ⟨s,hs⟩:∃s,x.numR.src=s:=⟨_,rfl⟩
   rw [hs] at QRl QPr
   clear hs
   go_upto_region 8 with (go_at_call 13;(with_reducible refine QN.out.mono ?_);rintro e y1 ⟨u,rfl,hu,htu,hat,hb⟩;have HU:=Lib.hid hu;have HUs:=Lib.hid (can_short hu HTx.out);have HUl:=Lib.hid hat;have Y1:=Lib.hid hb;clear hu htu hat hb)
   clear c0 c1 c2 c3 c4 c5 q0 q1 QN
   obtain ⟨Z1,hZ1⟩:∃Z1,y1.alloc (.cells #[.string u.name,.slice u.kA u.keep.length u.kc,.slice u.rA u.remove.length u.rc,.slice u.gA u.guard.length u.gc,.slice u.bA u.body.length u.bc,.int .i64 u.vars] 25)=Z1:=⟨_,rfl⟩
   have H5:=Lib.hid (show HeldL y1.heap.size Z1 [.string u.name,.slice u.kA u.keep.length u.kc,.slice u.rA u.remove.length u.rc,.slice u.gA u.guard.length u.gc,.slice u.bA u.body.length u.bc,.int .i64 u.vars] from by rw [←hZ1];exact heldL_new _ _ _)
   have YZ:=Lib.hid (show Ext y1 Z1 from by rw [←hZ1];exact Ext.al _ _)
   rw [hZ1]
   clear hZ1
   have HB1:=Lib.hid (HB.out.below (Ext.trans Y1.out YZ.out))
   have HK1:=Lib.hid (HK.out.below (Ext.trans Y1.out YZ.out))
   have HV1:=Lib.hid (Ext.trans HV.out (Ext.trans Y1.out YZ.out))
   have HRb:=Lib.hid (own_lt HK.out.1)
   have hal:acc.length≤20:=by have:=HAc.out.1;have:=HLe.out.2;omega
   have hsz1:v1.heap.size+1≤Z1.heap.size:=by have:=HB1.out.lt;omega
   have HUr:=Lib.hid (show RlLie (From w) (v1.heap.size+1) (fun k=>z.ownBlock=some k) Z1 u from rl_apart HK.out.1 (lo':=wr.heap.size) (fun W hW hA=>HUl.out W hW fun b h1 h2 h3=>(hA b h1 (Nat.lt_of_lt_of_le h2 YZ.out.size) h3).trans (YZ.out.block b h2)) (by have:=HB.out.lt;omega) (Nat.le_refl _))
   have e1:=HB1.out.cell 1 _ rfl
   have ef:=HB1.out.free 1
   have k0:=H5.out.cell 0 _ rfl
   have k1:=H5.out.cell 1 _ rfl
   have k2:=H5.out.cell 2 _ rfl
   have k3:=H5.out.cell 3 _ rfl
   have k4:=H5.out.cell 4 _ rfl
   have k5:=H5.out.cell 5 _ rfl
   go_upto_region 9 with (at_builtin;refine wpList_append_lies _ rfl _ _ 27 rfl (v1.heap.size+1) 25 i0 _ 6 120 Tryz.underlying27 hi hz0 hz1 hz2 rfl (by decide) _ acc.length (rlcells acc) rfl (HK1.out.1.alloc _) ⟨Z1.heap.size,0,none⟩ 1 1 (Rl.cells u) rfl rfl (rlnews Z1 u _) (rlcells_one _) (by decide) (by unfold maxLen;omega) (by omega) (by simp;omega) _ rfl ?_;intro g cap w7 hown hg hat hglt;have hbo:=(Below.refl Z1.heap.size Z1).alloc (Nat.le_refl _) (.cells #[.string u.name,.slice u.kA u.keep.length u.kc,.slice u.rA u.remove.length u.rc,.slice u.gA u.guard.length u.gc,.slice u.bA u.body.length u.bc,.int .i64 u.vars] 25);have HB7:=Lib.hid ((HB1.out.below hbo).grown hg (fun k hk=>by have:=(HRb.out k hk).1;omega));have H57:=Lib.hid ((H5.out.below hbo).grown hg (fun k hk=>by have:=(HRb.out k hk).2;have:=Y1.out.size;omega));have HR7:=Lib.hid (HK1.out.next (u:=u) HUr.out hbo hown hg hat);have HV7:=Lib.hid (show Ext v1 w7 from (Below.trans HV1.out (hbo.mono HV1.out.size)).grown hg (by have:=HV1.out.size;simp;omega) (fun k hk=>by have:=(HRb.out k hk).1;omega));have HA7:=Lib.hid (show ∀b,wr.heap.size≤b→b < y1.heap.size→w7.heap[b]?=y1.heap[b]? from fun b h1 h2=>(hg.block b (by have:=YZ.out.size;simp;omega) (fun e=>by have:=(HRb.out b e.symm).2;omega)).trans ((hbo.block b (by have:=YZ.out.size;omega)).trans (YZ.out.block b h2)));have HS7:=Lib.hid (show y1.heap.size≤w7.heap.size from by have h1:=hg.size;have h2:=YZ.out.size;rw [World.size_alloc] at h1;omega);have m1:=HB7.out.cell 1 _ rfl;have mf:=HB7.out.free 1;clear hown hg hat hglt hbo)
   obtain ⟨Z2,hZ2⟩:∃Z2,w7.setCell ⟨v1.heap.size,1,none⟩ (.slice (some ⟨g,0,none⟩) (acc.length+1) cap)=Z2:=⟨_,rfl⟩
   have HB2:=Lib.hid (show HeldL v1.heap.size Z2 [.slice a0.dA a0.decls.length a0.dc,.slice (some ⟨g,0,none⟩) (acc.length+1) cap] from by rw [←hZ2];exact HB7.out.set (j:=1) (by simp) _)
   have H52:=Lib.hid (show HeldL y1.heap.size Z2 [.string u.name,.slice u.kA u.keep.length u.kc,.slice u.rA u.remove.length u.rc,.slice u.gA u.guard.length u.gc,.slice u.bA u.body.length u.bc,.int .i64 u.vars] from by rw [←hZ2];exact H57.out.other (p:=⟨v1.heap.size,1,none⟩) (by show v1.heap.size≠y1.heap.size;have:=HB.out.lt;have:=Y1.out.size;omega) _)
   have HR2:=Lib.hid (show RlRowT (From w) (v1.heap.size+1) Z2 (.slice (some ⟨g,0,none⟩) (acc.length+1) cap) (acc++[u]) from by rw [←hZ2];exact HR7.out.put (p:=⟨v1.heap.size,1,none⟩) (Nat.lt_succ_self _) _)
   have HV2:=Lib.hid (show Ext v1 Z2 from by rw [←hZ2];exact Below.setCell HV7.out (p:=⟨v1.heap.size,1,none⟩) (Nat.le_refl _) _)
   have HEz:=Lib.hid (show Ext w Z2 from Ext.trans HG1.out HV2.out)
   have HZs:=Lib.hid (show Z2.heap.size=w7.heap.size from by rw [←hZ2];simp [World.setCell])
   have HZb:=Lib.hid (show ∀b,b≠v1.heap.size→Z2.heap[b]?=w7.heap[b]? from fun b hb=>by rw [←hZ2];exact Below.heap_setCell _ _ _ _ (by show b≠v1.heap.size;exact hb))
   have HUZ:=Lib.hid (fun W (h:Ext Z2 W)=>show u.At W from HUl.out W (Ext.trans HEz.out h) fun b h1 h2 _=>(h.block b (by rw [HZs.out];have:=HS7.out;omega)).trans ((HZb.out b (by have:=HB.out.lt;omega)).trans (HA7.out b h1 h2)))
   rw [hZ2]
   clear hZ2 m1 mf e1 ef k0 k1 k2 k3 k4 k5 HB7 H57 HR7 HV7 HA7 HS7 HZs HZb HB1 HK1 HV1 H5 YZ HUr HUl
   obtain ⟨b2,o2,hA,hcs,_⟩:=HCs.out Z2 HEz.out
   have q1:=(H0.out.below (Ext.trans G1.out HV2.out)).cell 1 _ rfl
   rw [hA] at q1
   clear hA
   have c0:=hcs 0 _ rfl
   have c1:=hcs 1 _ rfl
   have c2:=hcs 2 _ rfl
   have c3:=hcs 3 _ rfl
   have c4:=hcs 4 _ rfl
   have c5:=hcs 5 _ rfl
   simp only [Nat.add_zero] at c0
   clear hcs
   go_upto_region 10 with (go_at_call 10;(with_reducible refine (QRl.out Z2 HEz.out).mono ?_);rintro e y4 ⟨rfl,hb⟩;have Y4:=Lib.hid (show Ext Z2 y4 from hb);clear hb)
   clear c0 c1 c2 c3 c4 c5 q1
   have HNx:=Lib.hid (And.intro (show (acc++[u]).length=j+1 from by rw [List.length_append,HAc.out.1];rfl) (HNum.out u HU.out HUs.out))
   have hgk:=HG.out
   have hlen1:acc.length+1=j+1:=by rw [HAc.out.1]
   by_cases hs0:s=[]
   ·subst hs0
    go_wp2_with fail
    go_roundg (gk - 1)
    case measure=>omega
    case rel=>exact ⟨j+1,acc++[u],_,by omega,by go_num,Lib.hid (HB2.out.below Y4.out),Lib.hid (HR2.out.below Y4.out),HNx,Lib.hid (Ext.trans HV2.out Y4.out),Lib.hid (by omega)⟩
   ·have hem:s.isEmpty=false:=by simpa using hs0
    have QP2:=Lib.hid (QPr.out y4 hs0)
    go_upto_region 12 with (go_at_call 20;(with_reducible refine QP2.out.mono ?_);rintro e y5 ⟨p,rfl,hp,htw,hvv,hb⟩;have Y5:=Lib.hid (show Ext Z2 y5 from Ext.trans Y4.out hb);have HPa:=Lib.hid hp;have HPs:=Lib.hid (HSh.out p htw hvv);clear hp htw hvv hb)
    obtain ⟨Z3,hZ3⟩:∃Z3,y5.alloc (.cells #[.string p.name,.slice p.kA p.keep.length p.kc,.slice p.rA p.remove.length p.rc,.slice p.gA p.guard.length p.gc,.slice p.bA p.body.length p.bc,.int .i64 p.vars] 25)=Z3:=⟨_,rfl⟩
    have H7:=Lib.hid (show HeldL y5.heap.size Z3 [.string p.name,.slice p.kA p.keep.length p.kc,.slice p.rA p.remove.length p.rc,.slice p.gA p.guard.length p.gc,.slice p.bA p.body.length p.bc,.int .i64 p.vars] from by rw [←hZ3];exact heldL_new _ _ _)
    have YZ3:=Lib.hid (show Ext y5 Z3 from by rw [←hZ3];exact Ext.al _ _)
    rw [hZ3]
    clear hZ3
    have Z23:=Lib.hid (Ext.trans Y5.out YZ3.out)
    have H53:=Lib.hid (H52.out.below Z23.out)
    have QSm:=Lib.hid (ssame_rule_at p u Z3 HPs.out.2 (HPa.out.below YZ3.out) (HUZ.out Z3 Z23.out) (HPs.out.1.trans HU.out.symm).same)
    have k0:=H53.out.cell 0 _ rfl
    have k1:=H53.out.cell 1 _ rfl
    have k2:=H53.out.cell 2 _ rfl
    have k3:=H53.out.cell 3 _ rfl
    have k4:=H53.out.cell 4 _ rfl
    have k5:=H53.out.cell 5 _ rfl
    have l0:=H7.out.cell 0 _ rfl
    have l1:=H7.out.cell 1 _ rfl
    have l2:=H7.out.cell 2 _ rfl
    have l3:=H7.out.cell 3 _ rfl
    have l4:=H7.out.cell 4 _ rfl
    have l5:=H7.out.cell 5 _ rfl
    go_wp2_with (go_at_call 12;(with_reducible refine QSm.out.mono ?_);rintro e y6 ⟨rfl,h6⟩;have Y6:=Lib.hid (show Ext Z2 y6 from Ext.trans Z23.out h6);clear h6)
    go_roundg (gk - 1)
    case measure=>omega
    case rel=>exact ⟨j+1,acc++[u],_,by omega,by go_num,Lib.hid (HB2.out.below Y6.out),Lib.hid (HR2.out.below Y6.out),HNx,Lib.hid (Ext.trans HV2.out Y6.out),Lib.hid (by omega)⟩
  ·obtain rfl:j=a0.rules.length:=by omega
   obtain ⟨zA,zc,hz,hzc⟩:=HK.out.form
   subst hz
   have hacl:=HAc.out.1
   rw [hacl] at HB HK
   have HAcl:=Lib.hid hacl
   clear hacl
   have HWl:=Lib.hid (HK.out.lies)
   have HHd:=Lib.hid (fun d (hd:d∈a0.decls)=>(HP.out w (Ext.refl w)).decls.mem hd)
   have QPm:=Lib.hid (HH.out.program a0 wr (HP.out _ HE.out) (by have:=HLe.out.1;omega) HTi.out.1 HTi.out.2 (HLd.out _ HE.out))
   have QPr:=Lib.hid (fun W (h:a0.src≠[])=>program_returns a0 (fun d hd=>HHd.out d hd) (fun r hr=>by have h1:=varsL_len r.ts;have h2:=(HTi.out.2 r hr).1.nodes;unfold Rl.vs;omega) h W)
   obtain ⟨s,hs⟩:∃s,a0.src=s:=⟨_,rfl⟩
   rw [hs] at QPm QPr
   clear hs hlt hj HG
   by_cases hs0:s=[]
   ·subst hs0
    go_wp2_with (first
     | (go_at_call 16;(with_reducible refine QPm.out.mono ?_);rintro e y1 ⟨rfl,h1⟩;have E1:=Lib.hid (show Ext X y1 from Ext.trans (Ext.trans G1.out HV.out) h1);clear h1)
     | (go_at_call 9;(with_reducible refine (QE.out _ E1.out).mono ?_);rintro e v3 ⟨rfl,h3⟩;have G3:=Lib.hid (show Ext X v3 from Ext.trans E1.out h3);clear h3)
     | fail)
    go_ret
    exact ⟨rfl,BX.out _ G3.out⟩
   ·have hem:s.isEmpty=false:=by simpa using hs0
    have QP2:=Lib.hid (fun W=>QPr.out W hs0)
    go_upto_region 18 with (first
     | (go_at_call 16;(with_reducible refine QPm.out.mono ?_);rintro e y1 ⟨rfl,h1⟩;have E1:=Lib.hid (show Ext wr y1 from h1);clear h1)
     | (go_at_call 21;(with_reducible refine (QP2.out _).mono ?_);rintro e y2 ⟨p,rfl,hp,hpd,hpl,hpr,h1⟩;have E2:=Lib.hid (show Ext wr y2 from Ext.trans E1.out h1);have HPa:=Lib.hid hp;have HPd:=Lib.hid hpd;have HPl:=Lib.hid hpl;have HPr:=Lib.hid hpr;clear h1 hp hpd hpl hpr)
     | fail)
    obtain ⟨Z3,hZ3⟩:∃Z3,y2.alloc (.cells #[.slice p.dA p.decls.length p.dc,.slice p.rA p.rules.length p.rc] 35)=Z3:=⟨_,rfl⟩
    have H7:=Lib.hid (show HeldL y2.heap.size Z3 [.slice p.dA p.decls.length p.dc,.slice p.rA p.rules.length p.rc] from by rw [←hZ3];exact heldL_new _ _ _)
    have YZ3:=Lib.hid (show Ext y2 Z3 from by rw [←hZ3];exact Ext.al _ _)
    rw [hZ3]
    clear hZ3 q0 q1
    have E3:=Lib.hid (Ext.trans E2.out YZ3.out)
    have HB3:=Lib.hid (HB.out.below E3.out)
    have HEz:=Lib.hid (show Ext w Z3 from Ext.trans HE.out E3.out)
    have HWant:=Lib.hid (fun W (g:Ext Z3 W)=>(⟨(HP.out W (Ext.trans HEz.out g)).decls,by
     have h1:=HWl.out W (Ext.trans HEz.out g) (fun b h1 h2 h3=>(Ext.trans E3.out g).block b h2)
     exact h1⟩:Pm.At W ⟨a0.dA,a0.dc,a0.decls,zA,zc,acc⟩))
    have HSame:=Lib.hid (show p.Same ⟨a0.dA,a0.dc,a0.decls,zA,zc,acc⟩ from by
     refine ⟨by rw [HPd.out],fun i hi=>by rw [HPd.out],by rw [HPl.out];exact HAcl.out.symm,fun i hi=>?_⟩
     have hi2:i < a0.rules.length:=by rw [←HPl.out];exact hi
     obtain ⟨h1,h2⟩:=HPr.out i hi2
     obtain ⟨h3,h4⟩:=HAc.out.2 i hi2
     have h5:=h1.can h2
     exact ⟨(h5.trans h3.symm).same,can_short h5 (HTi.out.2 _ (rl_getD_mem hi2)).1⟩)
    have QS:=Lib.hid (fun W (g:Ext Z3 W)=>show Calls Tryz.prog 22 #[p.val,.agg #[.slice a0.dA a0.decls.length a0.dc,.slice zA a0.rules.length zc]] W (fun e w'=>e=.returned (.bool true)∧Ext W w') from by
     have h1:=same_program_at p ⟨a0.dA,a0.dc,a0.decls,zA,zc,acc⟩ W (HPa.out.below (Ext.trans YZ3.out g)) (HWant.out W g) HSame.out
     have e:Pm.val ⟨a0.dA,a0.dc,a0.decls,zA,zc,acc⟩=.agg #[.slice a0.dA a0.decls.length a0.dc,.slice zA a0.rules.length zc]:=by rw [←HAcl.out]
     rw [e] at h1
     exact h1)
    have m0:=HB3.out.cell 0 _ rfl
    have m1:=HB3.out.cell 1 _ rfl
    have l0:=H7.out.cell 0 _ rfl
    have l1:=H7.out.cell 1 _ rfl
    go_wp2_with (first
     | (go_at_call 22;(with_reducible refine (QS.out Z3 (Ext.refl Z3)).mono ?_);rintro e y3 ⟨rfl,h1⟩;have E4:=Lib.hid (show Ext X y3 from Ext.trans (Ext.trans G1.out HV.out) (Ext.trans E3.out h1));clear h1)
     | (go_at_call 9;(with_reducible refine (QE.out _ E4.out).mono ?_);rintro e v3 ⟨rfl,h3⟩;have G3:=Lib.hid (show Ext X v3 from Ext.trans E4.out h3);clear h3)
     | fail)
    go_ret
    exact ⟨rfl,BX.out _ G3.out⟩
end Go.Proofs.YtnghanpmmbcbbaaGreatDoor.sourceReturns
