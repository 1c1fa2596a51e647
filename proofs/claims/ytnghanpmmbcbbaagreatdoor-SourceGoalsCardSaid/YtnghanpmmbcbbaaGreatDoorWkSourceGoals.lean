/-
  WkSourceGoals.
-/
import Derived.Test.YtnghanpmmbcbbaaGreatDoorMq21
import Derived.Test.YtnghanpmmbcbbaaGreatDoorMq33
import Derived.Deep.LoopGhost
import Derived.Deep.RegionLaw
import Derived.Deep.RegionHeld3
import Derived.Deep.Cut
namespace Go.Proofs.YtnghanpmmbcbbaaGreatDoor.sourceGoals
open Go.ChangeShapes Go.WideShapes Go.ChangeAt Go.RowKit Go.Sort
set_option linter.unusedVariables false
set_option maxHeartbeats 16000000 in
set_option maxRecDepth 100000 in
theorem walk (H:Writes) (l:List Gl) (A:Option Addr) (c:Nat) (w:World) (w1:GlLst w A l c) (hL:Laid w) :
  Calls Tryz.prog 7 #[.slice A l.length c] w fun e w'=>e=.returned (.bool true)∧Below w.heap.size w w':=by
 have HGl:=Lib.hid (fun W (h:Ext w W)=>show GlLst W A l c from w1.below h)
 have HLd:=Lib.hid (fun W (h:Ext w W)=>show Laid W from hL.below h)
 have QE:=Lib.hid (fun W (h:Ext w W)=>H.example_ W (HLd.out W h))
 have hll:=w1.len
 have HT:=Lib.hid (fun (j:Nat) (hj:j < l.length)=>show ∀t∈(l.getD j default).args,∀W,From w W→t.At W from fun t ht W hW=>(Lst.mem (w1.mem (gl_getD_mem hj)).2.2 ht).below hW)
 obtain ⟨gg,hgg⟩:∃q,decide (weighGl l 600 < 0)=q:=⟨_,rfl⟩
 have QGG:=Lib.hid (great_gls_at l A c 600 w w1 (by omega) (by omega) hgg)
 by_cases l45:45 < l.length
 ·have l45':decide ((45:Int) < (l.length:Int))=true:=by simp;omega
  clear w1 hL hgg QGG
  go_enter Tryz.func7,Tryz.ntmps7
  go_wp2_with (go_at_call 9;(with_reducible refine (QE.out w (Ext.refl w)).mono ?_);rintro e v3 ⟨rfl,h3⟩;have G3:=Lib.hid (show Ext w v3 from h3);clear h3)
  go_ret
  exact ⟨rfl,G3.out⟩
 have l45':decide ((45:Int) < (l.length:Int))=false:=by simp;omega
 cases gg with
 | true =>
  clear w1 hL hgg
  go_enter Tryz.func7,Tryz.ntmps7
  go_wp2_with (first
   | (go_at_call 15;(with_reducible refine QGG.out.mono ?_);rintro e v1 ⟨rfl,h2⟩;have G1:=Lib.hid (show Ext w v1 from h2);clear h2)
   | (go_at_call 9;(with_reducible refine (QE.out v1 G1.out).mono ?_);rintro e v3 ⟨rfl,h3⟩;have G3:=Lib.hid (show Ext w v3 from Ext.trans G1.out h3);clear h3)
   | fail)
  go_ret
  exact ⟨rfl,G3.out⟩
 | false =>
 have HNo:=Lib.hid (show ∀x∈l,nodesL x.args≤600 from fun x hx=>by
  have h:=(weighGl_facts l 600 (by simp at hgg;omega)).2 x hx
  omega)
 have HLe:=Lib.hid (show l.length≤45 from by omega)
 have Q1:=Lib.hid (fun W (h:Ext w W)=>H.goals l A c W (HGl.out W h) (by have:=HLe.out;omega) HNo.out (HLd.out W h))
 have QPr:=Lib.hid (fun (h:goalsSrc l≠[]) W=>goals_returns l h W)
 have HSm:=Lib.hid (fun (h:goalsSrc l≠[])=>(goals_some h).2.2.1)
 obtain ⟨t,ht⟩:∃s,goalsSrc l=s:=⟨_,rfl⟩
 rw [ht] at Q1 QPr HSm
 clear w1 hL hgg l45 ht
 by_cases ht0:t=[]
 ·subst ht0
  go_enter Tryz.func7,Tryz.ntmps7
  go_wp2_with (first
   | (go_at_call 15;(with_reducible refine QGG.out.mono ?_);rintro e v1 ⟨rfl,h2⟩;have G1:=Lib.hid (show Ext w v1 from h2);clear h2)
   | (go_at_call 18;(with_reducible refine (Q1.out v1 G1.out).mono ?_);rintro e v2 ⟨rfl,h2⟩;have G2:=Lib.hid (show Ext w v2 from Ext.trans G1.out h2);clear h2)
   | (go_at_call 9;(with_reducible refine (QE.out v2 G2.out).mono ?_);rintro e v3 ⟨rfl,h3⟩;have G3:=Lib.hid (show Ext w v3 from Ext.trans G2.out h3);clear h3)
   | fail)
  go_ret
  exact ⟨rfl,G3.out⟩
 have hem:t.isEmpty=false:=by simpa using ht0
 have QP2:=Lib.hid (QPr.out ht0)
 have HAG:=Lib.hid (HSm.out ht0)
 have HVs:=Lib.hid (vs_small HAG.out)
 have HVl:=Lib.hid (show (vsGl l).length≤27000 from by
  have h1:=varsL_len (l.flatMap Gl.args)
  have h2:=nodes_flat Gl.args l HNo.out
  have h3:=HLe.out
  have h4:l.length*600≤27000:=by omega
  unfold vsGl
  omega)
 clear QPr HSm
 go_enter Tryz.func7,Tryz.ntmps7
 go_wp2_with (first
  | (go_at_call 15;(with_reducible refine QGG.out.mono ?_);rintro e v1 ⟨rfl,h2⟩;have G1:=Lib.hid (show Ext w v1 from h2);clear h2)
  | (go_at_call 18;(with_reducible refine (Q1.out v1 G1.out).mono ?_);rintro e v2 ⟨rfl,h2⟩;have G2:=Lib.hid (show Ext w v2 from Ext.trans G1.out h2);clear h2)
  | (go_at_call 26;(with_reducible refine (QP2.out v2).mono ?_);rintro e v3 ⟨m,mA,zA,mc,zn,zc,rfl,hm1,hm2,hz,h2⟩;have G3:=Lib.hid (show Ext w v3 from Ext.trans G2.out h2);have HM1:=Lib.hid hm1;have HM2:=Lib.hid hm2;have HZ:=Lib.hid hz;clear h2 hm1 hm2 hz)
  | fail)
 clear QGG Q1 QP2 hem
 have HZn:=Lib.hid (names_get HZ.out (by simp [labs]))
 have hzn:zn=(vsGl l).length:=by rw [HZn.out.1];simp [labs]
 subst hzn
 go_loopg [8,9] l.length (fun gk v i wr=>∃(j:Nat) (acc:List Tm) (x:Value),j≤l.length∧i=.int .i64 (j:Int)∧v=x∧Hid (RowT (From w) v3.heap.size wr x acc)∧Hid (acc=(l.take j).flatMap Gl.args)∧Hid (l.length - j≤gk)∧Hid (Ext v3 wr))
 case atStart=>exact ⟨0,[],_,Nat.zero_le _,rfl,rfl,Lib.hid (RowT.nil _ _ _),Lib.hid rfl,Lib.hid (by omega),Lib.hid (Ext.refl _)⟩
 case round =>
  obtain ⟨j,acc,z,hj,rfl,hz,HK,HA,HG,HB⟩:=hrel
  have hz':=hz.symm
  subst hz'
  clear hz
  by_cases hlt:j < l.length
  ·obtain ⟨b0,o,rfl,hcs,hxa⟩:=(HGl.out _ (Ext.trans G3.out HB.out)).get hlt
   have HN:=Lib.hid (flat_next Gl.args hlt)
   have c2:=hcs 2 _ rfl
   have HXa:=Lib.hid hxa
   have HTx:=Lib.hid (HT.out j hlt)
   have HLl:=Lib.hid (show acc.length+(l.getD j default).args.length≤1000000 from by
    have h1:=length_le_nodes acc
    have h2:=length_le_nodes (l.getD j default).args
    have h3:nodesL acc≤27000:=by
     rw [HA.out]
     have:=nodes_flat Gl.args (l.take j) (fun x hx=>HNo.out x (List.mem_of_mem_take hx))
     have h5:(l.take j).length≤45:=by rw [List.length_take];have:=HLe.out;omega
     omega
    have h4:=HNo.out _ (gl_getD_mem hlt)
    omega)
   have HBs:=Lib.hid HB.out.size
   clear hcs hxa
   generalize l.getD j default=x at *
   go_wp2_with (at_builtin;refine wpList_append_terms (B:=From w) (lo:=v3.heap.size) rfl _ _ rfl rfl rfl HK.out HXa.out.2.2 HTx.out HBs.out (by have:=HLl.out;omega) ?_;intro v' w5 hk5 hg5)
   have HK5:=Lib.hid hk5
   have HB5:=Lib.hid (show Ext v3 w5 from (HB.out).grown hg5 (by have:=HB.out.size;omega) (fun k hk=>(own_lt HK.out.1 k hk).1))
   clear hk5 hg5
   go_wp2_with fail
   have hgk:=HG.out
   go_roundg (gk - 1)
   case measure=>omega
   case rel=>exact ⟨j+1,acc++x.args,_,by omega,by go_num,rfl,HK5,Lib.hid (by rw [HN.out,HA.out]),Lib.hid (by omega),HB5⟩
  ·obtain rfl:j=l.length:=by omega
   have HE:=Lib.hid (show acc=l.flatMap Gl.args from by rw [HA.out,List.take_length])
   obtain ⟨A',cz,hz,hcz⟩:=HK.out.form
   subst hz
   have HLst:=Lib.hid (HK.out.lies wr (Ext.trans G3.out HB.out) (Agree.refl _ _ _))
   have QV:=Lib.hid (show Calls Tryz.prog 23 #[.slice A' acc.length cz] wr (Grows wr (vsGl l)) from by
    have h1:=ref_vars_of_at acc A' cz wr HLst.out (by
     have h1:=size_nodes.2 acc
     have h3:nodesL acc≤27000:=by
      rw [HE.out]
      have:=nodes_flat Gl.args l HNo.out
      have h5:=HLe.out
      omega
     omega)
    have e:varsL acc=vsGl l:=by rw [HE.out];rfl
    rw [←e]
    exact h1)
   clear HA HG hlt hj HK HLst HE
   generalize acc.length=na at *
   go_wp2_with fail
   refine QV.out.mono ?_
   rintro e v4 ⟨v,rfl,hown,hb⟩
   obtain ⟨V,cv,rfl,hI,_⟩:=hown.form
   have HB4:=Lib.hid (show Ext v3 v4 from Ext.trans HB.out hb)
   have HI:=Lib.hid (fun W (h:Ext v4 W)=>show Ints W V (vsGl l) from hI.below h)
   clear hown hb hI QV HB
   have QR:=Lib.hid (ren_gls_at w V (vsGl l) cv (by have:=HVl.out;omega) l A c v4 (HI.out v4 (Ext.refl v4)) (Ext.trans G3.out HB4.out) (HGl.out w (Ext.refl w)) (by have:=HLe.out;omega) (fun x hx=>by have:=HNo.out x hx;omega))
   have hrs:=HM2.out
   have hml:m.length=l.length:=by have:=congrArg List.length hrs;simpa using this
   have HMl:=Lib.hid hml
   have HRS:=Lib.hid (fun (k:List Gl) (hk:k.map Gl.key=(l.map fun x=>x.rr (placeS (vsGl l))).map Gl.key)=>(read_same HAG.out HM2.out hk).2)
   rw [hml]
   have hvn:((vsGl l).length:Int)≤9223372036854775807:=by have:=HVl.out;omega
   clear hrs hml
   go_wp2_with (go_at_call 28;(with_reducible refine QR.out.mono ?_);rintro e v5 ⟨kA,kc,k,rfl,hkl,hkk,hkL,hb⟩;have HB5:=Lib.hid (show Ext v3 v5 from Ext.trans HB4.out hb);have HKK:=Lib.hid hkk;have HKl:=Lib.hid hkl;have HKL:=Lib.hid (hkL v5 (Ext.trans G3.out HB5.out) (Agree.refl _ _ _));have HI5:=Lib.hid (show Ext v4 v5 from hb);clear hb hkk hkl hkL)
   have QS:=Lib.hid (same_gls_at m k l.length mA kA mc kc v5 (HM1.out.below HB5.out) HKL.out HMl.out HKl.out (by have:=HLe.out;omega) (HRS.out k HKK.out))
   refine QS.out.mono ?_
   rintro e v6 ⟨rfl,hb⟩
   have HB6:=Lib.hid (show Ext v3 v6 from Ext.trans HB5.out hb)
   have HI6:=Lib.hid (show Ext v4 v6 from Ext.trans HI5.out hb)
   clear hb QS QR HRS HKK HKl HKL HM1 HM2 HMl HI5
   go_wp2_with fail
   go_loopg [11] (vsGl l).length (fun gk i wr=>∃j:Nat,j≤(vsGl l).length∧i=.int .i64 (j:Int)∧Hid (Ext v3 wr)∧Hid (Ext v4 wr)∧Hid ((vsGl l).length - j≤gk))
   case atStart=>exact ⟨0,Nat.zero_le _,rfl,HB6,HI6,Lib.hid (by omega)⟩
   case round =>
    obtain ⟨j,hj,rfl,HB,HBi,HG⟩:=hrel
    by_cases hlt:j < (vsGl l).length
    ·obtain ⟨bz,hzA,hzc⟩:=HZn.out.2 (by simp [labs];omega)
     have z0:=hzc j (by simp [labs];omega)
     rw [labs_get hlt] at z0
     have z1:=keepv HB.out z0
     clear hzc z0
     subst hzA
     obtain ⟨bv,ov,rfl,hc⟩:=(HI.out _ HBi.out).get hlt
     obtain ⟨v0,v9⟩:=HVs.out _ (getD_int hlt)
     generalize (vsGl l).getD j 0=v at *
     obtain ⟨n,rfl⟩:∃n:Nat,v=(n:Int):=⟨v.toNat,by omega⟩
     have QLb:=Lib.hid (fun W=>ref_label_in n W (by omega))
     rw [show ((n:Int)).toNat=n from by simp] at z1
     obtain ⟨lb,hlb⟩:∃x,label n=x:=⟨_,rfl⟩
     rw [hlb] at QLb z1
     clear hlb v0 v9
     go_wp2_with fail
     go_region_law (first
      | (go_simp;go_at_call 29;(with_reducible refine (QLb.out _).mono ?_);rintro e y1 ⟨rfl,hb⟩;have E1:=Lib.hid (show Ext wr y1 from Ext.trans (Ext.drew _) hb);have z2:=keepv E1.out z1;have hc2:=keepv E1.out hc;clear hb)
      | fail)
     all_goals
      go_wp2_with fail
      have hgk:=HG.out
      go_roundg (gk - 1)
      case measure=>omega
      case rel=>exact ⟨j+1,by omega,by go_num,Lib.hid (Ext.trans HB.out E1.out),Lib.hid (Ext.trans HBi.out E1.out),Lib.hid (by omega)⟩
    ·obtain rfl:j=(vsGl l).length:=by omega
     have HBe:=Lib.hid (show Ext w wr from Ext.trans G3.out HB.out)
     clear hlt hj HG
     go_wp2_with (go_at_call 9;(with_reducible refine (QE.out _ HBe.out).mono ?_);rintro e v7 ⟨rfl,h3⟩;have G7:=Lib.hid (show Ext w v7 from Ext.trans HBe.out h3);clear h3)
     go_ret
     exact ⟨rfl,G7.out⟩
end Go.Proofs.YtnghanpmmbcbbaaGreatDoor.sourceGoals
