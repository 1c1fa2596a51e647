/-
  LwSpread.
-/
import Derived.Test.YtaojnljppcnhjaaGreatDoorMh32
import Derived.BigQuiet
import Derived.Lib.QuietBelow
import Derived.Lib.Hide
namespace Go.Proofs.YtaojnljppcnhjaaGreatDoor
open Go.RowKit Go.Sort
theorem spr_next {l:List Tk} {seed j:Nat} {x z:ByteArray} (hx:x.data.toList=sprT l seed j) (hz:z=S (l.getD j default).2.2) (h:sepAt l seed j=[]):(x++z:ByteArray).data.toList=sprT l seed (j+1):=by
 subst hz
 rw [sprT,h,← hx]
 simp
theorem spr_next2 {l:List Tk} {seed j:Nat} {x y z:ByteArray} (hx:x.data.toList=sprT l seed j) (hz:z=S (l.getD j default).2.2) (h:sepAt l seed j=y.data.toList):(x++y++z:ByteArray).data.toList=sprT l seed (j+1):=by
 subst hz
 rw [sprT,h,← hx]
 simp
theorem seedAt_lt {l:List Tk} {seed:Nat} (h:seed < 18446744073709551616):∀i,seedAt l seed i < 18446744073709551616
 | 0=>h
 | 1=>h
 | i+2=>by
  rw [seedAt]
  split
  ·exact seedAt_lt h (i+1)
  ·exact Nat.mod_lt _ (by decide)
theorem seed_wrap (sd j:Nat):IntKind.u64.wrap (IntKind.u64.wrap ((sd:Int) / 5*7)+(j:Int))=((nextSeed sd j:Nat):Int):=by
 rw [IntKind.wrap_u64,IntKind.wrap_u64]
 unfold nextSeed
 omega
set_option maxHeartbeats 16000000 in
set_option maxRecDepth 100000 in
theorem spread_at (l:List Tk) (A:Option Addr) (c:Nat) (w:World) (seed:Nat) (hs:seed < 18446744073709551616) (ht:TLst w A l c) (hlen:l.length≤2001) (hT:∀i,i≤l.length→(sprT l seed i).length≤11000) (hx:∀j,j < l.length→(l.getD j default).2.2.length≤2000∧(l.getD j default).2.1≤100000) :
  Calls Tryz.prog 22 #[.slice A l.length c,.int .u64 (seed:Int)] w fun e w'=>(∃x,e=.returned (.string x)∧x.data.toList=sprT l seed l.length)∧Below w.heap.size w w':=by
 have HT:=Lib.hid ht
 have HL:=Lib.hid hT
 have HX:=Lib.hid hx
 have HS:=Lib.hid (fun i=>seedAt_lt (l:=l) hs i)
 have h0:seedAt l seed 0=seed:=rfl
 clear ht hT hx hs
 go_enter Tryz.func22,Tryz.ntmps22
 go_wp2_with fail
 go_loopg [1,5,9] l.length (fun gk sd v i wr=>∃(j:Nat) (x:ByteArray),j≤l.length∧i=.int .i64 (j:Int)∧sd=.int .u64 ((seedAt l seed j:Nat):Int)∧v=.string x∧Hid (x.data.toList=sprT l seed j)∧Hid (Below w.heap.size w wr∧l.length - j≤gk))
 case atStart=>exact ⟨0,⟨#[]⟩,Nat.zero_le _,rfl,rfl,rfl,Lib.hid rfl,Lib.hid ⟨Below.refl _ _,Nat.le_refl _⟩⟩
 case round =>
  obtain ⟨j,x,hj,rfl,rfl,rfl,HXj,hI⟩:=hrel
  obtain ⟨wo,hwo⟩:∃wo,wo=wr:=⟨_,rfl⟩
  subst hwo
  have HO:=Lib.hid hI.out.1
  have HGk:=Lib.hid hI.out.2
  clear hI h0
  by_cases hlt:j < l.length
  ·have hltI:(j:Int) < (l.length:Int):=by omega
   have hxz:x.size≤11000:=by
    have h1:=HL.out j hj
    rw [←HXj.out] at h1
    have e:x.data.toList.length=x.size:=Array.length_toList
    omega
   obtain ⟨g,rfl,c0,c1,c2⟩:=(HT.out.below HO.out).get (i:=j) hlt
   have HZ:(S (l.getD j default).2.2).size≤2000:=by
    have h1:=(HX.out j hlt).1
    rw [S_size]
    exact h1
   obtain ⟨z,hz⟩:∃z,S (l.getD j default).2.2=z:=⟨_,rfl⟩
   rw [hz] at c2 HZ
   have HZe:=Lib.hid hz.symm
   have hi63:¬(9223372036854775807 < (j:Int)+1):=by omega
   have hs1:¬(9223372036854775807 < x.size+z.size):=by omega
   by_cases hj0:j=0
   ·subst hj0
    have HN:=Lib.hid (spr_next HXj.out HZe.out (show sepAt l seed 0=[] from rfl))
    have HSd:=Lib.hid (show seedAt l seed (0+1)=seedAt l seed 0 from rfl)
    have kc0:=cell_regrown c0
    have kc1:=cell_regrown c1
    have kc2:=cell_regrown c2
    clear hz
    go_wp2_with fail
    refine wp_region_quiet_below (by kernel_rfl) (by kernel_rfl) ?_
    repeat (go_big_quiet_step (fail))
    refine wpQuiet_nil ?_
    intro w1 hw'
    have HO1:=Lib.hid (HO.out.trans ((regrown_below hw').mono HO.out.size))
    have c2':=((regrown_below hw').cell (World.block_lt_of_cell? _ _ c2)).trans c2
    clear kc0 kc1 kc2 hw'
    go_wp2_with fail
    go_roundg (gk - 1)
    case measure=>have:=HGk.out;omega
    case rel=>exact ⟨0+1,_,by omega,by go_num,by rw [HSd.out],rfl,HN,Lib.hid ⟨HO1.out,by have:=HGk.out;omega⟩⟩
   ·obtain ⟨m,hm⟩:∃m,j=m+1:=⟨j - 1,by omega⟩
    have hml:m < l.length:=by omega
    obtain ⟨g',hg',_,b1,b2⟩:=(HT.out.below HO.out).get (i:=m) hml
    injection hg' with hg'
    injection hg' with hg'
    subst hg'
    have hjp:(0:Int) < (j:Int):=by omega
    have hjn:0 < j:=by omega
    have hwj:IntKind.i64.wrap ((j:Int) - 1)=(m:Int):=by rw [IntWalk.i64_in _ (by omega)];omega
    have hwk:(j:Int) - 1=(m:Int):=by omega
    have HMk:=Lib.hid (show markT l j=((l.getD j default).1==3&&((l.getD m default).2.2==[45]&&(l.getD j default).2.1==(l.getD m default).2.1+1)) by rw [hm];rfl)
    have HSn:=Lib.hid (show seedAt l seed (j+1)=if markT l j then seedAt l seed j else nextSeed (seedAt l seed j) j by rw [hm];rfl)
    have HSp:=Lib.hid (show sepAt l seed j=if markT l j=true then [] else sepS (seedAt l seed j) by unfold sepAt;simp [hj0])
    have HSl:=Lib.hid (HS.out j)
    have hp0:(l.getD m default).2.1≤100000:=(HX.out m hml).2
    have hmI:(m:Int) < (l.length:Int):=by omega
    have hZe:=HZe.out
    have HNa:=Lib.hid (fun h=>spr_next (z:=z) HXj.out hZe h)
    have HNb:=Lib.hid (fun y h=>spr_next2 (y:=y) (z:=z) HXj.out hZe h)
    clear hZe HZe hz
    obtain ⟨q0,hq0⟩:∃q,(l.getD m default).2.1=q:=⟨_,rfl⟩
    obtain ⟨q1,hq1⟩:∃q,(l.getD j default).2.1=q:=⟨_,rfl⟩
    obtain ⟨k1,hk1⟩:∃q,(l.getD j default).1=q:=⟨_,rfl⟩
    obtain ⟨tm,htm⟩:∃q,(l.getD m default).2.2=q:=⟨_,rfl⟩
    obtain ⟨sd,hsd⟩:∃q,seedAt l seed j=q:=⟨_,rfl⟩
    rw [hq0,hq1,hk1,htm] at HMk
    rw [hsd] at HSn HSp HSl
    rw [hq0] at b1 hp0
    rw [htm] at b2
    rw [hq1] at c1
    rw [hk1] at c0
    rw [hsd]
    clear hq0 hq1 hk1 htm hsd hm
    obtain ⟨ba,hba⟩:∃b,(tm==[45])=b:=⟨_,rfl⟩
    obtain ⟨bb,hbb⟩:∃b,(k1==3)=b:=⟨_,rfl⟩
    obtain ⟨bc,hbc⟩:∃b,((q1:Int)==(q0:Int)+1)=b:=⟨_,rfl⟩
    have HMb:=Lib.hid (show markT l j=(bb&&(ba&&bc)) by
     rw [HMk.out,hba,hbb]
     congr 2
     rw [←hbc]
     rw [Bool.eq_iff_iff,beq_iff_eq,beq_iff_eq]
     omega)
    have hw1:IntKind.i64.wrap ((q0:Int)+1)=(q0:Int)+1:=IntWalk.i64_in _ (by omega)
    have kc0:=cell_regrown c0
    have kc1:=cell_regrown c1
    have kc2:=cell_regrown c2
    have kb1:=cell_regrown b1
    have kb2:=cell_regrown b2
    clear HMk hlt hj0
    by_cases hmk:markT l j=true
    ·have hall:=HMb.out
     rw [hmk] at hall
     have e1:bb=true:=by revert hall;cases bb<;>simp
     have e2:ba=true:=by revert hall;cases bb<;>cases ba<;>simp
     have e3:bc=true:=by revert hall;cases bb<;>cases ba<;>simp
     subst e1 e2 e3
     have HSn':=Lib.hid (show seedAt l seed (j+1)=sd by rw [HSn.out,if_pos hmk])
     have HN:=Lib.hid (HNa.out (by rw [HSp.out,if_pos hmk]))
     clear hall hmk HSn HSp HNa HNb HMb
     go_wp2_with fail
     refine wp_region_quiet_below (by kernel_rfl) (by kernel_rfl) ?_
     repeat (go_big_quiet_step (fail))
     refine wpQuiet_nil ?_
     intro w1 hw'
     have HO1:=Lib.hid (HO.out.trans ((regrown_below hw').mono HO.out.size))
     have c2':=((regrown_below hw').cell (World.block_lt_of_cell? _ _ c2)).trans c2
     clear kc0 kc1 kc2 kb1 kb2 hw'
     go_wp2_with fail
     go_roundg (gk - 1)
     case measure=>have:=HGk.out;omega
     case rel=>exact ⟨j+1,_,by omega,by go_num,by rw [HSn'.out],rfl,HN,Lib.hid ⟨HO1.out,by have:=HGk.out;omega⟩⟩
    ·have HSn':=Lib.hid (show seedAt l seed (j+1)=nextSeed sd j by rw [HSn.out,if_neg hmk])
     have HSp':=Lib.hid (show sepAt l seed j=sepS sd by rw [HSp.out,if_neg hmk])
     have hall:=HMb.out
     rw [Bool.eq_false_iff.2 hmk] at hall
     clear hmk HSn HSp HNa HMb
     have hcs:ba=false∨(ba=true∧bb=false)∨(ba=true∧bb=true∧bc=false):=by revert hall;cases ba<;>cases bb<;>cases bc<;>simp
     have hsd5:sd % 5=0∨sd % 5=1∨sd % 5=2∨sd % 5=3∨sd % 5=4:=by omega
     have HSl2:=HSl.out
     have hwm:IntKind.u64.wrap ((j:Nat):Int)=(j:Int):=by rw [IntKind.wrap_u64];omega
     clear hall
     rcases hcs with rfl|⟨rfl,rfl⟩|⟨rfl,rfl,rfl⟩
     all_goals
      go_wp2_with fail
      refine wp_region_quiet_below (by kernel_rfl) (by kernel_rfl) ?_
      repeat (go_big_quiet_step (fail))
      refine wpQuiet_nil ?_
      intro w1 hw'
      have HO1:=Lib.hid (HO.out.trans ((regrown_below hw').mono HO.out.size))
      have c2':=((regrown_below hw').cell (World.block_lt_of_cell? _ _ c2)).trans c2
      clear kc0 kc1 kc2 kb1 kb2 hw' hba hbb hbc b1 b2 c0 c1
      rcases hsd5 with h5|h5|h5|h5|h5
      all_goals
       have hr1:((sd:Int).tmod 5)=((sd % 5:Nat):Int):=by rw [Int.tmod_eq_emod_of_nonneg (by omega)];omega
       rw [h5] at hr1
       have hr2:((sd:Int) % 5)=((sd % 5:Nat):Int):=by omega
       rw [h5] at hr2
       have HS5:=Lib.hid h5
       clear h5
       go_wp2_with fail
       go_roundg (gk - 1)
       case measure=>have:=HGk.out;omega
       case rel=>exact ⟨j+1,_,by omega,by go_num,by rw [HSn'.out,seed_wrap],rfl,Lib.hid (HNb.out _ (by rw [HSp'.out,sepS];simp [HS5.out])),Lib.hid ⟨HO1.out,by have:=HGk.out;omega⟩⟩
  ·obtain rfl:j=l.length:=by omega
   go_wp2_with fail
   go_ret
   exact ⟨⟨x,rfl,HXj.out⟩,HO.out⟩
end Go.Proofs.YtaojnljppcnhjaaGreatDoor
