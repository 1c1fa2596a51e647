/-
  LwCount.
  LwValid.
-/
import Derived.Test.YtaojnljppcnhjaaGreatDoorMh30
import Derived.Test.YtaojnljppcnhjaaGreatDoorMh11
namespace Go.Proofs.YtaojnljppcnhjaaGreatDoor
open Go.RowKit Go.Sort
theorem step_ge {n v:Int} (h:0≤stepC n v):0≤n∧v≤n∧0≤v∧stepC n v=max n (v+1):=by
 unfold stepC at h ⊢
 split at h
 ·omega
 ·rename_i hc
  rw [if_neg hc]
  omega
theorem cntS_ge:∀(ys:List Int) (m:Int),0≤cntS m ys→0≤m∧m≤cntS m ys
 | [],m,h=>⟨h,Int.le_refl _⟩
 | y :: r,m,h=>by
  obtain ⟨h1,h2⟩:=cntS_ge r (stepC m y) h
  obtain ⟨g1,g2,g3,g4⟩:=step_ge h1
  refine ⟨g1,?_⟩
  show m≤cntS (stepC m y) r
  omega
theorem cntT_ge:∀(L:List Tm) (m:Int),0≤cntT m L→0≤m∧m≤cntT m L
 | [],m,h=>⟨h,Int.le_refl _⟩
 | t :: r,m,h=>by
  obtain ⟨h1,h2⟩:=cntT_ge r (cntS m (dedS t.occ)) h
  obtain ⟨g1,g2⟩:=cntS_ge _ _ h1
  refine ⟨g1,?_⟩
  show m≤cntT (cntS m (dedS t.occ)) r
  omega
theorem cntS_le:∀(ys:List Int) (m:Int),cntS m ys≤max m 0+(ys.length:Int)
 | [],m=>by show m≤_;simp;omega
 | y :: r,m=>by
  have h:=cntS_le r (stepC m y)
  have h2:stepC m y≤max m 0+1:=by
   unfold stepC
   split<;>omega
  show cntS (stepC m y) r≤_
  simp only [List.length_cons]
  omega
theorem cntT_le:∀(L:List Tm) (m:Int),cntT m L≤max m 0+((occL L).length:Int)
 | [],m=>by show m≤_;simp [occL];omega
 | t :: r,m=>by
  have h:=cntT_le r (cntS m (dedS t.occ))
  have h2:=cntS_le (dedS t.occ) m
  have h3:(dedS t.occ).length≤t.occ.length:=by
   have:=fold_length t.occ []
   simpa [dedS] using this
  show cntT (cntS m (dedS t.occ)) r≤_
  simp only [occL,List.length_append]
  omega
theorem cntT_strip:∀(L:List Tm) (m:Int),cntT m (stripL L)=cntT m L
 | [],_=>rfl
 | t :: r,m=>by
  show cntT (cntS m (dedS t.strip.occ)) (stripL r)=cntT (cntS m (dedS t.occ)) r
  rw [occ_strip2.1,cntT_strip]
theorem cntT_next {l:List Tm} {j:Nat} (hj:j < l.length) (n:Int):cntT n (l.take (j+1))=cntS (cntT n (l.take j)) (addAll [] (l.getD j default).occ):=by
 rw [ttake_next hj,cntT_append]
 rfl
theorem cntT_pre (l:List Tm) (j:Nat) (n:Int) (h:0≤cntT n l):0≤cntT n (l.take j)∧cntT n (l.take j)≤cntT n l:=by
 have e:=cntT_append n (l.take j) (l.drop j)
 rw [List.take_append_drop] at e
 rw [e] at h ⊢
 exact cntT_ge _ _ h
theorem cntS_next {xs:List Int} {k:Nat} (hk:k < xs.length) (m:Int):cntS m (xs.take (k+1))=stepC (cntS m (xs.take k)) (xs.getD k 0):=by
 rw [take_int hk,cntS,cntS,List.foldl_append]
 rfl
theorem cntS_pre (xs:List Int) (k:Nat) (m:Int) (h:0≤cntS m xs):0≤cntS m (xs.take k)∧cntS m (xs.take k)≤cntS m xs:=by
 have e:cntS m xs=cntS (cntS m (xs.take k)) (xs.drop k):=by
  conv=>lhs;rw [←List.take_append_drop k xs]
  rw [cntS,cntS,cntS,List.foldl_append]
 rw [e] at h ⊢
 exact cntS_ge _ _ h
set_option maxHeartbeats 8000000 in
set_option maxRecDepth 10000 in
theorem counted_at (l:List Tm) (A:Option Addr) (c:Nat) (w:World) (n:Int) (hl:Lst w A l c) (hz:sizeL l≤100000) (h0:0≤cntT n l) (h1:cntT n l≤1000000) :
  Calls Tryz.prog 40 #[.int .i64 n,.slice A l.length c] w fun e w'=>e=.returned (.int .i64 (cntT n l))∧Below w.heap.size w w':=by
 have hlen:l.length≤9223372036854775807:=by have:=hl.1;have:=hl.2.1;unfold maxLen at *;omega
 have HL:=Lib.hid hl
 have HS:=Lib.hid hz
 have HC:=Lib.hid (fun j=>cntT_pre l j n h0)
 have HM:=Lib.hid h1
 clear hl hz h0 h1
 go_enter Tryz.func40,Tryz.ntmps40
 go_wp2_with fail
 go_loopg [0,10] l.length (fun gk v i wr=>∃(j:Nat),j≤l.length∧i=.int .i64 (j:Int)∧v=.int .i64 (cntT n (l.take j))∧Hid (Below w.heap.size w wr∧l.length - j≤gk))
 case atStart=>exact ⟨0,Nat.zero_le _,rfl,rfl,Lib.hid ⟨Below.refl _ _,Nat.le_refl _⟩⟩
 case round =>
  obtain ⟨j,hj,rfl,rfl,hI⟩:=hrel
  obtain ⟨wo,hwo⟩:∃wo,wo=wr:=⟨_,rfl⟩
  subst hwo
  obtain ⟨ko,hko⟩:∃ko,ko=gk:=⟨_,rfl⟩
  subst hko
  have HO:=Lib.hid hI.out.1
  have HGk:=Lib.hid hI.out.2
  clear hI
  by_cases hlt:j < l.length
  ·obtain ⟨b,o,rfl,⟨c0,c1,c2,c3⟩,hx⟩:=(HL.out.below HO.out).get hlt
   have hn:=sizeL_next hlt
   have ht:=sizeL_take l (j+1)
   have HN:=Lib.hid (cntT_next hlt n)
   have hp:=HC.out (j+1)
   rw [HN.out] at hp
   have HP:=Lib.hid hp
   have HSz:=Lib.hid (show (l.getD j default).size≤100000 by have:=HS.out;omega)
   clear hn ht hp
   generalize l.getD j default=x at *
   generalize cntT n (l.take j)=m at *
   have QV:=Lib.hid (ref_vars_at x wo hx (by have:=HSz.out;omega))
   have HXo:=Lib.hid (show (addAll [] x.occ).length≤x.size from by
    have h1:=addAll_length [] x.occ
    have h2:=occ_length.1 x
    simp only [List.length_nil,Nat.zero_add] at h1
    omega)
   clear hx
   generalize addAll [] x.occ=xs at *
   have hxl:xs.length≤9223372036854775807:=by have:=HXo.out;have:=HSz.out;omega
   obtain ⟨k',n',s',A',c',a'⟩:=x
   simp only [Tm.kind,Tm.num,Tm.name,Tm.at_,Tm.args,Tm.cap] at c0 c1 c2 c3
   have QV2:Hid (Calls Tryz.prog 62 #[.agg #[.int .i64 k',.int .i64 n',.string s',.slice A' a'.length c']] wo (Grows wo xs)):=QV
   clear QV
   go_wp2_with (go_at_call 62;(with_reducible refine QV2.out.mono ?_);rintro e w2 ⟨av,rfl,how,hb2⟩;obtain ⟨aA,ac,rfl,hint,_⟩:=how.form;have HIn:=Lib.hid hint;have HB2:=Lib.hid hb2;clear how hb2 hint)
   have HB3:=Lib.hid (HO.out.trans (HB2.out.mono HO.out.size))
   go_loopg [0,19] xs.length (fun gk2 v i wr=>∃(k:Nat),k≤xs.length∧i=.int .i64 (k:Int)∧v=.int .i64 (cntS m (xs.take k))∧Hid (Below w2.heap.size w2 wr∧xs.length - k≤gk2))
   case atStart=>exact ⟨0,Nat.zero_le _,rfl,rfl,Lib.hid ⟨Below.refl _ _,Nat.le_refl _⟩⟩
   case round =>
    obtain ⟨k,hk,rfl,rfl,hI2⟩:=hrel
    have HI2:=Lib.hid hI2.out.1
    have HGk2:=Lib.hid hI2.out.2
    clear hI2
    by_cases hkt:k < xs.length
    ·obtain ⟨b2,o2,rfl,hc⟩:=(HIn.out.below HI2.out).get hkt
     have hq:=HP.out
     have h4:=cntS_pre xs (k+1) m (by omega)
     have HT:=Lib.hid (cntS_next hkt m)
     rw [HT.out] at h4
     generalize xs.getD k 0=y at *
     generalize cntS m (xs.take k)=q at *
     obtain ⟨g1,g2,g3,g4⟩:=step_ge h4.1
     have hy8:y≤1000000:=by have:=HM.out;omega
     have hq8:q≤1000000:=by have:=HM.out;omega
     have HE:=Lib.hid g4
     clear hq h4 g4
     have t1:¬q < 0:=by omega
     have t2:¬q < y:=by omega
     have t3:¬y < 0:=by omega
     have hw:wrap64 (y+1)=y+1:=IntWalk.wrap64_in (y+1) (by omega)
     go_wp2_with fail
     all_goals
      go_roundg (gk - 1)
      case measure=>have:=HGk2.out;omega
      case rel=>exact ⟨k+1,by omega,by go_num,by rw [HT.out,HE.out]<;>first|rfl|(congr 1;omega),Lib.hid ⟨HI2.out,by have:=HGk2.out;omega⟩⟩
    ·obtain rfl:k=xs.length:=by omega
     have HE:=Lib.hid (show cntS m (xs.take xs.length)=cntT n (l.take (j+1)) by rw [List.take_length,HN.out])
     rw [HE.out]
     go_wp2_with fail
     go_roundg (ko - 1)
     case measure=>have:=HGk.out;omega
     case rel=>exact ⟨j+1,by omega,by go_num,rfl,Lib.hid ⟨HB3.out.trans (HI2.out.mono HB3.out.size),by have:=HGk.out;omega⟩⟩
  ·obtain rfl:j=l.length:=by omega
   have HE:=Lib.hid (show cntT n (l.take l.length)=cntT n l by rw [List.take_length])
   rw [HE.out]
   go_wp2_with fail
   go_ret
   exact ⟨rfl,HO.out⟩
theorem ams_cnt {ks:List Am} {j:Nat} (hj:j < ks.length) (n:Int):cntT n ((ks.take (j+1)).flatMap Am.args)=cntT (cntT n ((ks.take j).flatMap Am.args)) (ks.getD j default).args:=by
 have e:ks.take (j+1)=ks.take j++[ks.getD j default]:=by
  rw [List.take_add_one]
  simp [List.getD,hj]
 rw [e,List.flatMap_append,cntT_append]
 simp
theorem gls_cnt {ks:List Gl} {j:Nat} (hj:j < ks.length) (n:Int):cntT n ((ks.take (j+1)).flatMap Gl.args)=cntT (cntT n ((ks.take j).flatMap Gl.args)) (ks.getD j default).args:=by
 have e:ks.take (j+1)=ks.take j++[ks.getD j default]:=by
  rw [List.take_add_one]
  simp [List.getD,hj]
 rw [e,List.flatMap_append,cntT_append]
 simp
theorem ams_pre (ks:List Am) (j:Nat) (n:Int) (h:0≤cntT n (ks.flatMap Am.args)):0≤cntT n ((ks.take j).flatMap Am.args)∧cntT n ((ks.take j).flatMap Am.args)≤cntT n (ks.flatMap Am.args):=by
 have e:=cntT_append n ((ks.take j).flatMap Am.args) ((ks.drop j).flatMap Am.args)
 rw [←List.flatMap_append,List.take_append_drop] at e
 rw [e] at h ⊢
 exact cntT_ge _ _ h
theorem gls_pre (ks:List Gl) (j:Nat) (n:Int) (h:0≤cntT n (ks.flatMap Gl.args)):0≤cntT n ((ks.take j).flatMap Gl.args)∧cntT n ((ks.take j).flatMap Gl.args)≤cntT n (ks.flatMap Gl.args):=by
 have e:=cntT_append n ((ks.take j).flatMap Gl.args) ((ks.drop j).flatMap Gl.args)
 rw [←List.flatMap_append,List.take_append_drop] at e
 rw [e] at h ⊢
 exact cntT_ge _ _ h
theorem ams_right {ks:List Am} (h:AllA (ks.map sA)):∀u∈ks,atomB u.name.data.toList u.args=true∧sizeL u.args≤200:=fun u hu=>by
 have h1:=h _ (List.mem_map_of_mem hu)
 have h2:=rightA_size h1
 exact ⟨by rw [atomB_strip];exact h1,by rw [←size_strip.2];exact h2⟩
theorem gls_right {ks:List Gl} (h:AllG (ks.map sG)):∀u∈ks,goalB u.op u.name u.args=true∧sizeL u.args≤200:=fun u hu=>by
 have h1:=h _ (List.mem_map_of_mem hu)
 have h2:=rightG_size h1
 exact ⟨by rw [goalB_strip];exact h1,by rw [←size_strip.2];exact h2⟩
theorem occ_size3 {ks:List Tm}:(occL ks).length≤sizeL ks:=occ_size2.2 ks
theorem rule_cnt {u:Ru} (h:RuleOk u.p):∃n1 n2 n3:Int,cntT 0 (u.ks.flatMap Am.args)=n1∧cntT n1 (u.rs.flatMap Am.args)=n2∧cntT n2 (u.gs.flatMap Gl.args)=n3∧cntT n3 (u.bs.flatMap Gl.args)=(u.n:Int)∧0≤n1∧0≤n2∧0≤n3∧n1≤n2∧n2≤n3∧n3≤(u.n:Int)∧u.n≤100000:=by
 have hc:=h.count
 have e:cntT 0 u.p.terms=cntT (cntT (cntT (cntT 0 (u.ks.flatMap Am.args)) (u.rs.flatMap Am.args)) (u.gs.flatMap Gl.args)) (u.bs.flatMap Gl.args):=by
  unfold Rs.terms Ru.p ruP
  simp only [flat_sA,flat_sG]
  rw [cntT_append,cntT_append,cntT_append,cntT_strip,cntT_strip,cntT_strip,cntT_strip]
 rw [e] at hc
 have hn:cntT (cntT (cntT (cntT 0 (u.ks.flatMap Am.args)) (u.rs.flatMap Am.args)) (u.gs.flatMap Gl.args)) (u.bs.flatMap Gl.args)=(u.n:Int):=hc
 have h3:=cntT_ge _ _ (show 0≤cntT (cntT (cntT (cntT 0 (u.ks.flatMap Am.args)) (u.rs.flatMap Am.args)) (u.gs.flatMap Gl.args)) (u.bs.flatMap Gl.args) by omega)
 have h2:=cntT_ge _ _ h3.1
 have h1:=cntT_ge _ _ h2.1
 refine ⟨_,_,_,rfl,rfl,rfl,hn,h1.1,h2.1,h3.1,h1.2,h2.2,by omega,?_⟩
 have b1:=sizeA_le u.p.keep h.keepR
 have b2:=sizeA_le u.p.remove h.removeR
 have b3:=sizeG_le u.p.guard h.guardR
 have b4:=sizeG_le u.p.body h.bodyR
 have c1:=h.heads
 have c3:=h.guards
 have c4:=h.bodies
 have o1:=occ_size3 (ks:=u.p.keep.flatMap (·.2))
 have o2:=occ_size3 (ks:=u.p.remove.flatMap (·.2))
 have o3:=occ_size3 (ks:=u.p.guard.flatMap (·.2.2))
 have o4:=occ_size3 (ks:=u.p.body.flatMap (·.2.2))
 have hv:=h.count
 have ht:=cntT_le u.p.terms 0
 have hl:(occL u.p.terms).length=(occL (u.p.keep.flatMap (·.2))).length+((occL (u.p.remove.flatMap (·.2))).length+((occL (u.p.guard.flatMap (·.2.2))).length+(occL (u.p.body.flatMap (·.2.2))).length)):=by
  unfold Rs.terms
  rw [occL_app,occL_app,occL_app,List.length_append,List.length_append,List.length_append]
 have hu:u.p.vars=u.n:=rfl
 rw [hl,hv,hu] at ht
 omega
end Go.Proofs.YtaojnljppcnhjaaGreatDoor
namespace Go.Proofs.YtaojnljppcnhjaaGreatDoor
open Go.RowKit Go.Sort
set_option maxHeartbeats 16000000 in
set_option maxRecDepth 100000 in
theorem valid_at (u:Ru) (w:World) (hok:RuleOk u.p) (hu:RuB w u) :
  Calls Tryz.prog 20 #[.agg u.cells.toArray] w fun e w'=>e=.returned (.bool true)∧Below w.heap.size w w':=by
 obtain ⟨n1,n2,n3,e0,e1,e2,e3,z1,z2,z3,y1,y2,y3,y4⟩:=rule_cnt hok
 obtain ⟨t,ks,rs,gs,bs,kA,kc,rA,rc,gA,gc,bA,bc,n⟩:=u
 have h1:=hok.heads
 have h0:=hok.some
 have h2:=hok.guards
 have h3:=hok.bodies
 simp only [Ru.p,ruP,List.length_map] at h0 h1 h2 h3
 simp only at e0 e1 e2 e3 y1 y2 y3 y4
 have HE0:=Lib.hid e0
 have HE1:=Lib.hid e1
 have HE2:=Lib.hid e2
 have HE3:=Lib.hid e3
 have HCks:=Lib.hid (fun j=>ams_pre ks j 0 (by rw [e0];exact z1))
 have HCrs:=Lib.hid (fun j=>ams_pre rs j n1 (by rw [e1];exact z2))
 have HCgs:=Lib.hid (fun j=>gls_pre gs j n2 (by rw [e2];exact z3))
 have HCbs:=Lib.hid (fun j=>gls_pre bs j n3 (by rw [e3];omega))
 rw [e0] at HCks
 rw [e1] at HCrs
 rw [e2] at HCgs
 rw [e3] at HCbs
 have HN8:=Lib.hid (show n1≤100000∧n2≤100000∧n3≤100000∧(n:Int)≤100000 by omega)
 have HAks:=Lib.hid (ams_right hok.keepR)
 have HArs:=Lib.hid (ams_right hok.removeR)
 have HAgs:=Lib.hid (gls_right hok.guardR)
 have HAbs:=Lib.hid (gls_right hok.bodyR)
 simp only at HAks HArs HAgs HAbs
 have Hks:=Lib.hid hu.k
 have Hrs:=Lib.hid hu.r
 have Hgs:=Lib.hid hu.g
 have Hbs:=Lib.hid hu.b
 simp only at Hks Hrs Hgs Hbs
 clear hok hu e0 e1 e2 e3 z1 z2 z3 y1 y2 y3 y4
 show Calls Tryz.prog 20 #[.agg #[.string (S t),.slice kA ks.length kc,.slice rA rs.length rc,.slice gA gs.length gc,.slice bA bs.length bc,.int .i64 (n:Int)]] w _
 have HX0:=Lib.hid (BoxL.new w [.string (S t),.slice kA ks.length kc,.slice rA rs.length rc,.slice gA gs.length gc,.slice bA bs.length bc,.int .i64 (n:Int)] 35)
 have HB0:=Lib.hid ((Below.refl w.heap.size w).alloc (Nat.le_refl _) (.cells #[.string (S t),.slice kA ks.length kc,.slice rA rs.length rc,.slice gA gs.length gc,.slice bA bs.length bc,.int .i64 (n:Int)] 35))
 have k1:ks.length≤4:=by omega
 have k2:rs.length≤4 - ks.length:=by omega
 have k3:0 < ks.length+rs.length:=by omega
 have k4:rs.length≤4:=by omega
 obtain ⟨wb0,hw0⟩:∃w0,w.alloc (.cells #[.string (S t),.slice kA ks.length kc,.slice rA rs.length rc,.slice gA gs.length gc,.slice bA bs.length bc,.int .i64 (n:Int)] 35)=w0:=⟨_,rfl⟩
 have HX0:=Lib.hid (show BoxL wb0 w.heap.size _ by rw [←hw0];exact HX0.out)
 have HB0:=Lib.hid (show RowKit.Below w.heap.size w wb0 by rw [←hw0];exact HB0.out)
 go_enter Tryz.func20,Tryz.ntmps20
 obtain ⟨c0,c1,c2,c3,c4,c5,_,_,_,_,_,_⟩:=HX0.out.get6
 go_wp2_with fail
 go_loopg [3,47] ks.length (fun gk v i wr=>∃(j:Nat),j≤ks.length∧i=.int .i64 (j:Int)∧v=.int .i64 (cntT 0 ((ks.take j).flatMap Am.args))∧Hid (Below wb0.heap.size wb0 wr∧ks.length - j≤gk))
 case atStart=>exact ⟨0,Nat.zero_le _,rfl,by first|rfl|simp [cntT],Lib.hid ⟨Below.refl _ _,Nat.le_refl _⟩⟩
 case round =>
  obtain ⟨j,hj,rfl,rfl,hI⟩:=hrel
  obtain ⟨wo,hwo⟩:∃wo,wo=wr:=⟨_,rfl⟩
  subst hwo
  obtain ⟨ko,hko⟩:∃ko,ko=gk:=⟨_,rfl⟩
  subst hko
  have HO:=Lib.hid hI.out.1
  have HGk:=Lib.hid hI.out.2
  clear hI c0 c1 c2 c3 c4 c5
  have HX1:=Lib.hid (HX0.out.below HO.out)
  obtain ⟨c0,c1,c2,c3,c4,c5,_,_,_,_,_,_⟩:=HX1.out.get6
  have HBo:=Lib.hid (HB0.out.trans (HO.out.mono HB0.out.size))
  by_cases hlt:j < ks.length
  ·obtain ⟨g,hBA,hx,hc⟩:=(Hks.out.below HBo.out).get hlt
   have HRt:=Lib.hid (HAks.out _ (getD_in hlt))
   have HNx:=Lib.hid (ams_cnt hlt 0)
   have hp:=HCks.out (j+1)
   rw [HNx.out] at hp
   have HP:=Lib.hid hp
   have k0:wo.cell? ⟨g,j*2,none⟩=_:=hc 0 _ rfl
   have k1:wo.cell? ⟨g,j*2+1,none⟩=_:=hc 1 _ rfl
   subst hBA
   generalize cntT 0 ((ks.take j).flatMap Am.args)=m at *
   generalize ks.getD j default=x at *
   have hlx:Lst wo x.at_ x.args x.cap:=hx.1.2
   have Q1:=Lib.hid (ref_right_atom_at x wo hx.1 (by have:=HRt.out.2;omega) HRt.out.1)
   have Q2:=Lib.hid (fun W (h:Below wo.heap.size wo W)=>counted_at x.args x.at_ x.cap W m (hlx.below h) (by have:=HRt.out.2;omega) HP.out.1 (by have:=HP.out.2;have:=HN8.out;omega))
   clear hp hc hx hlx
   obtain ⟨xn,xA,xc,xa⟩:=x
   simp only at k0 k1 Q2 HNx
   have Q1b:Hid (Calls Tryz.prog 39 #[.agg #[.string xn,.slice xA xa.length xc]] wo fun e w'=>e=.returned (.bool true)∧Below wo.heap.size wo w'):=Q1
   clear Q1
   go_wp2_with (first|(go_at_call 40;(with_reducible refine (Q2.out _ HBa.out).mono ?_);rintro e w6 ⟨rfl,hb6⟩;have HBc:=Lib.hid (HBa.out.trans (hb6.mono HBa.out.size));obtain ⟨c20,c21,c22,c23,c24,c25,_,_,_,_,_,_⟩:=(HXa.out.below hb6).get6;clear hb6)|(go_at_call 39;(with_reducible refine Q1b.out.mono ?_);rintro e w5 ⟨rfl,hb5⟩;have HBa:=Lib.hid hb5;have HXa:=Lib.hid (HX1.out.below hb5);obtain ⟨c10,c11,c12,c13,c14,c15,_,_,_,_,_,_⟩:=HXa.out.get6;have m0:=(hb5.cell (World.block_lt_of_cell? _ _ k0)).trans k0;have m1:=(hb5.cell (World.block_lt_of_cell? _ _ k1)).trans k1;clear hb5)|fail)
   have HNy:=Lib.hid (HO.out.trans (HBc.out.mono HO.out.size))
   go_roundg (ko - 1)
   case measure=>have:=HGk.out;omega
   case rel=>exact ⟨j+1,by omega,by go_num,by rw [HNx.out],Lib.hid ⟨HNy.out,by have:=HGk.out;omega⟩⟩
  ·obtain rfl:j=ks.length:=by omega
   have HE:=Lib.hid (show cntT 0 ((ks.take ks.length).flatMap Am.args)=n1 by rw [List.take_length];exact HE0.out)
   rw [HE.out]
   obtain ⟨wb1,hwb⟩:∃wb,wb=wo:=⟨_,rfl⟩
   subst hwb
   have HB1:=Lib.hid HBo.out
   clear HO HGk HBo HE hlt hj
   go_wp2_with fail
   go_loopg [3,69] rs.length (fun gk v i wr=>∃(j:Nat),j≤rs.length∧i=.int .i64 (j:Int)∧v=.int .i64 (cntT n1 ((rs.take j).flatMap Am.args))∧Hid (Below wb1.heap.size wb1 wr∧rs.length - j≤gk))
   case atStart=>exact ⟨0,Nat.zero_le _,rfl,by first|rfl|simp [cntT],Lib.hid ⟨Below.refl _ _,Nat.le_refl _⟩⟩
   case round =>
    obtain ⟨j,hj,rfl,rfl,hI⟩:=hrel
    obtain ⟨wo,hwo⟩:∃wo,wo=wr:=⟨_,rfl⟩
    subst hwo
    obtain ⟨ko,hko⟩:∃ko,ko=gk:=⟨_,rfl⟩
    subst hko
    have HO:=Lib.hid hI.out.1
    have HGk:=Lib.hid hI.out.2
    clear hI c0 c1 c2 c3 c4 c5
    have HX2:=Lib.hid (HX1.out.below HO.out)
    obtain ⟨c0,c1,c2,c3,c4,c5,_,_,_,_,_,_⟩:=HX2.out.get6
    have HBo:=Lib.hid (HB1.out.trans (HO.out.mono HB1.out.size))
    by_cases hlt:j < rs.length
    ·obtain ⟨g,hBA,hx,hc⟩:=(Hrs.out.below HBo.out).get hlt
     have HRt:=Lib.hid (HArs.out _ (getD_in hlt))
     have HNx:=Lib.hid (ams_cnt hlt n1)
     have hp:=HCrs.out (j+1)
     rw [HNx.out] at hp
     have HP:=Lib.hid hp
     have k0:wo.cell? ⟨g,j*2,none⟩=_:=hc 0 _ rfl
     have k1:wo.cell? ⟨g,j*2+1,none⟩=_:=hc 1 _ rfl
     subst hBA
     generalize cntT n1 ((rs.take j).flatMap Am.args)=m at *
     generalize rs.getD j default=x at *
     have hlx:Lst wo x.at_ x.args x.cap:=hx.1.2
     have Q1:=Lib.hid (ref_right_atom_at x wo hx.1 (by have:=HRt.out.2;omega) HRt.out.1)
     have Q2:=Lib.hid (fun W (h:Below wo.heap.size wo W)=>counted_at x.args x.at_ x.cap W m (hlx.below h) (by have:=HRt.out.2;omega) HP.out.1 (by have:=HP.out.2;have:=HN8.out;omega))
     clear hp hc hx hlx
     obtain ⟨xn,xA,xc,xa⟩:=x
     simp only at k0 k1 Q2 HNx
     have Q1b:Hid (Calls Tryz.prog 39 #[.agg #[.string xn,.slice xA xa.length xc]] wo fun e w'=>e=.returned (.bool true)∧Below wo.heap.size wo w'):=Q1
     clear Q1
     go_wp2_with (first|(go_at_call 40;(with_reducible refine (Q2.out _ HBa.out).mono ?_);rintro e w6 ⟨rfl,hb6⟩;have HBc:=Lib.hid (HBa.out.trans (hb6.mono HBa.out.size));obtain ⟨c20,c21,c22,c23,c24,c25,_,_,_,_,_,_⟩:=(HXa.out.below hb6).get6;clear hb6)|(go_at_call 39;(with_reducible refine Q1b.out.mono ?_);rintro e w5 ⟨rfl,hb5⟩;have HBa:=Lib.hid hb5;have HXa:=Lib.hid (HX2.out.below hb5);obtain ⟨c10,c11,c12,c13,c14,c15,_,_,_,_,_,_⟩:=HXa.out.get6;have m0:=(hb5.cell (World.block_lt_of_cell? _ _ k0)).trans k0;have m1:=(hb5.cell (World.block_lt_of_cell? _ _ k1)).trans k1;clear hb5)|fail)
     have HNy:=Lib.hid (HO.out.trans (HBc.out.mono HO.out.size))
     go_roundg (ko - 1)
     case measure=>have:=HGk.out;omega
     case rel=>exact ⟨j+1,by omega,by go_num,by rw [HNx.out],Lib.hid ⟨HNy.out,by have:=HGk.out;omega⟩⟩
    ·obtain rfl:j=rs.length:=by omega
     have HE:=Lib.hid (show cntT n1 ((rs.take rs.length).flatMap Am.args)=n2 by rw [List.take_length];exact HE1.out)
     rw [HE.out]
     obtain ⟨wb2,hwb⟩:∃wb,wb=wo:=⟨_,rfl⟩
     subst hwb
     have HB2:=Lib.hid HBo.out
     clear HO HGk HBo HE hlt hj
     go_wp2_with fail
     go_loopg [3,91] gs.length (fun gk v i wr=>∃(j:Nat),j≤gs.length∧i=.int .i64 (j:Int)∧v=.int .i64 (cntT n2 ((gs.take j).flatMap Gl.args))∧Hid (Below wb2.heap.size wb2 wr∧gs.length - j≤gk))
     case atStart=>exact ⟨0,Nat.zero_le _,rfl,by first|rfl|simp [cntT],Lib.hid ⟨Below.refl _ _,Nat.le_refl _⟩⟩
     case round =>
      obtain ⟨j,hj,rfl,rfl,hI⟩:=hrel
      obtain ⟨wo,hwo⟩:∃wo,wo=wr:=⟨_,rfl⟩
      subst hwo
      obtain ⟨ko,hko⟩:∃ko,ko=gk:=⟨_,rfl⟩
      subst hko
      have HO:=Lib.hid hI.out.1
      have HGk:=Lib.hid hI.out.2
      clear hI c0 c1 c2 c3 c4 c5
      have HX3:=Lib.hid (HX2.out.below HO.out)
      obtain ⟨c0,c1,c2,c3,c4,c5,_,_,_,_,_,_⟩:=HX3.out.get6
      have HBo:=Lib.hid (HB2.out.trans (HO.out.mono HB2.out.size))
      by_cases hlt:j < gs.length
      ·obtain ⟨g,hBA,hx,hc⟩:=(Hgs.out.below HBo.out).get hlt
       have HRt:=Lib.hid (HAgs.out _ (getD_in hlt))
       have HNx:=Lib.hid (gls_cnt hlt n2)
       have hp:=HCgs.out (j+1)
       rw [HNx.out] at hp
       have HP:=Lib.hid hp
       have k0:wo.cell? ⟨g,j*3,none⟩=_:=hc 0 _ rfl
       have k1:wo.cell? ⟨g,j*3+1,none⟩=_:=hc 1 _ rfl
       have k2:wo.cell? ⟨g,j*3+2,none⟩=_:=hc 2 _ rfl
       subst hBA
       generalize cntT n2 ((gs.take j).flatMap Gl.args)=m at *
       generalize gs.getD j default=x at *
       have hlx:Lst wo x.at_ x.args x.cap:=hx.2.2
       have Q1:=Lib.hid (ref_right_goal_at x wo hx (by have:=HRt.out.2;omega) HRt.out.1)
       have Q2:=Lib.hid (fun W (h:Below wo.heap.size wo W)=>counted_at x.args x.at_ x.cap W m (hlx.below h) (by have:=HRt.out.2;omega) HP.out.1 (by have:=HP.out.2;have:=HN8.out;omega))
       clear hp hc hx hlx
       obtain ⟨xo,xn,xA,xc,xa⟩:=x
       simp only at k0 k1 k2 Q2 HNx
       have Q1b:Hid (Calls Tryz.prog 41 #[.agg #[.int .i64 xo,.string xn,.slice xA xa.length xc]] wo fun e w'=>e=.returned (.bool true)∧Below wo.heap.size wo w'):=Q1
       clear Q1
       go_wp2_with (first|(go_at_call 40;(with_reducible refine (Q2.out _ HBa.out).mono ?_);rintro e w6 ⟨rfl,hb6⟩;have HBc:=Lib.hid (HBa.out.trans (hb6.mono HBa.out.size));obtain ⟨c20,c21,c22,c23,c24,c25,_,_,_,_,_,_⟩:=(HXa.out.below hb6).get6;clear hb6)|(go_at_call 41;(with_reducible refine Q1b.out.mono ?_);rintro e w5 ⟨rfl,hb5⟩;have HBa:=Lib.hid hb5;have HXa:=Lib.hid (HX3.out.below hb5);obtain ⟨c10,c11,c12,c13,c14,c15,_,_,_,_,_,_⟩:=HXa.out.get6;have m0:=(hb5.cell (World.block_lt_of_cell? _ _ k0)).trans k0;have m1:=(hb5.cell (World.block_lt_of_cell? _ _ k1)).trans k1;have m2:=(hb5.cell (World.block_lt_of_cell? _ _ k2)).trans k2;clear hb5)|fail)
       have HNy:=Lib.hid (HO.out.trans (HBc.out.mono HO.out.size))
       go_roundg (ko - 1)
       case measure=>have:=HGk.out;omega
       case rel=>exact ⟨j+1,by omega,by go_num,by rw [HNx.out],Lib.hid ⟨HNy.out,by have:=HGk.out;omega⟩⟩
      ·obtain rfl:j=gs.length:=by omega
       have HE:=Lib.hid (show cntT n2 ((gs.take gs.length).flatMap Gl.args)=n3 by rw [List.take_length];exact HE2.out)
       rw [HE.out]
       obtain ⟨wb3,hwb⟩:∃wb,wb=wo:=⟨_,rfl⟩
       subst hwb
       have HB3:=Lib.hid HBo.out
       clear HO HGk HBo HE hlt hj
       go_wp2_with fail
       go_loopg [3,113] bs.length (fun gk v i wr=>∃(j:Nat),j≤bs.length∧i=.int .i64 (j:Int)∧v=.int .i64 (cntT n3 ((bs.take j).flatMap Gl.args))∧Hid (Below wb3.heap.size wb3 wr∧bs.length - j≤gk))
       case atStart=>exact ⟨0,Nat.zero_le _,rfl,by first|rfl|simp [cntT],Lib.hid ⟨Below.refl _ _,Nat.le_refl _⟩⟩
       case round =>
        obtain ⟨j,hj,rfl,rfl,hI⟩:=hrel
        obtain ⟨wo,hwo⟩:∃wo,wo=wr:=⟨_,rfl⟩
        subst hwo
        obtain ⟨ko,hko⟩:∃ko,ko=gk:=⟨_,rfl⟩
        subst hko
        have HO:=Lib.hid hI.out.1
        have HGk:=Lib.hid hI.out.2
        clear hI c0 c1 c2 c3 c4 c5
        have HX4:=Lib.hid (HX3.out.below HO.out)
        obtain ⟨c0,c1,c2,c3,c4,c5,_,_,_,_,_,_⟩:=HX4.out.get6
        have HBo:=Lib.hid (HB3.out.trans (HO.out.mono HB3.out.size))
        by_cases hlt:j < bs.length
        ·obtain ⟨g,hBA,hx,hc⟩:=(Hbs.out.below HBo.out).get hlt
         have HRt:=Lib.hid (HAbs.out _ (getD_in hlt))
         have HNx:=Lib.hid (gls_cnt hlt n3)
         have hp:=HCbs.out (j+1)
         rw [HNx.out] at hp
         have HP:=Lib.hid hp
         have k0:wo.cell? ⟨g,j*3,none⟩=_:=hc 0 _ rfl
         have k1:wo.cell? ⟨g,j*3+1,none⟩=_:=hc 1 _ rfl
         have k2:wo.cell? ⟨g,j*3+2,none⟩=_:=hc 2 _ rfl
         subst hBA
         generalize cntT n3 ((bs.take j).flatMap Gl.args)=m at *
         generalize bs.getD j default=x at *
         have hlx:Lst wo x.at_ x.args x.cap:=hx.2.2
         have Q1:=Lib.hid (ref_right_goal_at x wo hx (by have:=HRt.out.2;omega) HRt.out.1)
         have Q2:=Lib.hid (fun W (h:Below wo.heap.size wo W)=>counted_at x.args x.at_ x.cap W m (hlx.below h) (by have:=HRt.out.2;omega) HP.out.1 (by have:=HP.out.2;have:=HN8.out;omega))
         clear hp hc hx hlx
         obtain ⟨xo,xn,xA,xc,xa⟩:=x
         simp only at k0 k1 k2 Q2 HNx
         have Q1b:Hid (Calls Tryz.prog 41 #[.agg #[.int .i64 xo,.string xn,.slice xA xa.length xc]] wo fun e w'=>e=.returned (.bool true)∧Below wo.heap.size wo w'):=Q1
         clear Q1
         go_wp2_with (first|(go_at_call 40;(with_reducible refine (Q2.out _ HBa.out).mono ?_);rintro e w6 ⟨rfl,hb6⟩;have HBc:=Lib.hid (HBa.out.trans (hb6.mono HBa.out.size));obtain ⟨c20,c21,c22,c23,c24,c25,_,_,_,_,_,_⟩:=(HXa.out.below hb6).get6;clear hb6)|(go_at_call 41;(with_reducible refine Q1b.out.mono ?_);rintro e w5 ⟨rfl,hb5⟩;have HBa:=Lib.hid hb5;have HXa:=Lib.hid (HX4.out.below hb5);obtain ⟨c10,c11,c12,c13,c14,c15,_,_,_,_,_,_⟩:=HXa.out.get6;have m0:=(hb5.cell (World.block_lt_of_cell? _ _ k0)).trans k0;have m1:=(hb5.cell (World.block_lt_of_cell? _ _ k1)).trans k1;have m2:=(hb5.cell (World.block_lt_of_cell? _ _ k2)).trans k2;clear hb5)|fail)
         have HNy:=Lib.hid (HO.out.trans (HBc.out.mono HO.out.size))
         go_roundg (ko - 1)
         case measure=>have:=HGk.out;omega
         case rel=>exact ⟨j+1,by omega,by go_num,by rw [HNx.out],Lib.hid ⟨HNy.out,by have:=HGk.out;omega⟩⟩
        ·obtain rfl:j=bs.length:=by omega
         have HE:=Lib.hid (show cntT n3 ((bs.take bs.length).flatMap Gl.args)=(n:Int) by rw [List.take_length];exact HE3.out)
         rw [HE.out]
         go_wp2_with fail
         go_ret
         exact ⟨rfl,HBo.out⟩
end Go.Proofs.YtaojnljppcnhjaaGreatDoor
