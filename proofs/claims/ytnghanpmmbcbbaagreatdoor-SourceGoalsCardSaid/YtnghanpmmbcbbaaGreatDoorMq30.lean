/-
  SnJoin.
  SnText.
  SnRuleOk.
-/
import Derived.Test.YtnghanpmmbcbbaaGreatDoorMq29
import Derived.Test.YtnghanpmmbcbbaaGreatDoorMq20
import Derived.Test.YtnghanpmmbcbbaaGreatDoorMq21
import Derived.Test.YtnghanpmmbcbbaaGreatDoorMq4
namespace Go.Proofs.YtnghanpmmbcbbaaGreatDoor
open Go.RowKit
theorem joinS_join (l:List (List UInt8)):Lib.join l [44,32]=joinS 0 l []:=by
 rcases l with _|⟨x,r⟩
 ·rfl
 ·rw [join_txt,joinS_tjoin];rfl
def STexts (w:World) (ts:List (List UInt8)) (z:Value) (wr:World):Prop:=wr.ownsRow w.heap.size 9 1 z ts.length (scells ts)∧Below w.heap.size w wr
theorem join_end {w wr:World} {ts:List (List UInt8)} {z:Value} {n:Nat} (h:STexts w ts z wr) (he:ts.length=n) (hn:n≤1000) (hlen:(joinS 0 ts []).length≤140737488355328) :
  ∃A cap,z=.slice A n cap∧Calls Tryz.prog 87 #[.slice A n cap,.string ⟨#[44,32]⟩] wr fun e w'=>e=.returned (.string (S (joinS 0 ts [])))∧Below wr.heap.size wr w':=by
 subst he
 rcases h.1.2 with ⟨rfl,h0⟩|⟨g,cap,cur,rfl,hb,hg,hle,hcap,_⟩
 ·obtain rfl:ts=[]:=List.length_eq_zero_iff.1 h0
  refine ⟨none,0,rfl,(Any.strings_Join_none Tryz.lays156 Tryz.Builder_Extra_156 none 0 ⟨#[44,32]⟩ wr).mono ?_⟩
  rintro e w' ⟨rfl,rfl⟩
  exact ⟨rfl,Below.refl _ _⟩
 ·have hcl:(ts.map S).length=ts.length:=List.length_map ..
  have hcells:∀(j:Nat) x,(ts.map S)[j]?=some x→wr.cell? ⟨g,0+j,none⟩=some (.string x):=fun j x hx=>by
   have hj:j < ts.length:=by
    have:=(List.getElem?_eq_some_iff.1 hx).1
    omega
   have:=World.ownsRow.cellAt h.1 j (by rw [Nat.mul_one];exact hj)
   rw [Nat.zero_add,this]
   simp only [scells,List.getElem?_map] at hx ⊢
   obtain ⟨y,hy,rfl⟩:=Option.map_eq_some_iff.1 hx
   rw [hy];rfl
  have hmap:(ts.map S).map (fun x=>x.data.toList)=ts:=by
   rw [List.map_map]
   conv=>rhs;rw [←List.map_id ts]
   rfl
  have hlt2:g < wr.heap.size:=(own_lt' h.1 g rfl).2
  have QJ:=Tryz.strings_Join g 0 cap (ts.map S) ⟨#[44,32]⟩ wr hcells hlt2 (by rw [hcl];omega) (by rw [hcl];exact hle) (by
   show (Lib.join ((ts.map S).map (fun x=>x.data.toList)) [44,32]).length≤_
   rw [hmap,joinS_join];exact hlen)
  have hre:(Lib.join ((ts.map S).map (fun x=>x.data.toList)) (⟨#[44,32]⟩:ByteArray).data.toList)=joinS 0 ts []:=by rw [hmap];exact joinS_join ts
  rw [hre,hcl] at QJ
  exact ⟨_,_,rfl,QJ⟩
theorem text_decl_at (x:Dc) (w:World) (h:x.At w) (hok:x.ok=true) (hs:x.name.size≤1000000) (hL:Laid w) :
  Calls Tryz.prog 52 #[x.val] w fun e w'=>e=.returned (.string (S x.tx))∧Below w.heap.size w w':=by
 obtain ⟨s,n⟩:=x
 simp only [Dc.ok,Bool.and_eq_true,decide_eq_true_eq] at hok
 obtain ⟨_,hn0,hn6⟩:=hok
 have HV:=Lib.hid (show (Dc.mk s n).tx=s.data.toList++[47]++Lib.itoa n from rfl)
 generalize (Dc.mk s n).tx=t at *
 obtain ⟨X,hX⟩:∃X,w.alloc (.cells #[.string s,.int .i64 n] 38)=X:=⟨_,rfl⟩
 have HXb:=Lib.hid (show Below w.heap.size w X from by rw [←hX];exact below1 _ _)
 have HC:=Lib.hid (fun W (h:Ext X W)=>show W.cell? ⟨w.heap.size,0,none⟩=some (.string s)∧W.cell? ⟨w.heap.size,1,none⟩=some (.int .i64 n) from by
  rw [←hX] at h
  exact held2_p h)
 have Q:=Lib.hid (fun W (h:Below w.heap.size w W)=>itoa_any n W (by omega) (by omega) (hL.below h))
 have hil:=itoa_len (n:=n) (by omega) (by omega)
 simp only at hs
 obtain ⟨it,hit⟩:∃it,Lib.itoa n=it:=⟨_,rfl⟩
 rw [hit] at HV hil Q
 clear hit h hn0 hn6 hL
 have s1:¬9223372036854775807 < s.size+1:=by omega
 have s2:¬9223372036854775807 < s.size+1+it.length:=by omega
 show Calls Tryz.prog 52 #[.agg #[.string s,.int .i64 n]] w _
 go_enter Tryz.func52,Tryz.ntmps52
 go_upto_region 1 with (fail)
 (try rw [hX])
 clear hX
 go_region_held3 (fun W=>W.cell? ⟨w.heap.size,0,none⟩=some (.string s)∧W.cell? ⟨w.heap.size,1,none⟩=some (.int .i64 n)) (first|(with_reducible exact HC.out _ (Ext.drew _))|(with_reducible exact HC.out _ E1.out)|fail) (first
  | (go_at_call 88;(with_reducible refine (Q.out _ (HXb.out.drew)).mono ?_);rintro e y1 ⟨rfl,h1⟩;have E1:=Lib.hid (show Ext X y1 from Ext.trans (Ext.drew X) h1);clear h1)
  | fail)
 all_goals
  go_wp2_with fail
  go_ret
  exact ⟨ret_str (by apply WideShapes.bytes_inj;rw [HV.out];simp),HXb.out.trans (Below.mono E1.out HXb.out.size)⟩
set_option maxHeartbeats 2000000 in
set_option maxRecDepth 10000 in
theorem joined_dc_at (l:List Dc) (A:Option Addr) (c:Nat) (w:World) (hl:DcLst w A l c) (hsz:l.length≤1000) (hlen:(joinS 0 (l.map Dc.tx) []).length≤140737488355328) (hnm:l.all Dc.ok=true∧∀x∈l,x.name.size≤1000000) (hL:Laid w) :
  Calls Tryz.prog 51 #[.slice A l.length c,.func (.func 52) #[] #[]] w fun e w'=>e=.returned (.string (S (joinS 0 (l.map Dc.tx) [])))∧Below w.heap.size w w':=by
 have hent:=enters_fn Tryz.func52 (by kernel_rfl) rfl
 obtain ⟨i0,hi,hz0,hz1,hz2⟩:=info_parts str_info
 have hll:l.length≤9223372036854775807:=by omega
 have HL:=Lib.hid hl
 have HZ:=Lib.hid hsz
 have HLn:=Lib.hid hlen
 have Q:=Lib.hid (fun (x:Dc) (hx:x∈l) (W:World) (h:Below w.heap.size w W)=>show Calls Tryz.prog 52 #[.agg #[.string x.name,.int .i64 x.arity]] W fun e w'=>e=.returned (.string (S x.tx))∧Below W.heap.size W w' from text_decl_at x W (hl.mem hx) (List.all_eq_true.1 hnm.1 x hx) (hnm.2 x hx) (hL.below h))
 clear hl hsz hlen hnm hL
 go_enter Tryz.func51,Tryz.ntmps51
 go_wp2_with fail
 go_loopw [5,10] (fun z i wr=>∃(j:Nat) (x:Value),j≤l.length∧i=.int .i64 j∧z=x∧Hid (STexts w ((l.take j).map Dc.tx) x wr)) (fun _ i _=>l.length - (intOf i).toNat)
 case atStart=>exact ⟨0,_,Nat.zero_le _,rfl,rfl,Lib.hid ⟨World.ownsRow_nil _ _ _ _,Below.refl _ _⟩⟩
 case round =>
  obtain ⟨j,z,hj,rfl,hzx,hI⟩:=hrel
  have hzx':=hzx.symm
  clear hzx
  subst hzx'
  have hjz:j≤1000:=Nat.le_trans hj HZ.out
  by_cases hlt:j < l.length
  ·have hmem:=dc_getD_mem hlt
   have HT:=Lib.hid (dc_take_next hlt)
   obtain ⟨b,o,rfl,hcs,hat⟩:=(HL.out.below hI.out.2).get hlt
   have hjl:((l.take j).map Dc.tx).length=j:=by rw [List.length_map,List.length_take];omega
   generalize l.getD j default=x at *
   have Q1:=Lib.hid (fun W (h:Below wr.heap.size wr W)=>Q.out x hmem W (hI.out.2.trans (h.mono hI.out.2.size)))
   have c0:=hcs 0 _ rfl
   have c1:=hcs 1 _ rfl
   simp only [Nat.add_zero] at c0
   obtain ⟨y,hy⟩:∃y,x.tx=y:=⟨_,rfl⟩
   rw [hy] at Q1
   have HY:=Lib.hid hy
   clear hat hmem hy hcs
   obtain ⟨s',n'⟩:=x
   simp only at c0 c1
   go_wp2_with fail
   refine (Q1.out _ (below1 _ _)).mono ?_
   rintro e w2 ⟨rfl,hb2⟩
   have hb3:Below wr.heap.size wr w2:=(below1 wr _).trans (hb2.mono (by simp))
   have hown0:=hI.out.1
   rw [hjl] at hown0
   have HOwn:=Lib.hid (own_below hown0 hb3)
   have HB3:=Lib.hid (hI.out.2.trans (hb3.mono hI.out.2.size))
   have hs2:w.heap.size≤w2.heap.size:=HB3.out.size
   clear hb2 hb3 c0 c1 hown0
   go_wp2_with (at_builtin;refine wpList_append_lies _ rfl _ _ 55 rfl w.heap.size 9 i0 _ 1 16 Tryz.underlying55 hi hz0 hz1 hz2 rfl (by decide) z j _ rfl (HOwn.out.alloc _) ⟨w2.heap.size,0,none⟩ 1 1 [.string (S y)] rfl rfl (World.news_of_block (cs:=#[.string (S y)]) (t:=9) (fr:=(0,0)) (heap_alloc_new w2 _)) (by simp [Value.oneCell']) (by decide) (by unfold maxLen;omega) (by omega) (by simp;omega) _ rfl ?_;intro g cap w4 hown hg hat hglt)
   have HN:=Lib.hid (show STexts w ((l.take (j+1)).map Dc.tx) (.slice (some ⟨g,0,none⟩) (j+1) cap) w4 from ⟨by
    rw [HT.out,List.map_append,List.length_append,hjl,scells_append]
    simpa [scells,HY.out] using hown,(HB3.out.alloc hs2 _).grown hg (by simp;omega) (fun k h=>(own_lt' HOwn.out k h).1)⟩)
   clear hown hg hat hglt hjl
   go_wp2_with fail
   go_roundw
   case rel=>exact ⟨j+1,_,by omega,by go_num,rfl,HN⟩
   case measure=>simp [intOf];omega
  ·obtain rfl:j=l.length:=by omega
   have hI2:=hI.out
   rw [List.take_length] at hI2
   have HB:=Lib.hid hI2.2
   obtain ⟨A2,cap,rfl,QJ⟩:=join_end hI2 (List.length_map ..) HZ.out HLn.out
   have HJ:=Lib.hid QJ
   clear hlt QJ hI2 hI
   go_wp2_with fail
   refine HJ.out.mono ?_
   rintro e w5 ⟨rfl,hb5⟩
   have HB5:=Lib.hid (HB.out.trans (hb5.mono HB.out.size))
   clear hb5
   go_wp2_with fail
   go_ret
   exact ⟨rfl,HB5.out⟩
set_option maxHeartbeats 2000000 in
set_option maxRecDepth 10000 in
theorem joined_am_at (l:List Am) (A:Option Addr) (c:Nat) (w:World) (hl:AmLst w A l c) (hsz:l.length≤1000) (hlen:(joinS 0 (l.map Am.tx) []).length≤140737488355328) (hL:Laid w) :
  Calls Tryz.prog 115 #[.slice A l.length c,.func (.func 116) #[] #[]] w fun e w'=>e=.returned (.string (S (joinS 0 (l.map Am.tx) [])))∧Below w.heap.size w w':=by
 have hent:=enters_fn Tryz.func116 (by kernel_rfl) rfl
 obtain ⟨i0,hi,hz0,hz1,hz2⟩:=info_parts str_info
 have hll:l.length≤9223372036854775807:=by omega
 have HL:=Lib.hid hl
 have HZ:=Lib.hid hsz
 have HLn:=Lib.hid hlen
 have Q:=Lib.hid (fun (x:Am) (hx:x∈l) (W:World) (h:Below w.heap.size w W)=>show Calls Tryz.prog 116 #[.agg #[.string x.name,.slice x.at_ x.args.length x.cap]] W fun e w'=>e=.returned (.string (S x.tx))∧Below W.heap.size W w' from tt_atom x W ((hl.mem hx).below h) (hL.below h))
 clear hl hsz hlen hL
 go_enter Tryz.func115,Tryz.ntmps115
 go_wp2_with fail
 go_loopw [5,10] (fun z i wr=>∃(j:Nat) (x:Value),j≤l.length∧i=.int .i64 j∧z=x∧Hid (STexts w ((l.take j).map Am.tx) x wr)) (fun _ i _=>l.length - (intOf i).toNat)
 case atStart=>exact ⟨0,_,Nat.zero_le _,rfl,rfl,Lib.hid ⟨World.ownsRow_nil _ _ _ _,Below.refl _ _⟩⟩
 case round =>
  obtain ⟨j,z,hj,rfl,hzx,hI⟩:=hrel
  have hzx':=hzx.symm
  clear hzx
  subst hzx'
  have hjz:j≤1000:=Nat.le_trans hj HZ.out
  by_cases hlt:j < l.length
  ·have hmem:=am_getD_mem hlt
   have HT:=Lib.hid (am_take_next hlt)
   obtain ⟨b,o,rfl,hcs,hat⟩:=(HL.out.below hI.out.2).get hlt
   have hjl:((l.take j).map Am.tx).length=j:=by rw [List.length_map,List.length_take];omega
   generalize l.getD j default=x at *
   have Q1:=Lib.hid (fun W (h:Below wr.heap.size wr W)=>Q.out x hmem W (hI.out.2.trans (h.mono hI.out.2.size)))
   have c0:=hcs 0 _ rfl
   have c1:=hcs 1 _ rfl
   simp only [Nat.add_zero] at c0
   obtain ⟨y,hy⟩:∃y,x.tx=y:=⟨_,rfl⟩
   rw [hy] at Q1
   have HY:=Lib.hid hy
   clear hat hmem hy hcs
   obtain ⟨s',A',c',a'⟩:=x
   simp only at c0 c1
   go_wp2_with fail
   refine (Q1.out _ (below1 _ _)).mono ?_
   rintro e w2 ⟨rfl,hb2⟩
   have hb3:Below wr.heap.size wr w2:=(below1 wr _).trans (hb2.mono (by simp))
   have hown0:=hI.out.1
   rw [hjl] at hown0
   have HOwn:=Lib.hid (own_below hown0 hb3)
   have HB3:=Lib.hid (hI.out.2.trans (hb3.mono hI.out.2.size))
   have hs2:w.heap.size≤w2.heap.size:=HB3.out.size
   clear hb2 hb3 c0 c1 hown0
   go_wp2_with (at_builtin;refine wpList_append_lies _ rfl _ _ 55 rfl w.heap.size 9 i0 _ 1 16 Tryz.underlying55 hi hz0 hz1 hz2 rfl (by decide) z j _ rfl (HOwn.out.alloc _) ⟨w2.heap.size,0,none⟩ 1 1 [.string (S y)] rfl rfl (World.news_of_block (cs:=#[.string (S y)]) (t:=9) (fr:=(0,0)) (heap_alloc_new w2 _)) (by simp [Value.oneCell']) (by decide) (by unfold maxLen;omega) (by omega) (by simp;omega) _ rfl ?_;intro g cap w4 hown hg hat hglt)
   have HN:=Lib.hid (show STexts w ((l.take (j+1)).map Am.tx) (.slice (some ⟨g,0,none⟩) (j+1) cap) w4 from ⟨by
    rw [HT.out,List.map_append,List.length_append,hjl,scells_append]
    simpa [scells,HY.out] using hown,(HB3.out.alloc hs2 _).grown hg (by simp;omega) (fun k h=>(own_lt' HOwn.out k h).1)⟩)
   clear hown hg hat hglt hjl
   go_wp2_with fail
   go_roundw
   case rel=>exact ⟨j+1,_,by omega,by go_num,rfl,HN⟩
   case measure=>simp [intOf];omega
  ·obtain rfl:j=l.length:=by omega
   have hI2:=hI.out
   rw [List.take_length] at hI2
   have HB:=Lib.hid hI2.2
   obtain ⟨A2,cap,rfl,QJ⟩:=join_end hI2 (List.length_map ..) HZ.out HLn.out
   have HJ:=Lib.hid QJ
   clear hlt QJ hI2 hI
   go_wp2_with fail
   refine HJ.out.mono ?_
   rintro e w5 ⟨rfl,hb5⟩
   have HB5:=Lib.hid (HB.out.trans (hb5.mono HB.out.size))
   clear hb5
   go_wp2_with fail
   go_ret
   exact ⟨rfl,HB5.out⟩
set_option maxHeartbeats 2000000 in
set_option maxRecDepth 10000 in
theorem joined_gl_at (l:List Gl) (A:Option Addr) (c:Nat) (w:World) (hl:GlLst w A l c) (hsz:l.length≤1000) (hlen:(joinS 0 (l.map Gl.tx) []).length≤140737488355328) (hL:Laid w) :
  Calls Tryz.prog 91 #[.slice A l.length c,.func (.func 92) #[] #[]] w fun e w'=>e=.returned (.string (S (joinS 0 (l.map Gl.tx) [])))∧Below w.heap.size w w':=by
 have hent:=enters_fn Tryz.func92 (by kernel_rfl) rfl
 obtain ⟨i0,hi,hz0,hz1,hz2⟩:=info_parts str_info
 have hll:l.length≤9223372036854775807:=by omega
 have HL:=Lib.hid hl
 have HZ:=Lib.hid hsz
 have HLn:=Lib.hid hlen
 have Q:=Lib.hid (fun (x:Gl) (hx:x∈l) (W:World) (h:Below w.heap.size w W)=>show Calls Tryz.prog 92 #[.agg #[.int .i64 x.op,.string x.name,.slice x.at_ x.args.length x.cap]] W fun e w'=>e=.returned (.string (S x.tx))∧Below W.heap.size W w' from tt_goal x W ((hl.mem hx).below h) (hL.below h))
 clear hl hsz hlen hL
 go_enter Tryz.func91,Tryz.ntmps91
 go_wp2_with fail
 go_loopw [5,10] (fun z i wr=>∃(j:Nat) (x:Value),j≤l.length∧i=.int .i64 j∧z=x∧Hid (STexts w ((l.take j).map Gl.tx) x wr)) (fun _ i _=>l.length - (intOf i).toNat)
 case atStart=>exact ⟨0,_,Nat.zero_le _,rfl,rfl,Lib.hid ⟨World.ownsRow_nil _ _ _ _,Below.refl _ _⟩⟩
 case round =>
  obtain ⟨j,z,hj,rfl,hzx,hI⟩:=hrel
  have hzx':=hzx.symm
  clear hzx
  subst hzx'
  have hjz:j≤1000:=Nat.le_trans hj HZ.out
  by_cases hlt:j < l.length
  ·have hmem:=gl_getD_mem hlt
   have HT:=Lib.hid (gl_take_next hlt)
   obtain ⟨b,o,rfl,hcs,hat⟩:=(HL.out.below hI.out.2).get hlt
   have hjl:((l.take j).map Gl.tx).length=j:=by rw [List.length_map,List.length_take];omega
   generalize l.getD j default=x at *
   have Q1:=Lib.hid (fun W (h:Below wr.heap.size wr W)=>Q.out x hmem W (hI.out.2.trans (h.mono hI.out.2.size)))
   have c0:=hcs 0 _ rfl
   have c1:=hcs 1 _ rfl
   have c2:=hcs 2 _ rfl
   simp only [Nat.add_zero] at c0
   obtain ⟨y,hy⟩:∃y,x.tx=y:=⟨_,rfl⟩
   rw [hy] at Q1
   have HY:=Lib.hid hy
   clear hat hmem hy hcs
   obtain ⟨o',s',A',c',a'⟩:=x
   simp only at c0 c1 c2
   go_wp2_with fail
   refine (Q1.out _ (below1 _ _)).mono ?_
   rintro e w2 ⟨rfl,hb2⟩
   have hb3:Below wr.heap.size wr w2:=(below1 wr _).trans (hb2.mono (by simp))
   have hown0:=hI.out.1
   rw [hjl] at hown0
   have HOwn:=Lib.hid (own_below hown0 hb3)
   have HB3:=Lib.hid (hI.out.2.trans (hb3.mono hI.out.2.size))
   have hs2:w.heap.size≤w2.heap.size:=HB3.out.size
   clear hb2 hb3 c0 c1 c2 hown0
   go_wp2_with (at_builtin;refine wpList_append_lies _ rfl _ _ 55 rfl w.heap.size 9 i0 _ 1 16 Tryz.underlying55 hi hz0 hz1 hz2 rfl (by decide) z j _ rfl (HOwn.out.alloc _) ⟨w2.heap.size,0,none⟩ 1 1 [.string (S y)] rfl rfl (World.news_of_block (cs:=#[.string (S y)]) (t:=9) (fr:=(0,0)) (heap_alloc_new w2 _)) (by simp [Value.oneCell']) (by decide) (by unfold maxLen;omega) (by omega) (by simp;omega) _ rfl ?_;intro g cap w4 hown hg hat hglt)
   have HN:=Lib.hid (show STexts w ((l.take (j+1)).map Gl.tx) (.slice (some ⟨g,0,none⟩) (j+1) cap) w4 from ⟨by
    rw [HT.out,List.map_append,List.length_append,hjl,scells_append]
    simpa [scells,HY.out] using hown,(HB3.out.alloc hs2 _).grown hg (by simp;omega) (fun k h=>(own_lt' HOwn.out k h).1)⟩)
   clear hown hg hat hglt hjl
   go_wp2_with fail
   go_roundw
   case rel=>exact ⟨j+1,_,by omega,by go_num,rfl,HN⟩
   case measure=>simp [intOf];omega
  ·obtain rfl:j=l.length:=by omega
   have hI2:=hI.out
   rw [List.take_length] at hI2
   have HB:=Lib.hid hI2.2
   obtain ⟨A2,cap,rfl,QJ⟩:=join_end hI2 (List.length_map ..) HZ.out HLn.out
   have HJ:=Lib.hid QJ
   clear hlt QJ hI2 hI
   go_wp2_with fail
   refine HJ.out.mono ?_
   rintro e w5 ⟨rfl,hb5⟩
   have HB5:=Lib.hid (HB.out.trans (hb5.mono HB.out.size))
   clear hb5
   go_wp2_with fail
   go_ret
   exact ⟨rfl,HB5.out⟩
end Go.Proofs.YtnghanpmmbcbbaaGreatDoor
namespace Go.Proofs.YtnghanpmmbcbbaaGreatDoor
open Go.RowKit
theorem unless_at (l:List UInt8) (hl:l.length≤1000000000) (w:World) :
  Calls Tryz.prog 34 #[.string (S l)] w fun e w'=>e=.returned (.string (S (limT l)))∧w=w':=by
 by_cases h:16384 < l.length
 ·have e:limT l=[]:=if_pos h
  rw [e]
  go_enter Tryz.func34,Tryz.ntmps34
  go_wp2_with fail
  go_ret
  exact ⟨rfl,rfl⟩
 ·have e:limT l=l:=if_neg h
  rw [e]
  go_enter Tryz.func34,Tryz.ntmps34
  go_wp2_with fail
  go_ret
  exact ⟨rfl,rfl⟩
def nameTx (s:ByteArray):List UInt8:=if s.size=0 then [] else s.data.toList++[32,64,32]
theorem text_name_at (s:ByteArray) (hs:s.size≤1000000) (w:World) :
  Calls Tryz.prog 35 #[.string s] w fun e w'=>e=.returned (.string (S (nameTx s)))∧w=w':=by
 have s1:¬9223372036854775807 < s.size+3:=by omega
 by_cases h:s.size=0
 ·have e:nameTx s=[]:=if_pos h
  have e3:s.toList.isEmpty=true:=by rw [empty_iff,decide_eq_true h]
  rw [e]
  go_enter Tryz.func35,Tryz.ntmps35
  go_wp2_with fail
  go_ret
  exact ⟨rfl,rfl⟩
 ·have e:nameTx s=s.data.toList++[32,64,32]:=if_neg h
  have e3:s.toList.isEmpty=false:=by rw [empty_iff,decide_eq_false h]
  have HE:=Lib.hid e
  clear e
  go_enter Tryz.func35,Tryz.ntmps35
  go_wp2_with fail
  go_ret
  exact ⟨ret_str (by apply WideShapes.bytes_inj;rw [HE.out];simp),rfl⟩
theorem text_atoms_at (l:List Am) (A:Option Addr) (c:Nat) (w:World) (hl:AmLst w A l c) (hsz:l.length≤1000) (hL:Laid w) :
  Calls Tryz.prog 72 #[.slice A l.length c] w fun e w'=>e=.returned (.string (S (txtAm l)))∧Below w.heap.size w w':=by
 have Q:=Lib.hid (joined_am_at l A c w hl hsz (by have:=txtAm_len l;unfold txtAm at this;have:=Nat.mul_le_mul_right 100002 hsz;omega) hL)
 clear hl hsz hL
 go_enter Tryz.func72,Tryz.ntmps72
 go_wp2_with fail
 refine Q.out.mono ?_
 rintro e w1 ⟨rfl,hb⟩
 go_wp2_with fail
 go_ret
 exact ⟨rfl,hb⟩
theorem text_goals_at (l:List Gl) (A:Option Addr) (c:Nat) (w:World) (hl:GlLst w A l c) (hsz:l.length≤1000) (hL:Laid w) :
  Calls Tryz.prog 56 #[.slice A l.length c] w fun e w'=>e=.returned (.string (S (txtGl l)))∧Below w.heap.size w w':=by
 have Q:=Lib.hid (joined_gl_at l A c w hl hsz (by have:=txtGl_len l;unfold txtGl at this;have:=Nat.mul_le_mul_right 300002 hsz;omega) hL)
 clear hl hsz hL
 go_enter Tryz.func56,Tryz.ntmps56
 go_wp2_with fail
 refine Q.out.mono ?_
 rintro e w1 ⟨rfl,hb⟩
 go_wp2_with fail
 go_ret
 exact ⟨rfl,hb⟩
def headsTx (k r:List Am):List UInt8 :=
 if r.length=0 then txtAm k++[32,61,61,62,32] else if k.length=0 then txtAm r++[32,60,61,62,32] else txtAm k++[32,92,32]++txtAm r++[32,60,61,62,32]
theorem heads_eq (u:Rl):headsTx u.keep u.remove=u.headT:=by
 unfold headsTx Rl.headT
 by_cases h1:u.remove.length=0
 ·rw [if_pos h1,if_pos h1]
 ·rw [if_neg h1,if_neg h1]
  by_cases h2:u.keep.length=0
  ·rw [if_pos h2,if_pos h2,List.length_eq_zero_iff.1 h2]
   simp [txtAm,joinS]
  ·rw [if_neg h2,if_neg h2]
set_option maxHeartbeats 2000000 in
theorem text_heads_at (k r:List Am) (A B:Option Addr) (c d:Nat) (w:World) (hk:AmLst w A k c) (hr:AmLst w B r d) (hks:k.length≤300) (hrs:r.length≤300) (hL:Laid w) :
  Calls Tryz.prog 36 #[.slice A k.length c,.slice B r.length d] w fun e w'=>e=.returned (.string (S (headsTx k r)))∧Below w.heap.size w w':=by
 have QK:=Lib.hid (text_atoms_at k A c w hk (by omega) hL)
 have QR:=Lib.hid (fun W (h:Below w.heap.size w W)=>text_atoms_at r B d W (hr.below h) (by omega) (hL.below h))
 have h1:=txtAm_len k
 have h2:=txtAm_len r
 have h3:(txtAm k).length≤40000000:=by omega
 have h4:(txtAm r).length≤40000000:=by omega
 have HV:=Lib.hid (show headsTx k r=if r.length=0 then txtAm k++[32,61,61,62,32] else if k.length=0 then txtAm r++[32,60,61,62,32] else txtAm k++[32,92,32]++txtAm r++[32,60,61,62,32] from rfl)
 generalize headsTx k r=t at *
 generalize txtAm k=x at *
 generalize txtAm r=y at *
 have s1:¬9223372036854775807 < x.length+5:=by omega
 have s2:¬9223372036854775807 < y.length+5:=by omega
 have s3:¬9223372036854775807 < x.length+3:=by omega
 have s4:¬9223372036854775807 < x.length+3+y.length:=by omega
 have s5:¬9223372036854775807 < x.length+3+y.length+5:=by omega
 clear hk hr hL h1 h2 h3 h4
 by_cases hr0:r.length=0
 ·have e1:(((r.length:Nat):Int)==0)=true:=by rw [hr0];rfl
  have HV2:=Lib.hid (show t=x++[32,61,61,62,32] by rw [HV.out,if_pos hr0])
  clear HV
  go_enter Tryz.func36,Tryz.ntmps36
  go_wp2_with fail
  refine QK.out.mono ?_
  rintro e w1 ⟨rfl,hb⟩
  go_wp2_with fail
  go_ret
  exact ⟨ret_str (by apply WideShapes.bytes_inj;rw [HV2.out];simp),hb⟩
 ·have e1:(((r.length:Nat):Int)==0)=false:=by rw [beq_eq_false_iff_ne];omega
  by_cases hk0:k.length=0
  ·have e2:(((k.length:Nat):Int)==0)=true:=by rw [hk0];rfl
   have HV2:=Lib.hid (show t=y++[32,60,61,62,32] by rw [HV.out,if_neg hr0,if_pos hk0])
   have QR0:=Lib.hid (QR.out w (Below.refl _ _))
   clear HV QR
   go_enter Tryz.func36,Tryz.ntmps36
   go_wp2_with fail
   refine QR0.out.mono ?_
   rintro e w1 ⟨rfl,hb⟩
   go_wp2_with fail
   go_ret
   exact ⟨ret_str (by apply WideShapes.bytes_inj;rw [HV2.out];simp),hb⟩
  ·have e2:(((k.length:Nat):Int)==0)=false:=by rw [beq_eq_false_iff_ne];omega
   have HV2:=Lib.hid (show t=x++[32,92,32]++y++[32,60,61,62,32] by rw [HV.out,if_neg hr0,if_neg hk0])
   clear HV
   go_enter Tryz.func36,Tryz.ntmps36
   go_wp2_with fail
   refine QK.out.mono ?_
   rintro e w1 ⟨rfl,hb⟩
   have HB:=Lib.hid hb
   clear hb
   go_wp2_with fail
   refine (QR.out w1 HB.out).mono ?_
   rintro e w2 ⟨rfl,hb2⟩
   have HB2:=Lib.hid (HB.out.trans (hb2.mono HB.out.size))
   clear hb2
   go_wp2_with fail
   go_ret
   exact ⟨ret_str (by apply WideShapes.bytes_inj;rw [HV2.out];simp),HB2.out⟩
def guardTx (l:List Gl):List UInt8:=if l.length=0 then [] else txtGl l++[32,124,32]
def bodyTx (l:List Gl):List UInt8:=if l.length=0 then [116,114,117,101] else txtGl l
theorem text_guard_at (l:List Gl) (A:Option Addr) (c:Nat) (w:World) (hl:GlLst w A l c) (hsz:l.length≤300) (hL:Laid w) :
  Calls Tryz.prog 37 #[.slice A l.length c] w fun e w'=>e=.returned (.string (S (guardTx l)))∧Below w.heap.size w w':=by
 have Q:=Lib.hid (text_goals_at l A c w hl (by omega) hL)
 have h1:=txtGl_len l
 have h3:(txtGl l).length≤100000000:=by omega
 have HV:=Lib.hid (show guardTx l=if l.length=0 then [] else txtGl l++[32,124,32] from rfl)
 generalize guardTx l=t at *
 generalize txtGl l=x at *
 have s1:¬9223372036854775807 < x.length+3:=by omega
 clear hl hL h1 h3
 by_cases h0:l.length=0
 ·have e1:(((l.length:Nat):Int)==0)=true:=by rw [h0];rfl
  have HV2:=Lib.hid (show t=[] by rw [HV.out,if_pos h0])
  clear HV
  go_enter Tryz.func37,Tryz.ntmps37
  go_wp2_with fail
  go_ret
  exact ⟨ret_str (by rw [HV2.out]),Below.refl _ _⟩
 ·have e1:(((l.length:Nat):Int)==0)=false:=by rw [beq_eq_false_iff_ne];omega
  have HV2:=Lib.hid (show t=x++[32,124,32] by rw [HV.out,if_neg h0])
  clear HV
  go_enter Tryz.func37,Tryz.ntmps37
  go_wp2_with fail
  refine Q.out.mono ?_
  rintro e w1 ⟨rfl,hb⟩
  go_wp2_with fail
  go_ret
  exact ⟨ret_str (by apply WideShapes.bytes_inj;rw [HV2.out];simp),hb⟩
theorem text_body_at (l:List Gl) (A:Option Addr) (c:Nat) (w:World) (hl:GlLst w A l c) (hsz:l.length≤300) (hL:Laid w) :
  Calls Tryz.prog 38 #[.slice A l.length c] w fun e w'=>e=.returned (.string (S (bodyTx l)))∧Below w.heap.size w w':=by
 have Q:=Lib.hid (text_goals_at l A c w hl (by omega) hL)
 have HV:=Lib.hid (show bodyTx l=if l.length=0 then [116,114,117,101] else txtGl l from rfl)
 generalize bodyTx l=t at *
 generalize txtGl l=x at *
 clear hl hL
 by_cases h0:l.length=0
 ·have e1:(((l.length:Nat):Int)==0)=true:=by rw [h0];rfl
  have HV2:=Lib.hid (show t=[116,114,117,101] by rw [HV.out,if_pos h0])
  clear HV
  go_enter Tryz.func38,Tryz.ntmps38
  go_wp2_with fail
  go_ret
  exact ⟨ret_str (by rw [HV2.out]),Below.refl _ _⟩
 ·have e1:(((l.length:Nat):Int)==0)=false:=by rw [beq_eq_false_iff_ne];omega
  have HV2:=Lib.hid (show t=x by rw [HV.out,if_neg h0])
  clear HV
  go_enter Tryz.func38,Tryz.ntmps38
  go_wp2_with fail
  refine Q.out.mono ?_
  rintro e w1 ⟨rfl,hb⟩
  go_wp2_with fail
  go_ret
  exact ⟨ret_str (by rw [HV2.out]),hb⟩
theorem right_goals_at (l:List Gl) (A:Option Addr) (c:Nat) (m:Nat) (w:World) (hl:GlLst w A l c) {r:Bool} (hr:(decide (l.length≤m)&&allGl l)=r) :
  Calls Tryz.prog 55 #[.slice A l.length c,.int .i64 (m:Int)] w fun e w'=>e=.returned (.bool r)∧Below w.heap.size w w':=by
 have hll:=hl.len
 obtain ⟨q,hq⟩:∃q,allGl l=q:=⟨_,rfl⟩
 have Q:=Lib.hid (all_gl_at l A c w hl (r:=q) hq)
 rw [hq] at hr
 have HR:=Lib.hid hr
 clear hl hr hq
 by_cases h:l.length≤m
 ·have e1:decide ((l.length:Int)≤(m:Int))=true:=by simp;omega
  have HR2:=Lib.hid (show q=r by rw [←HR.out,decide_eq_true h,Bool.true_and])
  clear HR
  go_enter Tryz.func55,Tryz.ntmps55
  go_wp2_with fail
  refine Q.out.mono ?_
  rintro e w1 ⟨rfl,hb⟩
  go_wp2_with fail
  go_ret
  exact ⟨by rw [HR2.out];rfl,hb⟩
 ·have e1:decide ((l.length:Int)≤(m:Int))=false:=by simp;omega
  have HR2:=Lib.hid (show false=r by rw [←HR.out,decide_eq_false h,Bool.false_and])
  clear HR
  go_enter Tryz.func55,Tryz.ntmps55
  go_wp2_with fail
  go_ret
  exact ⟨by rw [←HR2.out];rfl,Below.refl _ _⟩
def headsB (k r:List Am):Bool:=decide (0 < k.length+r.length)&&(decide (k.length+r.length≤4)&&(allAm k&&allAm r))
theorem right_heads_at (k r:List Am) (A B:Option Addr) (c d:Nat) (w:World) (hk:AmLst w A k c) (hr:AmLst w B r d) (hks:k.length≤300) (hrs:r.length≤300) {q:Bool} (hq:headsB k r=q) :
  Calls Tryz.prog 70 #[.slice A k.length c,.slice B r.length d] w fun e w'=>e=.returned (.bool q)∧Below w.heap.size w w':=by
 obtain ⟨qk,hqk⟩:∃q,allAm k=q:=⟨_,rfl⟩
 obtain ⟨qr,hqr⟩:∃q,allAm r=q:=⟨_,rfl⟩
 have QK:=Lib.hid (all_am_at k A c w hk (r:=qk) hqk)
 have QR:=Lib.hid (fun W (h:Below w.heap.size w W)=>all_am_at r B d W (hr.below h) (r:=qr) hqr)
 unfold headsB at hq
 rw [hqk,hqr] at hq
 have HQ:=Lib.hid hq
 clear hk hr hq hqk hqr
 have k1:k.length≤9223372036854775807:=by omega
 have k2:r.length≤9223372036854775807:=by omega
 by_cases h1:0 < k.length+r.length
 ·have e1:decide ((0:Int) < (k.length:Int)+(r.length:Int))=true:=by simp;omega
  by_cases h2:k.length+r.length≤4
  ·have e2:decide ((k.length:Int)+(r.length:Int)≤4)=true:=by simp;omega
   have HQ2:=Lib.hid (show (qk&&qr)=q by rw [←HQ.out,decide_eq_true h1,decide_eq_true h2,Bool.true_and,Bool.true_and])
   clear HQ
   cases qk
   ·go_enter Tryz.func70,Tryz.ntmps70
    go_wp2_with fail
    refine QK.out.mono ?_
    rintro e w1 ⟨rfl,hb⟩
    go_wp2_with fail
    go_ret
    exact ⟨by rw [←HQ2.out];rfl,hb⟩
   ·go_enter Tryz.func70,Tryz.ntmps70
    go_wp2_with fail
    refine QK.out.mono ?_
    rintro e w1 ⟨rfl,hb⟩
    have HB:=Lib.hid hb
    clear hb
    go_wp2_with fail
    refine (QR.out w1 HB.out).mono ?_
    rintro e w2 ⟨rfl,hb2⟩
    have HB2:=Lib.hid (HB.out.trans (hb2.mono HB.out.size))
    clear hb2
    go_wp2_with fail
    go_ret
    exact ⟨by rw [←HQ2.out];rfl,HB2.out⟩
  ·have e2:decide ((k.length:Int)+(r.length:Int)≤4)=false:=by simp;omega
   have HQ2:=Lib.hid (show false=q by rw [←HQ.out,decide_eq_false h2];simp)
   clear HQ
   go_enter Tryz.func70,Tryz.ntmps70
   go_wp2_with fail
   go_ret
   exact ⟨by rw [←HQ2.out];rfl,Below.refl _ _⟩
 ·have e1:decide ((0:Int) < (k.length:Int)+(r.length:Int))=false:=by simp;omega
  have HQ2:=Lib.hid (show false=q by rw [←HQ.out,decide_eq_false h1];simp)
  clear HQ
  go_enter Tryz.func70,Tryz.ntmps70
  go_wp2_with fail
  go_ret
  exact ⟨by rw [←HQ2.out];rfl,Below.refl _ _⟩
def trueB (l:List Gl):Bool:=decide (l.length=1)&&((l.getD 0 default).op==1)
theorem true_alone_at (l:List Gl) (A:Option Addr) (c:Nat) (w:World) (hl:GlLst w A l c) {r:Bool} (hr:trueB l=r) :
  Calls Tryz.prog 71 #[.slice A l.length c] w fun e w'=>e=.returned (.bool r)∧w=w':=by
 have hll:=hl.len
 by_cases h:l.length=1
 ·have e1:(((l.length:Nat):Int)==1)=true:=by rw [h];rfl
  obtain ⟨b,o,rfl,hcs,_⟩:=hl.get (i:=0) (by omega)
  have c0:=hcs 0 _ rfl
  simp only [Nat.zero_mul,Nat.add_zero] at c0
  obtain ⟨q,hq⟩:∃q,((l.getD 0 default).op==1)=q:=⟨_,rfl⟩
  have HR:=Lib.hid (show q=r by rw [←hr,trueB,decide_eq_true h,Bool.true_and,hq])
  generalize (l.getD 0 default).op=z at *
  rw [h]
  clear hl hr hcs e1 hll h
  go_enter Tryz.func71,Tryz.ntmps71
  go_wp2_with fail
  go_ret
  exact ⟨by rw [←HR.out];rfl,rfl⟩
 ·have e1:(((l.length:Nat):Int)==1)=false:=by rw [beq_eq_false_iff_ne];omega
  have HR:=Lib.hid (show false=r by rw [←hr,trueB,decide_eq_false h,Bool.false_and])
  clear hl hr
  go_enter Tryz.func71,Tryz.ntmps71
  go_wp2_with fail
  go_ret
  exact ⟨by rw [←HR.out];rfl,rfl⟩
end Go.Proofs.YtnghanpmmbcbbaaGreatDoor
namespace Go.Proofs.YtnghanpmmbcbbaaGreatDoor
open Go.RowKit
def Rl.goodB (u:Rl):Bool:=(decide (u.name.size=0)||rightB u.name.data.toList)&&(headsB u.keep u.remove&&((decide (u.guard.length≤12)&&allGl u.guard)&&((decide (u.body.length≤12)&&allGl u.body) && !trueB u.body)))
theorem good_iff (u:Rl):u.goodB=true↔u.Good:=by
 simp only [Rl.goodB,headsB,trueB,Bool.and_eq_true,Bool.or_eq_true,decide_eq_true_eq,Bool.not_eq_true',Bool.and_eq_false_iff,decide_eq_false_iff_not]
 constructor
 ·rintro ⟨h1,⟨h2,h3,h4,h5⟩,⟨h6,h7⟩,⟨h8,h9⟩,h10⟩
  exact ⟨h4,h5,h7,h9,by omega,h3,h6,h8,h1,fun ⟨e1,e2⟩=>h10.elim (fun h=>h e1) (fun h=>by rw [e2] at h;cases h)⟩
 ·intro g
  refine ⟨g.name,⟨by have:=g.some;omega,g.few,g.keep,g.remove⟩,⟨g.guards,g.guard⟩,⟨g.bodies,g.body⟩,?_⟩
  by_cases e1:u.body.length=1
  ·exact .inr (by rw [beq_eq_false_iff_ne];exact fun e2=>g.noTrue ⟨e1,e2⟩)
  ·exact .inl e1
set_option maxHeartbeats 8000000 in
theorem right_rule_at (u:Rl) (w:World) (h:u.At w) (hs:u.Tiny) (hn:u.name.size≤100000) {q:Bool} (hq:u.goodB=q) :
  Calls Tryz.prog 33 #[u.val] w fun e w'=>e=.returned (.bool q)∧Below w.heap.size w w':=by
 obtain ⟨X,hX⟩:∃X,w.alloc (.cells #[.string u.name,.slice u.kA u.keep.length u.kc,.slice u.rA u.remove.length u.rc,.slice u.gA u.guard.length u.gc,.slice u.bA u.body.length u.bc,.int .i64 u.vars] 25)=X:=⟨_,rfl⟩
 have H0:=heldL_new w [.string u.name,.slice u.kA u.keep.length u.kc,.slice u.rA u.remove.length u.rc,.slice u.gA u.guard.length u.gc,.slice u.bA u.body.length u.bc,.int .i64 u.vars] 25
 rw [show w.alloc (.cells [.string u.name,.slice u.kA u.keep.length u.kc,.slice u.rA u.remove.length u.rc,.slice u.gA u.guard.length u.gc,.slice u.bA u.body.length u.bc,.int .i64 u.vars].toArray 25)=X from hX] at H0
 have HX:=Lib.hid (show Ext w X from by rw [←hX];exact below1 _ _)
 have HC:=Lib.hid (fun W (hb:Ext X W)=>(⟨(H0.below hb).cell 0 _ rfl,(H0.below hb).cell 1 _ rfl,(H0.below hb).cell 2 _ rfl,(H0.below hb).cell 3 _ rfl,(H0.below hb).cell 4 _ rfl⟩:W.cell? ⟨w.heap.size,0,none⟩=some (.string u.name)∧W.cell? ⟨w.heap.size,1,none⟩=some (.slice u.kA u.keep.length u.kc)∧W.cell? ⟨w.heap.size,2,none⟩=some (.slice u.rA u.remove.length u.rc)∧W.cell? ⟨w.heap.size,3,none⟩=some (.slice u.gA u.guard.length u.gc)∧W.cell? ⟨w.heap.size,4,none⟩=some (.slice u.bA u.body.length u.bc)))
 obtain ⟨q1,h1⟩:∃q,decide (u.name.size=0)=q:=⟨_,rfl⟩
 obtain ⟨q2,h2⟩:∃q,rightB u.name.data.toList=q:=⟨_,rfl⟩
 obtain ⟨q3,h3⟩:∃q,headsB u.keep u.remove=q:=⟨_,rfl⟩
 obtain ⟨q4,h4⟩:∃q,(decide (u.guard.length≤12)&&allGl u.guard)=q:=⟨_,rfl⟩
 obtain ⟨q5,h5⟩:∃q,(decide (u.body.length≤12)&&allGl u.body)=q:=⟨_,rfl⟩
 obtain ⟨q6,h6⟩:∃q,trueB u.body=q:=⟨_,rfl⟩
 have HQ:=Lib.hid (show ((q1||q2)&&(q3&&(q4&&(q5 && !q6))))=q by rw [←hq,Rl.goodB,h1,h2,h3,h4,h5,h6])
 have he:u.name.toList.isEmpty=q1:=by rw [empty_iff,h1]
 have Q2:=Lib.hid (fun (W:World) (_:Ext X W)=>right_at u.name W (by omega) h2)
 have Q3:=Lib.hid (fun (W:World) (hb:Ext X W)=>right_heads_at u.keep u.remove u.kA u.rA u.kc u.rc W (h.keep.below (Ext.trans HX.out hb)) (h.remove.below (Ext.trans HX.out hb)) hs.k1 hs.r1 h3)
 have Q4:=Lib.hid (fun (W:World) (hb:Ext X W)=>right_goals_at u.guard u.gA u.gc 12 W (h.guard.below (Ext.trans HX.out hb)) h4)
 have Q5:=Lib.hid (fun (W:World) (hb:Ext X W)=>right_goals_at u.body u.bA u.bc 12 W (h.body.below (Ext.trans HX.out hb)) h5)
 have Q6:=Lib.hid (fun (W:World) (hb:Ext X W)=>true_alone_at u.body u.bA u.bc W (h.body.below (Ext.trans HX.out hb)) h6)
 clear h hs hn hq h1 h2 h3 h4 h5 h6 H0
 show Calls Tryz.prog 33 #[.agg #[.string u.name,.slice u.kA u.keep.length u.kc,.slice u.rA u.remove.length u.rc,.slice u.gA u.guard.length u.gc,.slice u.bA u.body.length u.bc,.int .i64 u.vars]] w _
 cases q1
 ·cases q2
  ·go_enter Tryz.func33,Tryz.ntmps33
   go_upto_region 1 with (fail)
   (try rw [hX])
   clear hX
   have E0:=Lib.hid (Ext.refl X)
   obtain ⟨p0,p1,p2,p3,p4⟩:=HC.out X E0.out
   go_wp2_with fail
   refine (Q2.out X E0.out).mono ?_
   rintro e y0 ⟨rfl,rfl⟩
   go_wp2_with fail
   go_ret
   exact ⟨by rw [←HQ.out];rfl,Ext.trans HX.out E0.out⟩
  ·skip
   cases q3
   ·go_enter Tryz.func33,Tryz.ntmps33
    go_upto_region 1 with (fail)
    (try rw [hX])
    clear hX
    have E0:=Lib.hid (Ext.refl X)
    obtain ⟨p0,p1,p2,p3,p4⟩:=HC.out X E0.out
    go_wp2_with fail
    refine (Q2.out X E0.out).mono ?_
    rintro e y0 ⟨rfl,rfl⟩
    go_wp2_with fail
    refine (Q3.out X E0.out).mono ?_
    rintro e y1 ⟨rfl,hb⟩
    have E2:=Lib.hid (show Ext X y1 from Ext.trans E0.out hb)
    clear hb p0 p1 p2 p3 p4
    obtain ⟨p0,p1,p2,p3,p4⟩:=HC.out y1 E2.out
    go_wp2_with fail
    go_ret
    exact ⟨by rw [←HQ.out];rfl,Ext.trans HX.out E2.out⟩
   ·skip
    cases q4
    ·go_enter Tryz.func33,Tryz.ntmps33
     go_upto_region 1 with (fail)
     (try rw [hX])
     clear hX
     have E0:=Lib.hid (Ext.refl X)
     obtain ⟨p0,p1,p2,p3,p4⟩:=HC.out X E0.out
     go_wp2_with fail
     refine (Q2.out X E0.out).mono ?_
     rintro e y0 ⟨rfl,rfl⟩
     go_wp2_with fail
     refine (Q3.out X E0.out).mono ?_
     rintro e y1 ⟨rfl,hb⟩
     have E2:=Lib.hid (show Ext X y1 from Ext.trans E0.out hb)
     clear hb p0 p1 p2 p3 p4
     obtain ⟨p0,p1,p2,p3,p4⟩:=HC.out y1 E2.out
     go_wp2_with fail
     refine (Q4.out y1 E2.out).mono ?_
     rintro e y2 ⟨rfl,hb⟩
     have E3:=Lib.hid (show Ext X y2 from Ext.trans E2.out hb)
     clear hb p0 p1 p2 p3 p4
     obtain ⟨p0,p1,p2,p3,p4⟩:=HC.out y2 E3.out
     go_wp2_with fail
     go_ret
     exact ⟨by rw [←HQ.out];rfl,Ext.trans HX.out E3.out⟩
    ·skip
     cases q5
     ·go_enter Tryz.func33,Tryz.ntmps33
      go_upto_region 1 with (fail)
      (try rw [hX])
      clear hX
      have E0:=Lib.hid (Ext.refl X)
      obtain ⟨p0,p1,p2,p3,p4⟩:=HC.out X E0.out
      go_wp2_with fail
      refine (Q2.out X E0.out).mono ?_
      rintro e y0 ⟨rfl,rfl⟩
      go_wp2_with fail
      refine (Q3.out X E0.out).mono ?_
      rintro e y1 ⟨rfl,hb⟩
      have E2:=Lib.hid (show Ext X y1 from Ext.trans E0.out hb)
      clear hb p0 p1 p2 p3 p4
      obtain ⟨p0,p1,p2,p3,p4⟩:=HC.out y1 E2.out
      go_wp2_with fail
      refine (Q4.out y1 E2.out).mono ?_
      rintro e y2 ⟨rfl,hb⟩
      have E3:=Lib.hid (show Ext X y2 from Ext.trans E2.out hb)
      clear hb p0 p1 p2 p3 p4
      obtain ⟨p0,p1,p2,p3,p4⟩:=HC.out y2 E3.out
      go_wp2_with fail
      refine (Q5.out y2 E3.out).mono ?_
      rintro e y3 ⟨rfl,hb⟩
      have E4:=Lib.hid (show Ext X y3 from Ext.trans E3.out hb)
      clear hb p0 p1 p2 p3 p4
      obtain ⟨p0,p1,p2,p3,p4⟩:=HC.out y3 E4.out
      go_wp2_with fail
      go_ret
      exact ⟨by rw [←HQ.out];rfl,Ext.trans HX.out E4.out⟩
     ·skip
      cases q6
      ·go_enter Tryz.func33,Tryz.ntmps33
       go_upto_region 1 with (fail)
       (try rw [hX])
       clear hX
       have E0:=Lib.hid (Ext.refl X)
       obtain ⟨p0,p1,p2,p3,p4⟩:=HC.out X E0.out
       go_wp2_with fail
       refine (Q2.out X E0.out).mono ?_
       rintro e y0 ⟨rfl,rfl⟩
       go_wp2_with fail
       refine (Q3.out X E0.out).mono ?_
       rintro e y1 ⟨rfl,hb⟩
       have E2:=Lib.hid (show Ext X y1 from Ext.trans E0.out hb)
       clear hb p0 p1 p2 p3 p4
       obtain ⟨p0,p1,p2,p3,p4⟩:=HC.out y1 E2.out
       go_wp2_with fail
       refine (Q4.out y1 E2.out).mono ?_
       rintro e y2 ⟨rfl,hb⟩
       have E3:=Lib.hid (show Ext X y2 from Ext.trans E2.out hb)
       clear hb p0 p1 p2 p3 p4
       obtain ⟨p0,p1,p2,p3,p4⟩:=HC.out y2 E3.out
       go_wp2_with fail
       refine (Q5.out y2 E3.out).mono ?_
       rintro e y3 ⟨rfl,hb⟩
       have E4:=Lib.hid (show Ext X y3 from Ext.trans E3.out hb)
       clear hb p0 p1 p2 p3 p4
       obtain ⟨p0,p1,p2,p3,p4⟩:=HC.out y3 E4.out
       go_wp2_with fail
       refine (Q6.out y3 E4.out).mono ?_
       rintro e y4 ⟨rfl,rfl⟩
       go_wp2_with fail
       go_ret
       exact ⟨by rw [←HQ.out];rfl,Ext.trans HX.out E4.out⟩
      ·go_enter Tryz.func33,Tryz.ntmps33
       go_upto_region 1 with (fail)
       (try rw [hX])
       clear hX
       have E0:=Lib.hid (Ext.refl X)
       obtain ⟨p0,p1,p2,p3,p4⟩:=HC.out X E0.out
       go_wp2_with fail
       refine (Q2.out X E0.out).mono ?_
       rintro e y0 ⟨rfl,rfl⟩
       go_wp2_with fail
       refine (Q3.out X E0.out).mono ?_
       rintro e y1 ⟨rfl,hb⟩
       have E2:=Lib.hid (show Ext X y1 from Ext.trans E0.out hb)
       clear hb p0 p1 p2 p3 p4
       obtain ⟨p0,p1,p2,p3,p4⟩:=HC.out y1 E2.out
       go_wp2_with fail
       refine (Q4.out y1 E2.out).mono ?_
       rintro e y2 ⟨rfl,hb⟩
       have E3:=Lib.hid (show Ext X y2 from Ext.trans E2.out hb)
       clear hb p0 p1 p2 p3 p4
       obtain ⟨p0,p1,p2,p3,p4⟩:=HC.out y2 E3.out
       go_wp2_with fail
       refine (Q5.out y2 E3.out).mono ?_
       rintro e y3 ⟨rfl,hb⟩
       have E4:=Lib.hid (show Ext X y3 from Ext.trans E3.out hb)
       clear hb p0 p1 p2 p3 p4
       obtain ⟨p0,p1,p2,p3,p4⟩:=HC.out y3 E4.out
       go_wp2_with fail
       refine (Q6.out y3 E4.out).mono ?_
       rintro e y4 ⟨rfl,rfl⟩
       go_wp2_with fail
       go_ret
       exact ⟨by rw [←HQ.out];rfl,Ext.trans HX.out E4.out⟩
 ·skip
  cases q3
  ·go_enter Tryz.func33,Tryz.ntmps33
   go_upto_region 1 with (fail)
   (try rw [hX])
   clear hX
   have E0:=Lib.hid (Ext.refl X)
   obtain ⟨p0,p1,p2,p3,p4⟩:=HC.out X E0.out
   go_wp2_with fail
   refine (Q3.out X E0.out).mono ?_
   rintro e y0 ⟨rfl,hb⟩
   have E1:=Lib.hid (show Ext X y0 from Ext.trans E0.out hb)
   clear hb p0 p1 p2 p3 p4
   obtain ⟨p0,p1,p2,p3,p4⟩:=HC.out y0 E1.out
   go_wp2_with fail
   go_ret
   exact ⟨by rw [←HQ.out];rfl,Ext.trans HX.out E1.out⟩
  ·skip
   cases q4
   ·go_enter Tryz.func33,Tryz.ntmps33
    go_upto_region 1 with (fail)
    (try rw [hX])
    clear hX
    have E0:=Lib.hid (Ext.refl X)
    obtain ⟨p0,p1,p2,p3,p4⟩:=HC.out X E0.out
    go_wp2_with fail
    refine (Q3.out X E0.out).mono ?_
    rintro e y0 ⟨rfl,hb⟩
    have E1:=Lib.hid (show Ext X y0 from Ext.trans E0.out hb)
    clear hb p0 p1 p2 p3 p4
    obtain ⟨p0,p1,p2,p3,p4⟩:=HC.out y0 E1.out
    go_wp2_with fail
    refine (Q4.out y0 E1.out).mono ?_
    rintro e y1 ⟨rfl,hb⟩
    have E2:=Lib.hid (show Ext X y1 from Ext.trans E1.out hb)
    clear hb p0 p1 p2 p3 p4
    obtain ⟨p0,p1,p2,p3,p4⟩:=HC.out y1 E2.out
    go_wp2_with fail
    go_ret
    exact ⟨by rw [←HQ.out];rfl,Ext.trans HX.out E2.out⟩
   ·skip
    cases q5
    ·go_enter Tryz.func33,Tryz.ntmps33
     go_upto_region 1 with (fail)
     (try rw [hX])
     clear hX
     have E0:=Lib.hid (Ext.refl X)
     obtain ⟨p0,p1,p2,p3,p4⟩:=HC.out X E0.out
     go_wp2_with fail
     refine (Q3.out X E0.out).mono ?_
     rintro e y0 ⟨rfl,hb⟩
     have E1:=Lib.hid (show Ext X y0 from Ext.trans E0.out hb)
     clear hb p0 p1 p2 p3 p4
     obtain ⟨p0,p1,p2,p3,p4⟩:=HC.out y0 E1.out
     go_wp2_with fail
     refine (Q4.out y0 E1.out).mono ?_
     rintro e y1 ⟨rfl,hb⟩
     have E2:=Lib.hid (show Ext X y1 from Ext.trans E1.out hb)
     clear hb p0 p1 p2 p3 p4
     obtain ⟨p0,p1,p2,p3,p4⟩:=HC.out y1 E2.out
     go_wp2_with fail
     refine (Q5.out y1 E2.out).mono ?_
     rintro e y2 ⟨rfl,hb⟩
     have E3:=Lib.hid (show Ext X y2 from Ext.trans E2.out hb)
     clear hb p0 p1 p2 p3 p4
     obtain ⟨p0,p1,p2,p3,p4⟩:=HC.out y2 E3.out
     go_wp2_with fail
     go_ret
     exact ⟨by rw [←HQ.out];rfl,Ext.trans HX.out E3.out⟩
    ·skip
     cases q6
     ·go_enter Tryz.func33,Tryz.ntmps33
      go_upto_region 1 with (fail)
      (try rw [hX])
      clear hX
      have E0:=Lib.hid (Ext.refl X)
      obtain ⟨p0,p1,p2,p3,p4⟩:=HC.out X E0.out
      go_wp2_with fail
      refine (Q3.out X E0.out).mono ?_
      rintro e y0 ⟨rfl,hb⟩
      have E1:=Lib.hid (show Ext X y0 from Ext.trans E0.out hb)
      clear hb p0 p1 p2 p3 p4
      obtain ⟨p0,p1,p2,p3,p4⟩:=HC.out y0 E1.out
      go_wp2_with fail
      refine (Q4.out y0 E1.out).mono ?_
      rintro e y1 ⟨rfl,hb⟩
      have E2:=Lib.hid (show Ext X y1 from Ext.trans E1.out hb)
      clear hb p0 p1 p2 p3 p4
      obtain ⟨p0,p1,p2,p3,p4⟩:=HC.out y1 E2.out
      go_wp2_with fail
      refine (Q5.out y1 E2.out).mono ?_
      rintro e y2 ⟨rfl,hb⟩
      have E3:=Lib.hid (show Ext X y2 from Ext.trans E2.out hb)
      clear hb p0 p1 p2 p3 p4
      obtain ⟨p0,p1,p2,p3,p4⟩:=HC.out y2 E3.out
      go_wp2_with fail
      refine (Q6.out y2 E3.out).mono ?_
      rintro e y3 ⟨rfl,rfl⟩
      go_wp2_with fail
      go_ret
      exact ⟨by rw [←HQ.out];rfl,Ext.trans HX.out E3.out⟩
     ·go_enter Tryz.func33,Tryz.ntmps33
      go_upto_region 1 with (fail)
      (try rw [hX])
      clear hX
      have E0:=Lib.hid (Ext.refl X)
      obtain ⟨p0,p1,p2,p3,p4⟩:=HC.out X E0.out
      go_wp2_with fail
      refine (Q3.out X E0.out).mono ?_
      rintro e y0 ⟨rfl,hb⟩
      have E1:=Lib.hid (show Ext X y0 from Ext.trans E0.out hb)
      clear hb p0 p1 p2 p3 p4
      obtain ⟨p0,p1,p2,p3,p4⟩:=HC.out y0 E1.out
      go_wp2_with fail
      refine (Q4.out y0 E1.out).mono ?_
      rintro e y1 ⟨rfl,hb⟩
      have E2:=Lib.hid (show Ext X y1 from Ext.trans E1.out hb)
      clear hb p0 p1 p2 p3 p4
      obtain ⟨p0,p1,p2,p3,p4⟩:=HC.out y1 E2.out
      go_wp2_with fail
      refine (Q5.out y1 E2.out).mono ?_
      rintro e y2 ⟨rfl,hb⟩
      have E3:=Lib.hid (show Ext X y2 from Ext.trans E2.out hb)
      clear hb p0 p1 p2 p3 p4
      obtain ⟨p0,p1,p2,p3,p4⟩:=HC.out y2 E3.out
      go_wp2_with fail
      refine (Q6.out y2 E3.out).mono ?_
      rintro e y3 ⟨rfl,rfl⟩
      go_wp2_with fail
      go_ret
      exact ⟨by rw [←HQ.out];rfl,Ext.trans HX.out E3.out⟩
end Go.Proofs.YtnghanpmmbcbbaaGreatDoor
