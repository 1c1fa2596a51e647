/-
  NmLabel.
  TtText.
  TtWrite.
 NmRefLabel.
 TrDec.
 TrText.
 TrWrite.
 TtGoal.
 TrGoal.
 SrWrite.
-/
import Derived.Test.YtnghanpmmbcbbaaGreatDoorMq12
import Derived.Test.YtnghanpmmbcbbaaGreatDoorShelf
import Derived.Test.YtnghanpmmbcbbaaGreatDoorMq4
import Derived.Lib.AtoiErrMem
import Derived.Lib.ItoaMem
import Derived.Test.YtnghanpmmbcbbaaGreatDoorMq5
import Derived.Test.YtnghanpmmbcbbaaGreatDoorMq2
import Derived.Test.YtnghanpmmbcbbaaGreatDoorMq6
import Derived.Deep.AppendLies
import Derived.Laws.MakeOwn
import Derived.Deep.RegionHeld3
import Derived.BigRegion
import Derived.IntWalk
import Derived.Test.YtnghanpmmbcbbaaGreatDoorMq3
import Derived.Test.YtnghanpmmbcbbaaGreatDoorMq8
import Derived.Test.YtnghanpmmbcbbaaGreatDoorMq7
namespace Go.Proofs.YtnghanpmmbcbbaaGreatDoor
open Go.RowKit
theorem below_grow (w:World) (k:Nat) (os:Array Obj):Below w.heap.size w (Sort.grow (w.drewN k) os):=by
 refine ⟨rfl,rfl,rfl,?_,fun j hj=>?_⟩
 ·show w.heap.size≤(w.heap++os).size
  rw [Array.size_append]
  omega
 ·show (w.heap++os)[j]?=_
  rw [Array.getElem?_append_left hj]
theorem itoa_at (n:Nat) (w:World) (hn:n≤1048576) (hL:Laid w) :
  Calls Tryz.prog 88 #[.int .i64 (n:Int)] w fun e w'=>e=.returned (.string ⟨(Lib.decDigits n).toArray⟩)∧Below w.heap.size w w':=by
 refine (Tryz.strconv_Itoa (n:Int) (by omega) (by omega) w hL.tab).mono ?_
 rintro e w' ⟨rfl,k,os,rfl⟩
 rw [Lib.itoa_nonneg]
 exact ⟨rfl,below_grow _ _ _⟩
def Fails (w:World) (e:Ending) (w':World):Prop:=∃(x:Int) (p:Value),e=.returned (.tuple #[.int .i64 x,.iface 245 p])∧Below w.heap.size w w'
theorem append_str (l m:List UInt8):(⟨l.toArray⟩:ByteArray)++⟨m.toArray⟩=⟨(l++m).toArray⟩:=by
 apply WideShapes.bytes_inj
 simp
theorem ret_str {a b:ByteArray} (h:a=b):Ending.returned (.string a)=.returned (.string b):=by rw [h]
theorem label_in (n:Nat) (w:World) (hn:n≤1048576) (hL:Laid w) :
  Calls Tryz.prog 166 #[.int .i64 (n:Int)] w fun e w'=>e=.returned (.string ⟨(label n).toArray⟩)∧Below w.heap.size w w':=by
 have h1:decide ((n:Int) < 0)=false:=by simp
 have h2:decide ((1048576:Int) < (n:Int))=false:=by simp;omega
 have HI:=Lib.hid (itoa_at n w hn hL)
 have h3:¬9223372036854775807 < 1+(Lib.decDigits n).length:=by have:=dec_len7 hn;omega
 clear hn hL
 go_enter Tryz.func166,Tryz.ntmps166
 go_wp2_with (go_at_call 88;refine HI.out.mono ?_;rintro e w' ⟨rfl,hb⟩)
 go_ret
 exact ⟨ret_str (append_str [86] _),hb⟩
theorem str_full {x:ByteArray} (h:x.data.toList≠[]):x.toList.isEmpty=false:=by
 rw [raw_list]
 simpa using h
end Go.Proofs.YtnghanpmmbcbbaaGreatDoor
namespace Go.Proofs.YtnghanpmmbcbbaaGreatDoor
open Go.RowKit
theorem itoa_any (n:Int) (w:World) (h1 : -2147483648≤n) (h2:n≤2147483648) (hL:Laid w) :
  Calls Tryz.prog 88 #[.int .i64 n] w fun e w'=>e=.returned (.string ⟨(Lib.itoa n).toArray⟩)∧Below w.heap.size w w':=by
 refine (Tryz.strconv_Itoa n (by omega) (by omega) w hL.tab).mono ?_
 rintro e w' ⟨rfl,k,os,rfl⟩
 exact ⟨rfl,below_grow _ _ _⟩
theorem strength_at (t:Tm) (w:World):Calls Tryz.prog 170 #[t.val] w fun e w'=>e=.returned (.int .i64 (t.pw:Int))∧Below w.heap.size w w':=by
 obtain ⟨k,n,s,A,c,a⟩:=t
 have Q:=Lib.hid (fun W=>ostr_at s W (n:=ostr s.data.toList) rfl)
 show Calls Tryz.prog 170 #[.agg #[.int .i64 k,.int .i64 n,.string s,.slice A a.length c]] w fun e w'=>e=.returned (.int .i64 (ostr s.data.toList:Int))∧Below w.heap.size w w'
 go_enter Tryz.func170,Tryz.ntmps170
 go_wp2_with fail
 refine (Q.out _).mono ?_
 rintro e w' ⟨rfl,rfl⟩
 go_wp2_with fail
 go_ret
 exact ⟨rfl,(Below.refl _ _).alloc (Nat.le_refl _) _⟩
theorem between_at (x y z:List UInt8) (w:World) (hx:x.length≤1000000000) (hy:y.length≤1000000000) (hz:z.length≤1000000000) :
  Calls Tryz.prog 134 #[.string ⟨x.toArray⟩,.string ⟨y.toArray⟩,.string ⟨z.toArray⟩] w fun e w'=>e=.returned (.string ⟨(topT y x z).toArray⟩)∧w=w':=by
 have h1:¬9223372036854775807 < x.length+1:=by omega
 have h2:¬9223372036854775807 < x.length+1+y.length:=by omega
 have h3:¬9223372036854775807 < x.length+1+y.length+1:=by omega
 have h4:¬9223372036854775807 < x.length+1+y.length+1+z.length:=by omega
 clear hx hy hz
 go_enter Tryz.func134,Tryz.ntmps134
 go_wp2_with fail
 go_ret
 refine ⟨ret_str ?_,rfl⟩
 apply WideShapes.bytes_inj
 simp [topT]
def TextAt (t:Tm):Prop:=∀w,t.At w→t.form=true→t.size≤1000000→Laid w →
 Calls Tryz.prog 135 #[t.val] w fun e w'=>e=.returned (.string (S (t.txt plain)))∧Below w.heap.size w w'
theorem txt_bound {t:Tm} (hf:t.form=true) (hz:t.size≤1000000):(t.txt plain).length≤51000000:=by have:=(txt_len slim_plain).1 t hf;omega
theorem toperand_at (t:Tm) (hT:TextAt t) (b:Bool) (w:World) (ht:t.At w) (hf:t.form=true) (hz:t.size≤1000000) (hL:Laid w) :
  Calls Tryz.prog 169 #[t.val,.bool b] w fun e w'=>e=.returned (.string (S (paren plain b (t.txt plain))))∧Below w.heap.size w w':=by
 have hb:=txt_bound hf hz
 have Q:=Lib.hid (fun W (h:Below w.heap.size w W)=>hT W (ht.below h) hf hz (hL.below h))
 obtain ⟨x,hx⟩:∃x,t.txt plain=x:=⟨_,rfl⟩
 rw [hx] at Q hb ⊢
 have h1:¬9223372036854775807 < 1+x.length:=by omega
 have h2:¬9223372036854775807 < 1+x.length+1:=by omega
 clear hT ht hf hz hL hx hb
 obtain ⟨k,n,s,A,c,a⟩:=t
 show Calls Tryz.prog 169 #[.agg #[.int .i64 k,.int .i64 n,.string s,.slice A a.length c],.bool b] w _
 cases b
 ·go_enter Tryz.func169,Tryz.ntmps169
  go_wp2_with fail
  refine (Q.out _ ((Below.refl _ _).alloc (Nat.le_refl _) _)).mono ?_
  rintro e w1 ⟨rfl,hb⟩
  have HB:=Lib.hid (((Below.refl w.heap.size w).alloc (Nat.le_refl _) (.cells #[.int .i64 k,.int .i64 n,.string s,.slice A a.length c] 69)).trans (hb.mono (by simp)))
  clear hb
  go_wp2_with fail
  go_ret
  exact ⟨rfl,HB.out⟩
 ·go_enter Tryz.func169,Tryz.ntmps169
  go_wp2_with fail
  refine (Q.out _ ((Below.refl _ _).alloc (Nat.le_refl _) _)).mono ?_
  rintro e w1 ⟨rfl,hb⟩
  have HB:=Lib.hid (((Below.refl w.heap.size w).alloc (Nat.le_refl _) (.cells #[.int .i64 k,.int .i64 n,.string s,.slice A a.length c] 69)).trans (hb.mono (by simp)))
  clear hb
  go_wp2_with fail
  go_ret
  refine ⟨ret_str ?_,HB.out⟩
  apply WideShapes.bytes_inj
  simp [paren,Sty.lp,Sty.rp,plain,sp]
theorem str_info:(Tryz.prog.info? 9).map (fun i=>(i.zero,i.size,i.bytes))=some (some (.string ⟨#[]⟩),1,16):=by kernel_rfl
def scells (l:List (List UInt8)):List Value:=l.map fun x=>.string (S x)
theorem scells_append (l m:List (List UInt8)):scells (l++m)=scells l++scells m:=by simp [scells]
def Texts (w:World) (l:List Tm) (j:Nat) (z:Value) (wr:World):Prop:=wr.ownsRow w.heap.size 9 1 z j (scells (txtL plain (l.take j)))∧Below w.heap.size w wr
theorem own_lt' {w:World} {base:Nat} {e:TypeId} {size:Nat} {v:Value} {n:Nat} {xs:List Value} (h:w.ownsRow base e size v n xs):∀k,v.ownBlock=some k→base≤k∧k < w.heap.size:=by
 intro k hk
 rcases h.2 with ⟨rfl,_⟩|⟨g,cap,cur,rfl,hb,hg,_⟩
 ·simp [Value.ownBlock] at hk
 ·simp only [Value.ownBlock,Option.some.injEq] at hk
  subst hk
  refine ⟨hb,?_⟩
  rcases Nat.lt_or_ge g w.heap.size with h|h
  ·exact h
  ·rw [Array.getElem?_eq_none h] at hg;cases hg
set_option maxHeartbeats 2000000 in
set_option maxRecDepth 10000 in
theorem tcall_at (s:ByteArray) (l:List Tm) (ih:∀x∈l,TextAt x) (A:Option Addr) (c:Nat) (w:World) (hl:Lst w A l c) (hf:formL l=true) (hz:sizeL l≤1000000) (hs:s.size≤1000000) (hlen:l.length≤1000000) (hL:Laid w) :
  Calls Tryz.prog 133 #[.string s,.slice A l.length c] w fun e w'=>e=.returned (.string (S (callT plain s.data.toList (txtL plain l))))∧Below w.heap.size w w':=by
 rcases hcase:l with _|⟨x0,r0⟩
 ·go_enter Tryz.func133,Tryz.ntmps133
  go_wp2_with fail
  go_ret
  exact ⟨rfl,Below.refl _ _⟩
 rw [←hcase]
 have h0:0 < l.length:=by rw [hcase];simp
 obtain ⟨b,o,rfl,hrow⟩:=hl.2.2 h0
 obtain ⟨i0,hi,hz0,hz1,hz2⟩:=info_parts str_info
 obtain ⟨w0,hmk,hown,hg⟩:=run_make_own (P:=Tryz.prog) w w.heap.size 55 9 i0 _ 1 Tryz.underlying55 hi hz0 hz1 .i64 .i64 l.length (by rw [hz2];omega) (by unfold maxLen;omega) (Nat.le_refl _)
 have hll:l.length≤9223372036854775807:=by omega
 have Q:=Lib.hid ih
 have HRow:=Lib.hid hrow
 have HF:=Lib.hid hf
 have HZ:=Lib.hid hz
 have HLd:=Lib.hid hL
 have HC:=Lib.hid hcase
 have HT0:=Lib.hid (show Texts w l 0 (.slice (some ⟨w.heap.size,0,none⟩) 0 l.length) w0 from ⟨hown,(Below.refl _ _).grown hg (Nat.le_refl _) (fun k h=>by cases h)⟩)
 have hne:(((l.length:Nat):Int)==0)=false:=by rw [beq_eq_false_iff_ne];omega
 clear hown hg ih hrow hf hz hL hcase hl
 go_enter Tryz.func133,Tryz.ntmps133
 go_wp2_with fail
 go_loopw [5,17] (fun z i wr=>∃(j:Nat) (x:Value),j≤l.length∧i=.int .i64 j∧z=x∧Hid (Texts w l j x wr)) (fun _ i _=>l.length - (intOf i).toNat)
 case atStart=>exact ⟨0,_,Nat.zero_le _,rfl,rfl,HT0⟩
 case round =>
  clear HT0 hmk
  obtain ⟨j,z,hj,rfl,hzx,hI⟩:=hrel
  have hzx':=hzx.symm
  clear hzx
  subst hzx'
  by_cases hlt:j < l.length
  ·have hmem:=getD_mem hlt
   obtain ⟨x,hx⟩:∃x,l.getD j default=x:=⟨_,rfl⟩
   have hr:=(((At_keep hI.out.2).2 _ _ _ HRow.out)).get hlt
   rw [hx] at hr hmem
   obtain ⟨⟨r0,r1,r2,r3⟩,hat⟩:=hr
   have hfx:=formL_mem hmem HF.out
   have hzx:=size_mem hmem
   have Q1:=Lib.hid (fun W (h:Below wr.heap.size wr W)=>Q.out x hmem W (hat.below h) hfx (by have:=HZ.out;omega) (HLd.out.below (hI.out.2.trans (h.mono hI.out.2.size))))
   have HX:=Lib.hid hx
   have hbd:=txt_bound hfx (by have:=HZ.out;omega)
   obtain ⟨y,hy⟩:∃y,x.txt plain=y:=⟨_,rfl⟩
   rw [hy] at Q1 hbd
   have HY:=Lib.hid hy
   clear hat hfx hzx hmem hx hy
   obtain ⟨k,n,s',A',c',a⟩:=x
   simp only [Tm.kind,Tm.num,Tm.name,Tm.at_,Tm.args,Tm.cap] at r0 r1 r2 r3
   go_wp2_with fail
   refine (Q1.out _ ((Below.refl _ _).alloc (Nat.le_refl _) _)).mono ?_
   rintro e w2 ⟨rfl,hb2⟩
   have hb3:Below wr.heap.size wr w2:=((Below.refl wr.heap.size wr).alloc (Nat.le_refl _) (.cells #[.int .i64 k,.int .i64 n,.string s',.slice A' a.length c'] 69)).trans (hb2.mono (by simp))
   have HOwn:=Lib.hid (own_below hI.out.1 hb3)
   have HB3:=Lib.hid (hI.out.2.trans (hb3.mono hI.out.2.size))
   have hsz:w.heap.size≤w2.heap.size:=HB3.out.size
   clear hb2 hb3 r0 r1 r2 r3
   go_wp2_with (at_builtin;refine wpList_append_lies _ rfl _ _ 55 rfl w.heap.size 9 i0 _ 1 16 Tryz.underlying55 hi hz0 hz1 hz2 rfl (by decide) z j _ rfl (HOwn.out.alloc _) ⟨w2.heap.size,0,none⟩ 1 1 [.string (S y)] rfl rfl (World.news_of_block (cs:=#[.string (S y)]) (t:=9) (fr:=(0,0)) (heap_alloc_new w2 _)) (by simp [Value.oneCell']) (by decide) (by unfold maxLen;omega) (by omega) (by simp;omega) _ rfl ?_;intro g cap w4 hown hg hat hglt)
   have HN:=Lib.hid (show Texts w l (j+1) (.slice (some ⟨g,0,none⟩) (j+1) cap) w4 from ⟨by
    rw [ttake_next hlt,HX.out,txtL_append,scells_append]
    simpa [txtL,scells,HY.out] using hown,(HB3.out.alloc hsz _).grown hg (by simp;omega) (fun k h=>(own_lt' HOwn.out k h).1)⟩)
   clear hown hg hat hglt
   go_wp2_with fail
   go_roundw
   case rel=>exact ⟨j+1,_,by omega,by go_num,rfl,HN⟩
   case measure=>simp [intOf];omega
  ·obtain rfl:j=l.length:=by omega
   clear hlt
   have hown:=hI.out.1
   rw [List.take_of_length_le (Nat.le_refl _)] at hown
   have hcl:((txtL plain l).map S).length=l.length:=by rw [List.length_map,txtL_len]
   rcases hown.2 with ⟨_,h⟩|⟨g,cap,cur,rfl,hb,hg,hle,hcap,_⟩
   ·omega
   have hcells:∀(j:Nat) x,((txtL plain l).map S)[j]?=some x→wr.cell? ⟨g,0+j,none⟩=some (.string x):=fun j x hx=>by
    have hj:j < l.length:=by
     have:=(List.getElem?_eq_some_iff.1 hx).1
     omega
    have:=World.ownsRow.cellAt hown j (by rw [Nat.mul_one];exact hj)
    rw [Nat.zero_add,this]
    simp only [scells,List.getElem?_map] at hx ⊢
    obtain ⟨y,hy,rfl⟩:=Option.map_eq_some_iff.1 hx
    rw [hy];rfl
   have hmap:((txtL plain l).map S).map (fun x=>x.data.toList)=txtL plain l:=by
    rw [List.map_map]
    conv=>rhs;rw [←List.map_id (txtL plain l)]
    rfl
   have hjoin:Lib.join (((txtL plain l).map S).map (fun x=>x.data.toList)) [44,32]=tjoinT (txtL plain l):=by
    rw [hmap,HC.out]
    simp only [txtL,tjoinT]
    exact join_txt _ _
   have hlen2:(tjoinT (txtL plain l)).length≤60000000:=by
    have h1:=call_len slim_plain s.data.toList (txtL plain l)
    have h2:=(txt_len slim_plain).2 l HF.out
    have h3:=HZ.out
    rw [len_str] at h1
    rw [HC.out] at h1 ⊢
    rw [HC.out] at h2
    simp only [txtL,plain_call,tjoinT,List.length_append,List.length_cons,List.length_nil] at h1 h2 ⊢
    rw [len_str] at h1
    rw [HC.out] at h3
    omega
   have hlt2:g < wr.heap.size:=(own_lt' hown g rfl).2
   have QJ:=Tryz.strings_Join g 0 cap ((txtL plain l).map S) ⟨#[44,32]⟩ wr hcells hlt2 (by rw [hcl];omega) (by rw [hcl];exact hle) (by
    show (Lib.join (((txtL plain l).map S).map (fun x=>x.data.toList)) [44,32]).length≤_
    rw [hjoin];omega)
   have hre:(Lib.join (((txtL plain l).map S).map (fun x=>x.data.toList)) (⟨#[44,32]⟩:ByteArray).data.toList)=tjoinT (txtL plain l):=hjoin
   rw [hre,hcl] at QJ
   have HJ:=Lib.hid QJ
   have HB:=Lib.hid hI.out.2
   have HV:=Lib.hid (show callT plain s.data.toList (txtL plain l)=s.data.toList++[40]++tjoinT (txtL plain l)++[41] by
    rw [HC.out];simp only [txtL,plain_call,tjoinT])
   obtain ⟨J,hJ⟩:∃J,tjoinT (txtL plain l)=J:=⟨_,rfl⟩
   rw [hJ] at HJ HV hlen2
   have s1:¬9223372036854775807 < s.size+1:=by omega
   have s2:¬9223372036854775807 < s.size+1+J.length:=by omega
   have s3:¬9223372036854775807 < s.size+1+J.length+1:=by omega
   clear hown hcl hcells hmap hjoin hlen2 QJ hre hJ hI hg hle hcap
   go_wp2_with fail
   refine HJ.out.mono ?_
   rintro e w5 ⟨rfl,hb5⟩
   have HB5:=Lib.hid (HB.out.trans (hb5.mono HB.out.size))
   clear hb5
   go_wp2_with fail
   go_ret
   refine ⟨ret_str ?_,HB5.out⟩
   apply WideShapes.bytes_inj
   rw [show (S (callT plain s.data.toList (txtL plain l))).data.toList=callT plain s.data.toList (txtL plain l) from rfl,HV.out]
   simp
end Go.Proofs.YtnghanpmmbcbbaaGreatDoor
namespace Go.Proofs.YtnghanpmmbcbbaaGreatDoor
open Go.RowKit
theorem alloc_keep {w:World} {p:Addr} {v:Value} (h:w.cell? p=some v):∀o,(w.alloc o).cell? p=some v:=fun o=>by
 rw [(below1 w o).cell (World.block_lt_of_cell? w _ h)];exact h
theorem three (w:World) (c1 c2 c3:Array Value) (T:TypeId) :
  (∀j v,c1[j]?=some v→((((w.alloc (.cells c1 T)).alloc (.cells c2 T)).alloc (.cells c3 T)).drew).cell? ⟨w.heap.size,j,none⟩=some v) ∧
  (∀j v,c2[j]?=some v→((((w.alloc (.cells c1 T)).alloc (.cells c2 T)).alloc (.cells c3 T)).drew).cell? ⟨w.heap.size+1,j,none⟩=some v) ∧
  (∀j v,c3[j]?=some v→((((w.alloc (.cells c1 T)).alloc (.cells c2 T)).alloc (.cells c3 T)).drew).cell? ⟨w.heap.size+1+1,j,none⟩=some v) ∧
  Below w.heap.size w (((w.alloc (.cells c1 T)).alloc (.cells c2 T)).alloc (.cells c3 T)).drew:=by
 refine ⟨fun j v h=>?_,fun j v h=>?_,fun j v h=>?_,((((Below.refl _ _).alloc (Nat.le_refl _) _).alloc (by simp) _).alloc (by simp;omega) _).drew⟩
 ·exact alloc_keep (alloc_keep (by rw [World.cell?_alloc_at _ _ _ _ rfl,h]) _) _
 ·exact alloc_keep (by rw [World.cell?_alloc_at _ _ _ _ (by simp),h]) _
 ·show World.cell? _ _=_
  exact (World.cell?_alloc_at _ _ _ _ (by simp)).trans h
set_option maxHeartbeats 4000000 in
set_option maxRecDepth 10000 in
theorem text_op (n:Int) (o:UInt8) (A:Option Addr) (c:Nat) (x y:Tm) (hx:TextAt x) (hy:TextAt y) (hop:opB [o]=true) (w:World) (hat:(Tm.mk 2 n ⟨#[o]⟩ A c [x,y]).At w) (hfx:x.form=true) (hfy:y.form=true) (hz:x.size+y.size≤1000000) (hL:Laid w) :
  Calls Tryz.prog 135 #[(Tm.mk 2 n ⟨#[o]⟩ A c [x,y]).val] w fun e w'=>e=.returned (.string (S ((Tm.mk 2 n ⟨#[o]⟩ A c [x,y]).txt plain)))∧Below w.heap.size w w':=by
 have HV:=Lib.hid (show (Tm.mk 2 n ⟨#[o]⟩ A c [x,y]).txt plain=topT [o] (paren plain (decide (x.pw < ostr [o])) (x.txt plain)) (paren plain (decide (y.pw≤ostr [o])) (y.txt plain)) by
  simp only [Tm.txt,show ¬((2:Int)=0) by omega,show ¬((2:Int)=1) by omega,if_false,txtL]
  rw [if_pos (by simpa using hop)]
  rfl)
 obtain ⟨b,q,rfl,hrow⟩:=hat.lst.2.2 (by simp [Tm.args])
 obtain ⟨⟨x0,x1,x2,x3⟩,hxa,⟨y0,y1,y2,y3⟩,hya,-⟩:=hrow
 have b1:=paren_len slim_plain (decide (x.pw < ostr [o])) (x.txt plain)
 have b2:=paren_len slim_plain (decide (y.pw≤ostr [o])) (y.txt plain)
 have b3:=txt_bound hfx (by omega)
 have b4:=txt_bound hfy (by omega)
 have Q1:=Lib.hid (fun W (h:Below w.heap.size w W)=>op_at ⟨#[o]⟩ W (r:=true) hop)
 have Q2:=Lib.hid (fun W=>ostr_at ⟨#[o]⟩ W (n:=ostr [o]) rfl)
 have Q3:=Lib.hid (fun W (h:Below w.heap.size w W)=>toperand_at x hx (decide (x.pw < ostr [o])) W (hxa.below h) hfx (by omega) (hL.below h))
 have Q4:=Lib.hid (fun W (h:Below w.heap.size w W)=>toperand_at y hy (decide (y.pw≤ostr [o])) W (hya.below h) hfy (by omega) (hL.below h))
 have Q5:=Lib.hid (fun W=>strength_at x W)
 have Q6:=Lib.hid (fun W=>strength_at y W)
 obtain ⟨X,hX⟩:∃X,paren plain (decide (x.pw < ostr [o])) (x.txt plain)=X:=⟨_,rfl⟩
 obtain ⟨Y,hY⟩:∃Y,paren plain (decide (y.pw≤ostr [o])) (y.txt plain)=Y:=⟨_,rfl⟩
 rw [hX] at b1 Q3 HV
 rw [hY] at b2 Q4 HV
 have Q7:=Lib.hid (fun W=>between_at X [o] Y W (by omega) (by simp) (by omega))
 clear hX hY b1 b2 b3 b4 hx hy hxa hya hat hfx hfy hz hL hop
 obtain ⟨px,hpx⟩:∃p,x.pw=p:=⟨_,rfl⟩
 obtain ⟨py,hpy⟩:∃p,y.pw=p:=⟨_,rfl⟩
 obtain ⟨po,hpo⟩:∃p,ostr [o]=p:=⟨_,rfl⟩
 rw [hpx] at Q5 Q3
 rw [hpy] at Q6 Q4
 rw [hpo] at Q2 Q3 Q4
 clear hpx hpy hpo
 obtain ⟨k1,n1,s1,A1,p1,a1⟩:=x
 obtain ⟨k2,n2,s2,A2,p2,a2⟩:=y
 simp only [Tm.kind,Tm.num,Tm.name,Tm.at_,Tm.args,Tm.cap] at x0 x1 x2 x3 y0 y1 y2 y3
 have Q5:=Lib.hid (show ∀W,Calls Tryz.prog 170 #[.agg #[.int .i64 k1,.int .i64 n1,.string s1,.slice A1 a1.length p1]] W fun e w'=>e=.returned (.int .i64 (px:Int))∧Below W.heap.size W w' from Q5.out)
 have Q6:=Lib.hid (show ∀W,Calls Tryz.prog 170 #[.agg #[.int .i64 k2,.int .i64 n2,.string s2,.slice A2 a2.length p2]] W fun e w'=>e=.returned (.int .i64 (py:Int))∧Below W.heap.size W w' from Q6.out)
 have Q3:=Lib.hid (show ∀W,Below w.heap.size w W→Calls Tryz.prog 169 #[.agg #[.int .i64 k1,.int .i64 n1,.string s1,.slice A1 a1.length p1],.bool (decide (px < po))] W fun e w'=>e=.returned (.string (S X))∧Below W.heap.size W w' from Q3.out)
 have Q4:=Lib.hid (show ∀W,Below w.heap.size w W→Calls Tryz.prog 169 #[.agg #[.int .i64 k2,.int .i64 n2,.string s2,.slice A2 a2.length p2],.bool (decide (py≤po))] W fun e w'=>e=.returned (.string (S Y))∧Below W.heap.size W w' from Q4.out)
 have kx0:=alloc_keep x0
 have kx1:=alloc_keep x1
 have kx2:=alloc_keep x2
 have kx3:=alloc_keep x3
 have ky0:=alloc_keep y0
 have ky1:=alloc_keep y1
 have ky2:=alloc_keep y2
 have ky3:=alloc_keep y3
 show Calls Tryz.prog 135 #[.agg #[.int .i64 2,.int .i64 n,.string ⟨#[o]⟩,.slice (some ⟨b,q,none⟩) 2 c]] w _
 go_enter Tryz.func135,Tryz.ntmps135
 go_wp2_with fail
 refine (Q1.out _ ((Below.refl _ _).alloc (Nat.le_refl _) _)).mono ?_
 rintro e w' ⟨rfl,rfl⟩
 go_wp2_with fail
 refine (Q2.out _).mono ?_
 rintro e w' ⟨rfl,rfl⟩
 go_wp2_with fail
 have lx0:=fun o=>alloc_keep (kx0 o)
 have mx0:=fun o o2=>alloc_keep (lx0 o o2)
 have lx1:=fun o=>alloc_keep (kx1 o)
 have mx1:=fun o o2=>alloc_keep (lx1 o o2)
 have lx2:=fun o=>alloc_keep (kx2 o)
 have mx2:=fun o o2=>alloc_keep (lx2 o o2)
 have lx3:=fun o=>alloc_keep (kx3 o)
 have mx3:=fun o o2=>alloc_keep (lx3 o o2)
 have ly0:=fun o=>alloc_keep (ky0 o)
 have my0:=fun o o2=>alloc_keep (ly0 o o2)
 have ly1:=fun o=>alloc_keep (ky1 o)
 have my1:=fun o o2=>alloc_keep (ly1 o o2)
 have ly2:=fun o=>alloc_keep (ky2 o)
 have my2:=fun o o2=>alloc_keep (ly2 o o2)
 have ly3:=fun o=>alloc_keep (ky3 o)
 have my3:=fun o o2=>alloc_keep (ly3 o o2)
 go_region
 ·obtain ⟨u1,u2,u3,hbel⟩:=three w #[.int .i64 2,.int .i64 n,.string ⟨#[o]⟩,.slice (some ⟨b,q,none⟩) 2 c] #[.int .i64 k1,.int .i64 n1,.string s1,.slice A1 a1.length p1] #[.int .i64 k2,.int .i64 n2,.string s2,.slice A2 a2.length p2] 69
  have kt:=cell_regrown (u1 2 _ rfl)
  have kx0':=cell_regrown (u2 0 _ rfl)
  have ky0':=cell_regrown (u3 0 _ rfl)
  have kx1':=cell_regrown (u2 1 _ rfl)
  have ky1':=cell_regrown (u3 1 _ rfl)
  have kx2':=cell_regrown (u2 2 _ rfl)
  have ky2':=cell_regrown (u3 2 _ rfl)
  have kx3':=cell_regrown (u2 3 _ rfl)
  have ky3':=cell_regrown (u3 3 _ rfl)
  have HBel:=Lib.hid hbel
  clear u1 u2 u3 hbel
  go_wp2_with fail
  refine wp_region_quiet_below (by kernel_rfl) (by kernel_rfl) ?_
  repeat (go_big_quiet_step (first|(go_at_call 170;first|(with_reducible exact Calls.regrown_of (Q5.out _))|(with_reducible exact Calls.regrown_of (Q6.out _)))|(go_at_call 169;first|(with_reducible exact Calls.regrown_of (Q3.out _ (HBel.out.trans ((below_regrown _ _ _).mono HBel.out.size))))|(with_reducible exact Calls.regrown_of (Q4.out _ (HBel.out.trans ((below_regrown _ _ _).mono HBel.out.size)))))|(go_at_call 134;exact Calls.regrown_of (withBelow (Q7.out _)))))
  refine wpQuiet_nil ?_
  intro w9 hw'
  have hb9:=HBel.out.trans ((regrown_below hw').mono HBel.out.size)
  go_wp2_with fail
  go_ret
  exact ⟨ret_str (by rw [HV.out]),hb9⟩
 ·obtain ⟨u1,u2,u3,hbel⟩:=three w #[.int .i64 2,.int .i64 n,.string ⟨#[o]⟩,.slice (some ⟨b,q,none⟩) 2 c] #[.int .i64 k2,.int .i64 n2,.string s2,.slice A2 a2.length p2] #[.int .i64 k1,.int .i64 n1,.string s1,.slice A1 a1.length p1] 69
  have kt:=cell_regrown (u1 2 _ rfl)
  have kx0':=cell_regrown (u3 0 _ rfl)
  have ky0':=cell_regrown (u2 0 _ rfl)
  have kx1':=cell_regrown (u3 1 _ rfl)
  have ky1':=cell_regrown (u2 1 _ rfl)
  have kx2':=cell_regrown (u3 2 _ rfl)
  have ky2':=cell_regrown (u2 2 _ rfl)
  have kx3':=cell_regrown (u3 3 _ rfl)
  have ky3':=cell_regrown (u2 3 _ rfl)
  have HBel:=Lib.hid hbel
  clear u1 u2 u3 hbel
  go_wp2_with fail
  refine wp_region_quiet_below (by kernel_rfl) (by kernel_rfl) ?_
  repeat (go_big_quiet_step (first|(go_at_call 170;first|(with_reducible exact Calls.regrown_of (Q5.out _))|(with_reducible exact Calls.regrown_of (Q6.out _)))|(go_at_call 169;first|(with_reducible exact Calls.regrown_of (Q3.out _ (HBel.out.trans ((below_regrown _ _ _).mono HBel.out.size))))|(with_reducible exact Calls.regrown_of (Q4.out _ (HBel.out.trans ((below_regrown _ _ _).mono HBel.out.size)))))|(go_at_call 134;exact Calls.regrown_of (withBelow (Q7.out _)))))
  refine wpQuiet_nil ?_
  intro w9 hw'
  have hb9:=HBel.out.trans ((regrown_below hw').mono HBel.out.size)
  go_wp2_with fail
  go_ret
  exact ⟨ret_str (by rw [HV.out]),hb9⟩
set_option maxHeartbeats 2000000 in
set_option maxRecDepth 10000 in
theorem text_call (n:Int) (s:ByteArray) (A:Option Addr) (c:Nat) (l:List Tm) (ih:∀x∈l,TextAt x) (hop:opB s.data.toList=false) (w:World) (hat:(Tm.mk 2 n s A c l).At w) (hf:formL l=true) (hz:sizeL l≤1000000) (hs:s.size≤1000000) (hlen:l.length≤1000000) (hL:Laid w) :
  Calls Tryz.prog 135 #[(Tm.mk 2 n s A c l).val] w fun e w'=>e=.returned (.string (S ((Tm.mk 2 n s A c l).txt plain)))∧Below w.heap.size w w':=by
 have HV:=Lib.hid (show (Tm.mk 2 n s A c l).txt plain=callT plain s.data.toList (txtL plain l) by
  simp only [Tm.txt,show ¬((2:Int)=0) by omega,show ¬((2:Int)=1) by omega,if_false]
  rw [if_neg (by rw [hop];simp)])
 have Q1:=Lib.hid (fun W (h:Below w.heap.size w W)=>op_at s W (r:=false) hop)
 have Q2:=Lib.hid (fun W (h:Below w.heap.size w W)=>tcall_at s l ih A c W (hat.lst.below h) hf hz hs hlen (hL.below h))
 clear ih hop hat hf hz hs hlen hL
 show Calls Tryz.prog 135 #[.agg #[.int .i64 2,.int .i64 n,.string s,.slice A l.length c]] w _
 go_enter Tryz.func135,Tryz.ntmps135
 go_wp2_with fail
 refine (Q1.out _ ((Below.refl _ _).alloc (Nat.le_refl _) _)).mono ?_
 rintro e w' ⟨rfl,rfl⟩
 go_wp2_with fail
 refine (Q2.out _ ((Below.refl _ _).alloc (Nat.le_refl _) _)).mono ?_
 rintro e w1 ⟨rfl,hb⟩
 have HB:=Lib.hid (((Below.refl w.heap.size w).alloc (Nat.le_refl _) (.cells #[.int .i64 2,.int .i64 n,.string s,.slice A l.length c] 69)).trans (hb.mono (by simp)))
 clear hb
 go_wp2_with fail
 go_ret
 exact ⟨ret_str (by rw [HV.out]),HB.out⟩
set_option maxHeartbeats 2000000 in
theorem text_int (n:Int) (s:ByteArray) (A:Option Addr) (c:Nat) (l:List Tm) (h1 : -2147483648≤n) (h2:n≤2147483648) (w:World) (hL:Laid w) :
  Calls Tryz.prog 135 #[(Tm.mk 0 n s A c l).val] w fun e w'=>e=.returned (.string (S (Lib.itoa n)))∧Below w.heap.size w w':=by
 have Q:=Lib.hid (fun W (h:Below w.heap.size w W)=>itoa_any n W h1 h2 (hL.below h))
 clear h1 h2 hL
 show Calls Tryz.prog 135 #[.agg #[.int .i64 0,.int .i64 n,.string s,.slice A l.length c]] w _
 go_enter Tryz.func135,Tryz.ntmps135
 go_wp2_with fail
 refine (Q.out _ ((Below.refl _ _).alloc (Nat.le_refl _) _)).mono ?_
 rintro e w1 ⟨rfl,hb⟩
 have HB:=Lib.hid (((Below.refl w.heap.size w).alloc (Nat.le_refl _) (.cells #[.int .i64 0,.int .i64 n,.string s,.slice A l.length c] 69)).trans (hb.mono (by simp)))
 clear hb
 go_wp2_with fail
 go_ret
 exact ⟨rfl,HB.out⟩
set_option maxHeartbeats 2000000 in
theorem text_var (n:Nat) (s:ByteArray) (A:Option Addr) (c:Nat) (l:List Tm) (h1:n≤1048576) (w:World) (hL:Laid w) :
  Calls Tryz.prog 135 #[(Tm.mk 1 n s A c l).val] w fun e w'=>e=.returned (.string (S (label n)))∧Below w.heap.size w w':=by
 have Q:=Lib.hid (fun W (h:Below w.heap.size w W)=>label_in n W h1 (hL.below h))
 clear h1 hL
 show Calls Tryz.prog 135 #[.agg #[.int .i64 1,.int .i64 n,.string s,.slice A l.length c]] w _
 go_enter Tryz.func135,Tryz.ntmps135
 go_wp2_with fail
 refine (Q.out _ ((Below.refl _ _).alloc (Nat.le_refl _) _)).mono ?_
 rintro e w1 ⟨rfl,hb⟩
 have HB:=Lib.hid (((Below.refl w.heap.size w).alloc (Nat.le_refl _) (.cells #[.int .i64 1,.int .i64 n,.string s,.slice A l.length c] 69)).trans (hb.mono (by simp)))
 clear hb
 go_wp2_with fail
 go_ret
 exact ⟨rfl,HB.out⟩
theorem text_at:∀t,TextAt t:=by
 refine Tm.induct fun k n s A c l ih=>?_
 intro w hat hf hz hL
 simp only [Tm.form] at hf
 by_cases hk0:k=0
 ·subst hk0
  simp only [if_true,Bool.and_eq_true,decide_eq_true_eq] at hf
  rw [show (Tm.mk 0 n s A c l).txt plain=Lib.itoa n by simp [Tm.txt]]
  exact text_int n s A c l hf.1 hf.2.1 w hL
 by_cases hk1:k=1
 ·subst hk1
  simp only [if_true,show ¬((1:Int)=0) by omega,if_false,Bool.and_eq_true,decide_eq_true_eq] at hf
  obtain ⟨m,rfl⟩:∃m:Nat,n=(m:Int):=⟨n.toNat,by omega⟩
  rw [show (Tm.mk 1 (m:Int) s A c l).txt plain=label m by simp [Tm.txt]]
  exact text_var m s A c l (by omega) w hL
 by_cases hk2:k=2
 ·subst hk2
  simp only [show ¬((2:Int)=0) by omega,show ¬((2:Int)=1) by omega,if_false,if_true,Bool.and_eq_true,Bool.or_eq_true,decide_eq_true_eq] at hf
  obtain ⟨_,hs,hfl⟩:=hf
  simp only [Tm.size,if_true] at hz
  by_cases ho:opB s.data.toList=true
  ·have ha2:l.length=2:=by
    rcases hs with hs|hs
    ·exact hs.2
    ·rw [(op_right ho).1] at hs;cases hs.1
   obtain ⟨x,y,rfl⟩:∃x y,l=[x,y]:=by
    match l,ha2 with
    | [x,y],_=>exact ⟨x,y,rfl⟩
   obtain ⟨o,hso,_⟩:=op_byte ho
   obtain rfl:s=⟨#[o]⟩:=by
    apply WideShapes.bytes_inj
    rw [hso]
   simp only [formL,Bool.and_eq_true] at hfl
   simp only [sizeL] at hz
   exact text_op n o A c x y (ih _ (by simp)) (ih _ (by simp)) ho w hat hfl.1 hfl.2.1 (by omega) hL
  ·have hn:opB s.data.toList=false:=by simpa using ho
   have hr:rightB s.data.toList=true∧l.length≤6:=by
    rcases hs with hs|hs
    ·rw [hn] at hs;cases hs.1
    ·exact hs
   have:=right_len hr.1
   rw [len_str] at this
   exact text_call n s A c l ih hn w hat hfl (by omega) (by omega) (by omega) hL
 ·simp [hk0,hk1,hk2] at hf
end Go.Proofs.YtnghanpmmbcbbaaGreatDoor
namespace Go.Proofs.YtnghanpmmbcbbaaGreatDoor
open Go.RowKit
theorem str_one (w:World) (X:Int) (x:UInt8) (h:X=(x.toNat:Int)) :
  (convert 87 9 (.slice (some ⟨w.heap.size,0,none⟩) 1 1)).run Tryz.prog (w.alloc (.cells #[.int .u8 X] 5))=.ok (.string ⟨#[x]⟩) (w.alloc (.cells #[.int .u8 X] 5)) :=
 (Lies.one w 5 h).str 1 Tryz.underlying87 Tryz.underlying5 Tryz.underlying9
set_option maxHeartbeats 1000000 in
theorem ref_decimal (n:Nat):∀(w:World),n≤1048576 →
  Calls Tryz.prog 54 #[.int .i64 (n:Int)] w fun e w'=>e=.returned (.string ⟨(Lib.decDigits n).toArray⟩)∧Below w.heap.size w w':=by
 induction n using Nat.strongRecOn with
 | _ n ih =>
  intro w hn
  have h0:decide ((n:Int) < 0)=false:=by simp
  obtain ⟨y,hy⟩:∃y:UInt8,y=UInt8.ofNat (48+n % 10):=⟨_,rfl⟩
  have hcv:=str_one w (48+(n:Int) % 10) y (by rw [hy,digit_nat (by omega)];omega)
  by_cases h:n < 10
  ·have h':(n:Int) < 10:=by omega
   have HV:=Lib.hid (show Lib.decDigits n=[y] by rw [dec_small h,hy,show n % 10=n by omega])
   clear ih h hn hy
   go_enter Tryz.func54,Tryz.ntmps54
   go_wp2_with fail
   go_ret
   exact ⟨ret_str (by rw [HV.out]),(Below.refl _ _).alloc (Nat.le_refl _) _⟩
  ·have h':decide ((n:Int) < 10)=false:=by simp;omega
   have HV:=dec_big h
   rw [←hy] at HV
   have hb:(n:Int)≤1048576:=by omega
   have IH:=fun w'=>ih (n / 10) (by omega) w' (by omega)
   have e:((n / 10:Nat):Int)=(n:Int) / 10:=by omega
   rw [e] at IH
   have hl:=dec_len7 (n:=n / 10) (by omega)
   obtain ⟨x,hx⟩:∃x:List UInt8,x=Lib.decDigits (n / 10):=⟨_,rfl⟩
   rw [←hx] at IH hl HV
   have q:=Lib.hid IH
   have HV:=Lib.hid HV
   have hz:¬9223372036854775807 < x.length+1:=by omega
   clear ih h hn e IH hx hl hy
   go_enter Tryz.func54,Tryz.ntmps54
   go_wp2_with fail
   ((with_reducible refine (q.out _).mono ?_);rintro e w' ⟨rfl,hb2⟩)
   go_wp2_with fail
   go_ret
   exact ⟨ret_str (by rw [HV.out];exact append_str _ [_]),((Below.refl _ _).alloc (Nat.le_refl _) _).trans (hb2.mono (by simp))⟩
theorem ref_label_in (n:Nat) (w:World) (hn:n≤1048576) :
  Calls Tryz.prog 29 #[.int .i64 (n:Int)] w fun e w'=>e=.returned (.string ⟨(label n).toArray⟩)∧Below w.heap.size w w':=by
 have h1:decide ((n:Int) < 0)=false:=by simp
 have h2:decide ((1048576:Int) < (n:Int))=false:=by simp;omega
 have HI:=Lib.hid (ref_decimal n w hn)
 have h3:¬9223372036854775807 < 1+(Lib.decDigits n).length:=by have:=dec_len7 hn;omega
 clear hn
 go_enter Tryz.func29,Tryz.ntmps29
 go_wp2_with (go_at_call 54;refine HI.out.mono ?_;rintro e w' ⟨rfl,hb⟩)
 go_ret
 exact ⟨ret_str (append_str [86] _),hb⟩
def Numb (l:List UInt8) (w:World) (e:Ending) (w':World):Prop :=
 ((∃n,IsLabel l n∧e=.returned (.tuple #[.int .i64 (n:Int),.bool true]))∨(NoLabel l∧e=.returned (.tuple #[.int .i64 0,.bool false])))∧Below w.heap.size w w'
def tail (s:ByteArray) (k:Nat):List UInt8:=(s.data.toList.take k).drop 1
def Digits (l:List UInt8):Prop:=∀c∈l,48≤c.toNat∧c.toNat≤57
end Go.Proofs.YtnghanpmmbcbbaaGreatDoor
namespace Go.Proofs.YtnghanpmmbcbbaaGreatDoor
open Go.RowKit
end Go.Proofs.YtnghanpmmbcbbaaGreatDoor
namespace Go.Proofs.YtnghanpmmbcbbaaGreatDoor
open Go.RowKit
def RTextAt (t:Tm):Prop:=∀w,t.At w→t.form=true→t.size≤1000000 →
 Calls Tryz.prog 120 #[t.val] w fun e w'=>e=.returned (.string (S (t.txt plain)))∧Below w.heap.size w w'
end Go.Proofs.YtnghanpmmbcbbaaGreatDoor
namespace Go.Proofs.YtnghanpmmbcbbaaGreatDoor
open Go.RowKit
end Go.Proofs.YtnghanpmmbcbbaaGreatDoor
namespace Go.Proofs.YtnghanpmmbcbbaaGreatDoor
open Go.RowKit
def termT (t:Tm):List UInt8:=if t.right then t.txt plain else []
def atomT (s:ByteArray) (l:List Tm):List UInt8:=if atomB s.data.toList l then callT plain s.data.toList (txtL plain l) else []
def goalW (op:Int) (s:ByteArray) (l:List Tm):List UInt8 :=
 if op=0 then callT plain s.data.toList (txtL plain l)
 else if op=1∨op=2∨op=11∨op=12 then callT plain (goalWords.getD op.toNat []) (txtL plain l)
 else topT (goalWords.getD op.toNat []) ((txtL plain l).getD 0 []) ((txtL plain l).getD 1 [])
def goalT (op:Int) (s:ByteArray) (l:List Tm):List UInt8:=if goalB op s l then goalW op s l else []
theorem rightL_parts {l:List Tm} (h:rightL l=true):formL l=true∧sizeL l≤200:=by
 rw [←rights_all] at h
 simp only [Bool.and_eq_true,decide_eq_true_eq,List.all_eq_true] at h
 refine ⟨?_,h.2⟩
 have h1:=h.1
 clear h
 induction l with
 | nil=>rfl
 | cons t r ih =>
  have ht:=h1 t (by simp)
  simp only [Tm.right,Bool.and_eq_true] at ht
  simp only [formL,ht.1,Bool.true_and]
  exact ih fun x hx=>h1 x (by simp [hx])
theorem atomB_parts {s:List UInt8} {l:List Tm} (h:atomB s l=true):rightB s=true∧s.length≤40∧l.length≤6∧formL l=true∧sizeL l≤200:=by
 simp only [atomB,Bool.and_eq_true,decide_eq_true_eq] at h
 obtain ⟨h1,h2,h3⟩:=h
 exact ⟨h1,right_len h1,h2,rightL_parts h3⟩
theorem builtin_parts {op:Int} {s:ByteArray} {l:List Tm} (h:goalB op s l=true) (h0:op≠0) :
  s.size=0∧(l.length:Int)=arity op∧l.length≤2∧formL l=true∧sizeL l≤200∧1≤op∧op≤12:=by
 unfold goalB at h
 rw [if_neg h0] at h
 simp only [builtinB,Bool.and_eq_true,decide_eq_true_eq] at h
 obtain ⟨h1,h2,h3⟩:=h
 obtain ⟨h4,h5⟩:=rightL_parts h3
 refine ⟨h1,h2,?_,h4,h5,?_,?_⟩
 ·have h2':=h2
  unfold arity at h2'
  split at h2'
  ·omega
  ·split at h2'
   ·omega
   ·split at h2'<;>omega
 ·have h2':=h2
  unfold arity at h2'
  split at h2'
  ·omega
  ·split at h2'
   ·omega
   ·split at h2'<;>omega
 ·have h2':=h2
  unfold arity at h2'
  split at h2'
  ·omega
  ·split at h2'
   ·omega
   ·split at h2'<;>omega
theorem arity_two {op:Int} (h1:3≤op) (h2:op≤10):arity op=2:=by
 unfold arity
 rw [if_neg (by omega),if_neg (by omega),if_pos (by omega)]
theorem held2_p {w W:World} {v0 v1:Value} {T:TypeId} (h:Below (w.alloc (.cells #[v0,v1] T)).heap.size (w.alloc (.cells #[v0,v1] T)) W) :
  W.cell? ⟨w.heap.size,0,none⟩=some v0∧W.cell? ⟨w.heap.size,1,none⟩=some v1:=by
 have k:∀j v,#[v0,v1][j]?=some v→W.cell? ⟨w.heap.size,j,none⟩=some v:=fun j v hj=>by
  rw [h.cell (by simp),World.cell?_alloc_at _ _ _ _ rfl,hj]
 exact ⟨k 0 _ rfl,k 1 _ rfl⟩
set_option maxHeartbeats 2000000 in
theorem tt_atom (a:Am) (w:World) (ht:a.At w) (hL:Laid w) :
  Calls Tryz.prog 116 #[a.val] w fun e w'=>e=.returned (.string (S (atomT a.name a.args)))∧Below w.heap.size w w':=by
 obtain ⟨r,hr⟩:∃r,atomB a.name.data.toList a.args=r:=⟨_,rfl⟩
 have Q0:=Lib.hid (fun W (h:Below w.heap.size w W)=>right_atom_at a W (ht.below h) hr)
 have HV:=Lib.hid (show atomT a.name a.args=if r then callT plain a.name.data.toList (txtL plain a.args) else [] by unfold atomT;rw [hr])
 have hlen:=ht.2.len
 cases r
 ·clear hr ht
  obtain ⟨s,A,c,l⟩:=a
  simp only at hlen
  show Calls Tryz.prog 116 #[.agg #[.string s,.slice A l.length c]] w _
  go_enter Tryz.func116,Tryz.ntmps116
  go_wp2_with fail
  refine (Q0.out _ (below1 _ _)).mono ?_
  rintro e w1 ⟨rfl,hb1⟩
  have HB:=Lib.hid ((below1 w _).trans (hb1.mono (by simp)))
  clear hb1
  go_wp2_with fail
  go_ret
  exact ⟨ret_str (by rw [HV.out];rfl),HB.out⟩
 ·obtain ⟨h1,h2,h3,h4,h5⟩:=atomB_parts hr
  rw [len_str] at h2
  have Q:=Lib.hid (fun W (h:Below w.heap.size w W)=>tcall_at a.name a.args (fun x _=>text_at x) a.at_ a.cap W (ht.2.below h) h4 (by omega) (by omega) (by omega) (hL.below h))
  clear hr ht h1 h2 h3 h4 h5 hL
  obtain ⟨s,A,c,l⟩:=a
  simp only at hlen
  show Calls Tryz.prog 116 #[.agg #[.string s,.slice A l.length c]] w _
  go_enter Tryz.func116,Tryz.ntmps116
  go_wp2_with fail
  refine (Q0.out _ (below1 _ _)).mono ?_
  rintro e w1 ⟨rfl,hb1⟩
  have HB:=Lib.hid ((below1 w _).trans (hb1.mono (by simp)))
  obtain ⟨t0,t1⟩:=held2_p hb1
  clear hb1
  go_wp2_with fail
  refine (Q.out _ HB.out).mono ?_
  rintro e w2 ⟨rfl,hb⟩
  have HB2:=Lib.hid (HB.out.trans (hb.mono HB.out.size))
  clear hb
  go_wp2_with fail
  go_ret
  exact ⟨ret_str (by rw [HV.out];rfl),HB2.out⟩
theorem held3_p {w W:World} {v0 v1 v2:Value} {T:TypeId} (h:Below (w.alloc (.cells #[v0,v1,v2] T)).heap.size (w.alloc (.cells #[v0,v1,v2] T)) W) :
  W.cell? ⟨w.heap.size,0,none⟩=some v0∧W.cell? ⟨w.heap.size,1,none⟩=some v1∧W.cell? ⟨w.heap.size,2,none⟩=some v2:=by
 have k:∀j v,#[v0,v1,v2][j]?=some v→W.cell? ⟨w.heap.size,j,none⟩=some v:=fun j v hj=>by
  rw [h.cell (by simp),World.cell?_alloc_at _ _ _ _ rfl,hj]
 exact ⟨k 0 _ rfl,k 1 _ rfl,k 2 _ rfl⟩
set_option maxHeartbeats 2000000 in
theorem tt_goal_no (g:Gl) (w:World) (ht:g.At w) (hr:goalB g.op g.name g.args=false) :
  Calls Tryz.prog 92 #[g.val] w fun e w'=>e=.returned (.string (S []))∧Below w.heap.size w w':=by
 have Q0:=Lib.hid (fun W (h:Below w.heap.size w W)=>right_goal_at g W (ht.below h) hr)
 clear ht hr
 obtain ⟨op,s,A,c,l⟩:=g
 show Calls Tryz.prog 92 #[.agg #[.int .i64 op,.string s,.slice A l.length c]] w _
 go_enter Tryz.func92,Tryz.ntmps92
 go_wp2_with fail
 refine (Q0.out _ (below1 _ _)).mono ?_
 rintro e w1 ⟨rfl,hb1⟩
 have HB:=Lib.hid ((below1 w _).trans (hb1.mono (by simp)))
 clear hb1
 go_wp2_with fail
 go_ret
 exact ⟨ret_str rfl,HB.out⟩
set_option maxHeartbeats 2000000 in
theorem tt_goal_call (s:ByteArray) (A:Option Addr) (c:Nat) (l:List Tm) (w:World) (ht:(Gl.mk 0 s A c l).At w) (hL:Laid w) (hr:goalB 0 s l=true) :
  Calls Tryz.prog 92 #[(Gl.mk 0 s A c l).val] w fun e w'=>e=.returned (.string (S (callT plain s.data.toList (txtL plain l))))∧Below w.heap.size w w':=by
 obtain ⟨h1,h2,h3,h4,h5⟩:=atomB_parts (show atomB s.data.toList l=true from hr)
 rw [len_str] at h2
 have Q0:=Lib.hid (fun W (h:Below w.heap.size w W)=>right_goal_at (Gl.mk 0 s A c l) W (ht.below h) hr)
 have Q:=Lib.hid (fun W (h:Below w.heap.size w W)=>tcall_at s l (fun x _=>text_at x) A c W (ht.2.2.below h) h4 (by omega) (by omega) (by omega) (hL.below h))
 clear hr ht h1 h2 h3 h4 h5 hL
 show Calls Tryz.prog 92 #[.agg #[.int .i64 0,.string s,.slice A l.length c]] w _
 go_enter Tryz.func92,Tryz.ntmps92
 go_wp2_with fail
 refine (Q0.out _ (below1 _ _)).mono ?_
 rintro e w1 ⟨rfl,hb1⟩
 have HB:=Lib.hid ((below1 w _).trans (hb1.mono (by simp)))
 obtain ⟨t0,t1,t2⟩:=held3_p hb1
 clear hb1
 go_wp2_with fail
 refine (Q.out _ HB.out).mono ?_
 rintro e w2 ⟨rfl,hb⟩
 have HB2:=Lib.hid (HB.out.trans (hb.mono HB.out.size))
 clear hb
 go_wp2_with fail
 go_ret
 exact ⟨rfl,HB2.out⟩
theorem words_cell {w:World} (hL:Laid w) (i:Nat) (wd:List UInt8) (h:goalWords[i]?=some wd):w.cell? ⟨0,i,none⟩=some (.string (S wd)):=by
 rw [World.var?_cell gWords hL.words i]
 simp [goalStrs,h]
set_option maxHeartbeats 4000000 in
theorem tt_goal_word (op:Int) (hop:op=1∨op=2∨op=11∨op=12) (wd:List UInt8) (hwd:goalWords[op.toNat]?=some wd) (hwl:wd.length≤1000) (s:ByteArray) (A:Option Addr) (c:Nat) (l:List Tm) (w:World) (ht:(Gl.mk op s A c l).At w) (hL:Laid w) (hr:goalB op s l=true) :
  Calls Tryz.prog 92 #[(Gl.mk op s A c l).val] w fun e w'=>e=.returned (.string (S (callT plain wd (txtL plain l))))∧Below w.heap.size w w':=by
 obtain ⟨h1,h2,h3,h4,h5,-,-⟩:=builtin_parts hr (by omega)
 have hlen:l.length≤9223372036854775807:=by omega
 have Q0:=Lib.hid (fun W (h:Below w.heap.size w W)=>right_goal_at (Gl.mk op s A c l) W (ht.below h) hr)
 have Q:=Lib.hid (fun W (h:Below w.heap.size w W)=>tcall_at (S wd) l (fun x _=>text_at x) A c W (ht.2.2.below h) h4 (by omega) (by rw [←len_str];show wd.length≤_;omega) (by omega) (hL.below h))
 have HL:=Lib.hid hL
 clear hr ht h1 h2 h3 h4 h5 hL hwl
 rcases hop with rfl|rfl|rfl|rfl
 all_goals
  show Calls Tryz.prog 92 #[.agg #[.int .i64 _,.string s,.slice A l.length c]] w _
  go_enter Tryz.func92,Tryz.ntmps92
  go_wp2_with fail
  refine (Q0.out _ (below1 _ _)).mono ?_
  rintro e w1 ⟨rfl,hb1⟩
  have HB:=Lib.hid ((below1 w _).trans (hb1.mono (by simp)))
  obtain ⟨t0,t1,t2⟩:=held3_p hb1
  have hc:=words_cell (HL.out.below HB.out) _ wd hwd
  simp only [Int.reduceToNat] at hc
  clear hb1
  have t0':=cell_regrown t0
  have t2':=cell_regrown t2
  have hc':=cell_regrown hc
  go_wp2_with fail
  refine wp_region_quiet_below (by kernel_rfl) (by kernel_rfl) ?_
  repeat (go_big_quiet_step ((go_at_call 133;exact Calls.regrown_of (Q.out _ (HB.out.trans ((below_regrown _ _ _).mono HB.out.size))))))
  refine wpQuiet_nil ?_
  intro w9 hw'
  have HB2:=Lib.hid (HB.out.trans ((regrown_below hw').mono HB.out.size))
  clear hw'
  go_wp2_with fail
  go_ret
  exact ⟨rfl,HB2.out⟩
theorem two_of {l:List Tm} (h:l.length=2):∃x y,l=[x,y]:=by
 match l,h with
 | [x,y],_=>exact ⟨x,y,rfl⟩
set_option maxHeartbeats 8000000 in
set_option maxRecDepth 10000 in
theorem tt_goal_two (m:Nat) (hm1:3≤m) (hm2:m≤10) (wd:List UInt8) (hwd:goalWords[m]?=some wd) (hwl:wd.length≤1000) (s:ByteArray) (A:Option Addr) (c:Nat) (x y:Tm) (w:World) (ht:(Gl.mk (m:Int) s A c [x,y]).At w) (hL:Laid w) (hr:goalB (m:Int) s [x,y]=true) :
  Calls Tryz.prog 92 #[(Gl.mk (m:Int) s A c [x,y]).val] w fun e w'=>e=.returned (.string (S (topT wd (x.txt plain) (y.txt plain))))∧Below w.heap.size w w':=by
 obtain ⟨h1,h2,h3,h4,h5,-,-⟩:=builtin_parts hr (by omega)
 simp only [formL,Bool.and_eq_true,sizeL] at h4 h5
 have Q0:=Lib.hid (fun W (h:Below w.heap.size w W)=>right_goal_at (Gl.mk (m:Int) s A c [x,y]) W (ht.below h) hr)
 obtain ⟨b,q,rfl,hrow⟩:=ht.2.2.2.2 (by simp)
 obtain ⟨⟨x0,x1,x2,x3⟩,hxa,⟨y0,y1,y2,y3⟩,hya,-⟩:=hrow
 have b3:=txt_bound h4.1 (by omega)
 have b4:=txt_bound h4.2.1 (by omega)
 have Q3:=Lib.hid (fun W (h:Below w.heap.size w W)=>text_at x W (hxa.below h) h4.1 (by omega) (hL.below h))
 have Q4:=Lib.hid (fun W (h:Below w.heap.size w W)=>text_at y W (hya.below h) h4.2.1 (by omega) (hL.below h))
 obtain ⟨X,hX⟩:∃X,x.txt plain=X:=⟨_,rfl⟩
 obtain ⟨Y,hY⟩:∃Y,y.txt plain=Y:=⟨_,rfl⟩
 rw [hX] at b3 Q3 ⊢
 rw [hY] at b4 Q4 ⊢
 have Q7:=Lib.hid (fun W=>between_at X wd Y W (by omega) (by omega) (by omega))
 have HL:=Lib.hid hL
 have e0:(((m:Nat):Int)==0)=false:=by rw [beq_eq_false_iff_ne];omega
 have e1:(((m:Nat):Int)==1)=false:=by rw [beq_eq_false_iff_ne];omega
 have e2:(((m:Nat):Int)==2)=false:=by rw [beq_eq_false_iff_ne];omega
 have e11:(((m:Nat):Int)==11)=false:=by rw [beq_eq_false_iff_ne];omega
 have e12:(((m:Nat):Int)==12)=false:=by rw [beq_eq_false_iff_ne];omega
 have hm3:m < 13:=by omega
 clear hX hY b3 b4 hxa hya hr ht h1 h2 h3 h4 h5 hL hwl hm1 hm2
 obtain ⟨k1,n1,s1,A1,p1,a1⟩:=x
 obtain ⟨k2,n2,s2,A2,p2,a2⟩:=y
 simp only [Tm.kind,Tm.num,Tm.name,Tm.at_,Tm.args,Tm.cap] at x0 x1 x2 x3 y0 y1 y2 y3
 have Q3:=Lib.hid (show ∀W,Below w.heap.size w W→Calls Tryz.prog 135 #[.agg #[.int .i64 k1,.int .i64 n1,.string s1,.slice A1 a1.length p1]] W fun e w'=>e=.returned (.string (S X))∧Below W.heap.size W w' from Q3.out)
 have Q4:=Lib.hid (show ∀W,Below w.heap.size w W→Calls Tryz.prog 135 #[.agg #[.int .i64 k2,.int .i64 n2,.string s2,.slice A2 a2.length p2]] W fun e w'=>e=.returned (.string (S Y))∧Below W.heap.size W w' from Q4.out)
 show Calls Tryz.prog 92 #[.agg #[.int .i64 (m:Int),.string s,.slice (some ⟨b,q,none⟩) 2 c]] w _
 go_enter Tryz.func92,Tryz.ntmps92
 go_wp2_with fail
 refine (Q0.out _ (below1 _ _)).mono ?_
 rintro e w1 ⟨rfl,hb1⟩
 have HB:=Lib.hid ((below1 w _).trans (hb1.mono (by simp)))
 obtain ⟨t0,t1,t2⟩:=held3_p hb1
 have hc:=words_cell (HL.out.below HB.out) _ wd hwd
 clear hb1
 have t0':=cell_regrown t0
 have t2':=cell_regrown t2
 have hc':=cell_regrown hc
 have cx:∀{p:Addr} {v:Value},w.cell? p=some v→w1.cell? p=some v:=fun h=>by
  rw [HB.out.cell (World.block_lt_of_cell? w _ h)];exact h
 have kx0:=cell_regrown (cx x0)
 have kx1:=cell_regrown (cx x1)
 have kx2:=cell_regrown (cx x2)
 have kx3:=cell_regrown (cx x3)
 have ky0:=cell_regrown (cx y0)
 have ky1:=cell_regrown (cx y1)
 have ky2:=cell_regrown (cx y2)
 have ky3:=cell_regrown (cx y3)
 clear cx
 go_wp2_with fail
 refine wp_region_quiet_below (by kernel_rfl) (by kernel_rfl) ?_
 repeat (go_big_quiet_step (first|(go_at_call 135;first|(with_reducible exact Calls.regrown_of (Q3.out _ (HB.out.trans ((below_regrown _ _ _).mono HB.out.size))))|(with_reducible exact Calls.regrown_of (Q4.out _ (HB.out.trans ((below_regrown _ _ _).mono HB.out.size)))))|(go_at_call 134;exact Calls.regrown_of (withBelow (Q7.out _)))))
 refine wpQuiet_nil ?_
 intro w9 hw'
 have HB2:=Lib.hid (HB.out.trans ((regrown_below hw').mono HB.out.size))
 clear hw'
 go_wp2_with fail
 go_ret
 exact ⟨rfl,HB2.out⟩
theorem tt_goal (g:Gl) (w:World) (ht:g.At w) (hL:Laid w) :
  Calls Tryz.prog 92 #[g.val] w fun e w'=>e=.returned (.string (S (goalT g.op g.name g.args)))∧Below w.heap.size w w':=by
 unfold goalT
 cases hr:goalB g.op g.name g.args
 ·exact tt_goal_no g w ht hr
 ·obtain ⟨op,s,A,c,l⟩:=g
  simp only at hr
  rw [if_pos rfl]
  unfold goalW
  by_cases h0:op=0
  ·subst h0
   rw [if_pos rfl]
   exact tt_goal_call s A c l w ht hL hr
  rw [if_neg h0]
  have hp:=builtin_parts hr h0
  by_cases h1:op=1∨op=2∨op=11∨op=12
  ·rw [if_pos h1]
   obtain ⟨wd,hwd,hwl⟩:∃wd,goalWords[op.toNat]?=some wd∧wd.length≤1000:=by
    rcases h1 with rfl|rfl|rfl|rfl
    all_goals exact ⟨_,rfl,by decide⟩
   rw [show goalWords.getD op.toNat []=wd by rw [List.getD_eq_getElem?_getD,hwd];rfl]
   exact tt_goal_word op h1 wd hwd hwl s A c l w ht hL hr
  ·rw [if_neg h1]
   obtain ⟨m,rfl⟩:∃m:Nat,op=(m:Int):=⟨op.toNat,by omega⟩
   have hm1:3≤m:=by omega
   have hm2:m≤10:=by omega
   have h2:=hp.2.1
   rw [arity_two (by omega) (by omega)] at h2
   obtain ⟨x,y,rfl⟩:=two_of (l:=l) (by omega)
   obtain ⟨wd,hwd,hwl⟩:∃wd,goalWords[m]?=some wd∧wd.length≤1000:=by
    have:m=3∨m=4∨m=5∨m=6∨m=7∨m=8∨m=9∨m=10:=by omega
    rcases this with rfl|rfl|rfl|rfl|rfl|rfl|rfl|rfl
    all_goals exact ⟨_,rfl,by decide⟩
   rw [show goalWords.getD (m:Int).toNat []=wd by rw [Int.toNat_natCast,List.getD_eq_getElem?_getD,hwd];rfl]
   exact tt_goal_two m hm1 hm2 wd hwd hwl s A c x y w ht hL hr
end Go.Proofs.YtnghanpmmbcbbaaGreatDoor
namespace Go.Proofs.YtnghanpmmbcbbaaGreatDoor
open Go.RowKit
-- see TtGoal
end Go.Proofs.YtnghanpmmbcbbaaGreatDoor
namespace Go.Proofs.YtnghanpmmbcbbaaGreatDoor
open Go.RowKit
def joinS:Nat→List (List UInt8)→List UInt8→List UInt8
 | _,[],s=>s
 | i,x :: r,s=>joinS (i+1) r (if i=0 then s++x else s++[44,32]++x)
theorem joinS_len (m:Nat):∀(l:List (List UInt8)) (i:Nat) (s:List UInt8),(∀x∈l,x.length≤m)→(joinS i l s).length≤s.length+l.length*(m+2)
 | [],i,s,_=>by simp [joinS]
 | y :: r,i,s,h=>by
  have h1:=joinS_len m r (i+1) (if i=0 then s++y else s++[44,32]++y) (fun x hx=>h x (List.mem_cons_of_mem _ hx))
  have h2:=h y (by simp)
  have h3:(if i=0 then s++y else s++[44,32]++y).length≤s.length+(m+2):=by
   split<;>simp<;>omega
  rw [joinS,List.length_cons,Nat.add_mul]
  omega
theorem joinS_rest:∀(l:List (List UInt8)) (i:Nat) (s:List UInt8),0 < i→joinS i l s=s++restT plain l
 | [],i,s,_=>by simp [joinS,restT]
 | y :: r,i,s,h=>by
  rw [joinS,joinS_rest r (i+1) _ (by omega),if_neg (by omega),restT]
  simp [Sty.cm,plain,sp]
theorem joinS_tjoin (l:List (List UInt8)):joinS 0 l []=tjoinT l:=by
 rcases l with _|⟨x,r⟩
 ·rfl
 ·rw [joinS,joinS_rest r 1 _ (by omega),if_pos rfl]
  simp [tjoinT]
theorem call_bound {s:List UInt8} {l:List Tm} (hs:s.length≤1000) (hf:formL l=true) (hz:sizeL l≤200):(callT plain s (txtL plain l)).length≤100000:=by
 have h1:=call_len slim_plain s (txtL plain l)
 have h2:=(txt_len slim_plain).2 l hf
 omega
theorem atom_bound (s:ByteArray) (l:List Tm):(atomT s l).length≤100000:=by
 unfold atomT
 split
 ·rename_i h
  obtain ⟨_,h2,_,h4,h5⟩:=atomB_parts h
  exact call_bound (by omega) h4 h5
 ·simp
theorem words_len (i:Nat):(goalWords.getD i []).length≤1000:=by
 rcases Nat.lt_or_ge i goalWords.length with h|h
 ·have:∀x∈goalWords,x.length≤1000:=by decide
  rw [show goalWords.getD i []=goalWords[i] from by simp [List.getD,h]]
  exact this _ (List.getElem_mem h)
 ·rw [show goalWords.getD i []=[] from by simp [List.getD,h]];simp
theorem getD_txt_len {l:List Tm} (hf:formL l=true) (hz:sizeL l≤200) (i:Nat):((txtL plain l).getD i []).length≤51000:=by
 have h2:=(txt_len slim_plain).2 l hf
 have h3:∀(m:List (List UInt8)) (i:Nat),(m.getD i []).length≤(m.map fun x=>x.length+3).sum:=by
  intro m
  induction m with
  | nil=>intro i;simp
  | cons x r ih =>
   intro i
   cases i with
   | zero=>simp;omega
   | succ i =>
    have:=ih i
    simp only [List.getD_cons_succ,List.map_cons,List.sum_cons]
    omega
 have:=h3 (txtL plain l) i
 omega
theorem goal_bound (op:Int) (s:ByteArray) (l:List Tm):(goalT op s l).length≤300000:=by
 unfold goalT
 split
 ·rename_i h
  by_cases h0:op=0
  ·subst h0
   have h':atomB s.data.toList l=true:=by simpa [goalB] using h
   obtain ⟨_,h2,_,h4,h5⟩:=atomB_parts h'
   have:=call_bound (s:=s.data.toList) (by omega) h4 h5
   unfold goalW
   rw [if_pos rfl]
   omega
  ·obtain ⟨_,_,_,h4,h5,_⟩:=builtin_parts h h0
   unfold goalW
   rw [if_neg h0]
   split
   ·have:=call_bound (words_len op.toNat) h4 h5
    omega
   ·have h6:=getD_txt_len h4 h5 0
    have h7:=getD_txt_len h4 h5 1
    have h8:=words_len op.toNat
    simp only [topT,List.length_append,List.length_cons]
    omega
 ·simp
def Am.ok (x:Am):Bool:=(atomB x.name.data.toList x.args)
def Am.tx (x:Am):List UInt8:=(atomT x.name x.args)
def allAm (l:List Am):Bool:=l.all Am.ok
def txtAm (l:List Am):List UInt8:=joinS 0 (l.map Am.tx) []
theorem txtAm_len (l:List Am):(txtAm l).length≤l.length*100002:=by
 have:=joinS_len 100000 (l.map Am.tx) 0 [] (fun x hx=>by
  obtain ⟨y,_,rfl⟩:=List.mem_map.1 hx
  exact atom_bound _ _)
 simpa [txtAm] using this
def Gl.ok (x:Gl):Bool:=(goalB x.op x.name x.args)
def Gl.tx (x:Gl):List UInt8:=(goalT x.op x.name x.args)
def allGl (l:List Gl):Bool:=l.all Gl.ok
def txtGl (l:List Gl):List UInt8:=joinS 0 (l.map Gl.tx) []
theorem txtGl_len (l:List Gl):(txtGl l).length≤l.length*300002:=by
 have:=joinS_len 300000 (l.map Gl.tx) 0 [] (fun x hx=>by
  obtain ⟨y,_,rfl⟩:=List.mem_map.1 hx
  exact goal_bound _ _ _)
 simpa [txtGl] using this
def limT (l:List UInt8):List UInt8:=if 16384 < l.length then [] else l
end Go.Proofs.YtnghanpmmbcbbaaGreatDoor
