/-
  RzNum.
  UnRound.
  PgListDl.
 TkCover.
 SyToks.
 PgGood.
 TkByte.
-/
import Derived.Test.YtaojnljppcnhjaaGreatDoorMh11
import Derived.Test.YtaojnljppcnhjaaGreatDoorMh2
import Derived.Test.YtaojnljppcnhjaaGreatDoorMh8
import Derived.Deep.AppendLies
import Derived.Deep.LoopGhost
import Derived.OrdersIn
import Derived.OrdersHeld
import Derived.RangeFuncCalls
import Derived.CallsIn
import Derived.Test.YtaojnljppcnhjaaGreatDoorMh7
import Derived.Test.YtaojnljppcnhjaaGreatDoorMh1
import Derived.Test.YtaojnljppcnhjaaGreatDoorMh5
namespace Go.Proofs.YtaojnljppcnhjaaGreatDoor
open Go.RowKit
theorem place_found {l:List Int} {n:Int} {j:Nat} (hj:j < l.length) (he:l.getD j 0=n) (hn:n∉l.take j):placeS l n=(j:Int):=by
 have hg:l[j]=n:=by rw [←he];simp [List.getD,hj]
 have hm:n∈l:=by rw [←hg];exact List.getElem_mem hj
 unfold placeS
 rw [if_pos hm]
 have h1:=List.idxOf_lt_length_iff.2 hm
 have h2:l[l.idxOf n]=n:=List.getElem_idxOf h1
 rcases Nat.lt_trichotomy (l.idxOf n) j with h|h|h
 ·refine absurd ?_ hn
  rw [←h2,List.mem_take_iff_getElem]
  exact ⟨l.idxOf n,by omega,rfl⟩
 ·rw [h]
 ·have:=List.not_of_lt_findIdx (p:=(·==n)) (xs:=l) (i:=j) (by simpa [List.idxOf] using h)
  exact absurd this (by rw [hg];simp)
theorem place_none {l:List Int} {n:Int} (hn:n∉l):placeS l n = -1:=by
 unfold placeS
 rw [if_neg hn]
theorem place_neg {l:List Int} {n:Int}:placeS l n < 0↔n∉l:=by
 unfold placeS
 split<;>rename_i h
 ·exact ⟨fun e=>by omega,fun e=>absurd h e⟩
 ·exact ⟨fun _=>h,fun _=>by omega⟩
theorem place_z (A:Option Addr) (l:List Int) (c:Nat) (n:Int) (w:World) (hI:Ints w A l) (hlen:l.length≤9223372036854775807) {r:Int} (hr:placeS l n=r) :
  Calls Tryz.prog 63 #[.slice A l.length c,.int .i64 n] w fun e w'=>e=.returned (.int .i64 r)∧w=w':=by
 have HR:=Lib.hid hr
 clear hr
 go_enter Tryz.func63,Tryz.ntmps63
 go_wp2
 go_loop [5] (fun i=>∃j:Nat,j≤l.length∧i=.int .i64 j∧Hid (n∉l.take j)) (fun i=>l.length - (intOf i).toNat)
 case atStart=>exact ⟨0,Nat.zero_le _,rfl,Lib.hid (by simp)⟩
 case round =>
  obtain ⟨j,hj,rfl,HN⟩:=hrel
  by_cases hlt:j < l.length
  ·obtain ⟨b,o,rfl,hc⟩:=hI.get hlt
   have HT:=Lib.hid (take_int hlt)
   have HF:=Lib.hid (fun e=>place_found (n:=n) hlt e HN.out)
   generalize l.getD j 0=x at *
   by_cases hx:x=n
   ·subst hx
    have HE:=Lib.hid (show (j:Int)=r by rw [←HR.out,HF.out rfl])
    go_wp2
    go_ret
    exact ⟨by rw [←HE.out];rfl,rfl⟩
   ·have hx':(x==n)=false:=by simpa using hx
    have HN':=Lib.hid (show n∉l.take (j+1) by
     rw [HT.out,List.mem_append,List.mem_singleton]
     exact fun h=>h.elim HN.out (fun e=>hx e.symm))
    clear hx
    go_wp2
    go_round
    case rel=>exact ⟨j+1,by omega,by go_num,HN'⟩
    case measure=>simp [intOf];omega
  ·obtain rfl:j=l.length:=by omega
   have HE:=Lib.hid (show (-1:Int)=r by
    have:=HN.out
    rw [List.take_length] at this
    rw [←HR.out,place_none this])
   go_wp2
   go_ret
   exact ⟨by rw [←HE.out];rfl,rfl⟩
theorem putS_in {l:List Int} {x:Int} (h:x∈l):putS l x=l:=by unfold putS;rw [if_pos h]
theorem mem_fold {xs:List Int} {x:Int}:∀{l:List Int},x∈xs.foldl putS l↔x∈l∨x∈xs:=by
 intro l
 have:=mem_addAll l xs x
 exact this
theorem fold_dedup (xs vs:List Int):(addAll [] xs).foldl putS vs=xs.foldl putS vs:=by
 suffices H:∀(xs ys:List Int),(addAll ys xs).foldl putS vs=(ys++xs).foldl putS vs by simpa using H xs []
 intro xs
 induction xs with
 | nil=>intro ys;simp [addAll]
 | cons x r ih =>
  intro ys
  show (addAll (addV ys x) r).foldl putS vs=_
  rw [ih]
  by_cases hx:x∈ys
  ·rw [show addV ys x=ys by unfold addV;rw [if_pos hx],List.foldl_append,List.foldl_append,List.foldl_cons]
   congr 1
   show _=putS (ys.foldl putS vs) x
   rw [putS_in (mem_fold.2 (.inr hx))]
  ·rw [show addV ys x=ys++[x] by unfold addV;rw [if_neg hx],List.append_assoc];rfl
theorem occL_app (l m:List Tm):occL (l++m)=occL l++occL m:=by
 induction l with
 | nil=>rfl
 | cons t r ih=>simp only [List.cons_append,occL,ih,List.append_assoc]
theorem fold_next {l:List Tm} {j:Nat} (hj:j < l.length) (vs:List Int):(occL (l.take (j+1))).foldl putS vs=(addAll [] (l.getD j default).occ).foldl putS ((occL (l.take j)).foldl putS vs):=by
 rw [ttake_next hj,occL_app,List.foldl_append,fold_dedup]
 simp [occL]
theorem fold_len (xs vs:List Int):(xs.foldl putS vs).length≤vs.length+xs.length:=by
 have:=addAll_length vs xs
 exact this
theorem newi (X:World) (n:Int) (T:TypeId):∀j v,([.int .i64 n]:List Value)[j]?=some v→(X.alloc (.cells #[.int .i64 n] T)).cell? ((⟨X.heap.size,0,none⟩:Addr).add j)=some v:=by
 intro j v hv
 rw [add_plain,Nat.zero_add,World.cell?_alloc_at _ _ _ _ rfl,← hv,show (#[Value.int .i64 n]:Array Value)=([Value.int .i64 n]:List Value).toArray from rfl,List.getElem?_toArray]
theorem onei (n:Int):∀u∈([.int .i64 n]:List Value),u.oneCell'=true:=by
 intro u hu
 rw [List.mem_singleton.1 hu];rfl
def OrderZ (base:Nat) (vs:List Int) (w:World) (en:Ending) (w':World):Prop :=
 ∃A c,en=.returned (.slice A vs.length c)∧OwnI w' base (.slice A vs.length c) vs∧Below base w w'
structure OrdL (base:Nat) (w:World) (vs:List Int) (A:Option Addr) (c:Nat) (wr:World):Prop where
 own:OwnI wr base (.slice A vs.length c) vs
 b:Below base w wr
theorem OrdL.below {base:Nat} {w wr w':World} {vs:List Int} {A:Option Addr} {c:Nat} (h:OrdL base w vs A c wr) (hb:Below wr.heap.size wr w') (hs:base≤wr.heap.size):OrdL base w vs A c w':=⟨h.own.below hb,h.b.trans (hb.mono hs)⟩
set_option maxHeartbeats 4000000 in
set_option maxRecDepth 10000 in
theorem order_z (base:Nat) (A:Option Addr) (l:List Tm) (c:Nat) (w:World) (hL:∀W,(∀k,k < base→W.heap[k]?=w.heap[k]?)→Lst W A l c) (hbase:base≤w.heap.size) (V:Option Addr) (vs:List Int) (vc:Nat) (hv:OwnI w base (.slice V vs.length vc) vs) (hs:vs.length+sizeL l≤100000) :
  Calls Tryz.prog 36 #[.slice V vs.length vc,.slice A l.length c] w (OrderZ base ((occL l).foldl putS vs) w):=by
 obtain ⟨i0,hi,hz0,hz1,hz2⟩:=info_parts int_info
 have hlen:l.length≤9223372036854775807:=by have:=(hL w fun _ _=>rfl).1;have:=(hL w fun _ _=>rfl).2.1;unfold maxLen at *;omega
 have HL:=Lib.hid hL
 have HS:=Lib.hid hs
 have HB:=Lib.hid hbase
 have H0:=Lib.hid (show OrdL base w vs V vc w from ⟨hv,Below.refl _ _⟩)
 clear hL hs hv hbase
 go_enter Tryz.func36,Tryz.ntmps36
 go_wp2_with fail
 go_loopg [0,5] l.length (fun gk v i wr=>∃(j:Nat) (V':Option Addr) (vc':Nat),j≤l.length∧i=.int .i64 (j:Int)∧v=.slice V' ((occL (l.take j)).foldl putS vs).length vc'∧Hid (OrdL base w ((occL (l.take j)).foldl putS vs) V' vc' wr∧l.length - j≤gk))
 case atStart=>exact ⟨0,V,vc,Nat.zero_le _,rfl,rfl,Lib.hid ⟨H0.out,Nat.le_refl _⟩⟩
 case round =>
  clear H0
  obtain ⟨j,V1,vc1,hj,rfl,rfl,hI⟩:=hrel
  obtain ⟨wo,hwo⟩:∃wo,wo=wr:=⟨_,rfl⟩
  subst hwo
  obtain ⟨ko,hko⟩:∃ko,ko=gk:=⟨_,rfl⟩
  subst hko
  have HW:=Lib.hid (show base≤wo.heap.size from Nat.le_trans HB.out hI.out.1.b.size)
  have HO:=Lib.hid hI.out.1
  have HGk:=Lib.hid hI.out.2
  clear hI
  by_cases hlt:j < l.length
  ·obtain ⟨b,o,rfl,⟨c0,c1,c2,c3⟩,hx⟩:=(HL.out wo fun k hk=>HO.out.b.block k hk).get hlt
   have hn:=sizeL_next hlt
   have ht:=sizeL_take l (j+1)
   have HN:=Lib.hid (fold_next hlt vs)
   have HLen:=Lib.hid (show ((occL (l.take j)).foldl putS vs).length+(l.getD j default).size≤100000 by
    have h1:=fold_len (occL (l.take j)) vs
    have h2:=occ_length.2 (l.take j)
    have h3:=HS.out
    omega)
   clear hn ht
   generalize l.getD j default=x at *
   generalize (occL (l.take j)).foldl putS vs=us at *
   have QV:=Lib.hid (ref_vars_at x wo hx (by have:=HLen.out;omega))
   have HXo:=Lib.hid (show (addAll [] x.occ).length≤x.size from by
    have h1:=addAll_length [] x.occ
    have h2:=occ_length.1 x
    simp only [List.length_nil,Nat.zero_add] at h1
    omega)
   clear hx
   generalize addAll [] x.occ=xs at *
   obtain ⟨k',n',s',A',c',a'⟩:=x
   simp only [Tm.kind,Tm.num,Tm.name,Tm.at_,Tm.args,Tm.cap] at c0 c1 c2 c3
   have QV2:Hid (Calls Tryz.prog 62 #[.agg #[.int .i64 k',.int .i64 n',.string s',.slice A' a'.length c']] wo (Grows wo xs)):=QV
   clear QV
   go_wp2_with (go_at_call 62;(with_reducible refine QV2.out.mono ?_);rintro e w2 ⟨av,rfl,how,hb2⟩;have HOW:=Lib.hid how;have HB2:=Lib.hid hb2;clear how hb2)
   obtain ⟨aA,ac,rfl,_,_⟩:=HOW.out.form
   have hxl:xs.length≤9223372036854775807:=by have:=HXo.out;have:=HLen.out;omega
   have HLx:=Lib.hid (show us.length+xs.length≤100000 by have:=HXo.out;have:=HLen.out;omega)
   have HG0:=Lib.hid (show OrdL base w us V1 vc1 w2∧OwnI w2 wo.heap.size (.slice aA xs.length ac) xs∧(∀k,(Value.slice aA xs.length ac).ownBlock=some k→(Value.slice V1 us.length vc1).ownBlock≠some k) from
    ⟨HO.out.below HB2.out HW.out,HOW.out,fun k hk e=>by have h1:=(World.ownsRow.lt HOW.out k hk).1;have h2:=(World.ownsRow.lt HO.out.own k e).2;omega⟩)
   go_loopg [0,7] xs.length (fun gk2 v i wr=>∃(m:Nat) (V':Option Addr) (vc':Nat),m≤xs.length∧i=.int .i64 (m:Int)∧v=.slice V' ((xs.take m).foldl putS us).length vc'∧Hid ((OrdL base w ((xs.take m).foldl putS us) V' vc' wr∧OwnI wr wo.heap.size (.slice aA xs.length ac) xs∧(∀k,(Value.slice aA xs.length ac).ownBlock=some k→(Value.slice V' ((xs.take m).foldl putS us).length vc').ownBlock≠some k))∧xs.length - m≤gk2))
   case atStart=>exact ⟨0,V1,vc1,Nat.zero_le _,rfl,rfl,Lib.hid ⟨HG0.out,Nat.le_refl _⟩⟩
   case round =>
    clear HG0
    obtain ⟨m,V2,vc2,hm,rfl,rfl,hI2⟩:=hrel
    have HI2:=Lib.hid hI2.out.1
    have HGk2:=Lib.hid hI2.out.2
    have HW2:=Lib.hid (show base≤wr.heap.size from Nat.le_trans HB.out HI2.out.1.b.size)
    clear hI2
    by_cases hmt:m < xs.length
    ·obtain ⟨aA',ac',e1,hInt,_⟩:=HI2.out.2.1.form
     injection e1 with e1 _ e3
     subst e1 e3
     obtain ⟨b2,o2,rfl,hc⟩:=hInt.get hmt
     have HT:=Lib.hid (take_int hmt)
     have HLm:=Lib.hid (show ((xs.take m).foldl putS us).length≤100000 by have h1:=fold_len (xs.take m) us;have h2:=HLx.out;have h3:(xs.take m).length≤xs.length:=(by simp only [List.length_take];omega);omega)
     have hlm:((xs.take m).foldl putS us).length≤9223372036854775807:=by have:=HLm.out;omega
     clear hInt
     generalize xs.getD m 0=y at *
     generalize hys:(xs.take m).foldl putS us=ys at *
     have HYs:=Lib.hid hys
     clear hys
     obtain ⟨V2',vc2',e1,hInt2,_⟩:=HI2.out.1.own.form
     injection e1 with e1 _ e3
     subst e1 e3
     obtain ⟨r,hr⟩:∃r,placeS ys y=r:=⟨_,rfl⟩
     have QP:=Lib.hid (place_z V2 ys vc2 y wr hInt2 hlm hr)
     clear hInt2
     by_cases hy:y∈ys
     ·have hneg:¬r < 0:=by rw [←hr];exact fun h=>absurd hy (place_neg.1 h)
      have hneg2:0≤r:=by omega
      have HE:=Lib.hid (show (xs.take (m+1)).foldl putS us=ys by
       rw [HT.out,List.foldl_append,HYs.out]
       show putS ys y=ys
       unfold putS
       rw [if_pos hy])
      clear hr hy
      go_wp2_with (go_at_call 63;(with_reducible refine QP.out.mono ?_);rintro e w4 ⟨rfl,rfl⟩)
      go_roundg (gk - 1)
      case measure=>have:=HGk2.out;omega
      case rel=>exact ⟨m+1,V2,vc2,by omega,by go_num,by rw [HE.out],Lib.hid ⟨by rw [HE.out];exact HI2.out,by have:=HGk2.out;omega⟩⟩
     ·have hneg:r < 0:=by rw [←hr];exact place_neg.2 hy
      have HE:=Lib.hid (show (xs.take (m+1)).foldl putS us=ys++[y] by
       rw [HT.out,List.foldl_append,HYs.out]
       show putS ys y=ys++[y]
       unfold putS
       rw [if_neg hy])
      clear hr hy
      go_wp2_with (first
       | (go_at_call 63;(with_reducible refine QP.out.mono ?_);rintro e w4 ⟨rfl,rfl⟩)
       | (at_builtin; refine wpList_append_lies _ rfl _ _ 86 rfl base 3 i0 _ 1 8 Tryz.underlying86 hi hz0 hz1 hz2 rfl (by decide) (.slice V2 ys.length vc2) ys.length (icells ys) rfl (World.ownsRow.alloc HI2.out.1.own _) ⟨wr.heap.size, 0, none⟩ 1 1 [.int .i64 y] rfl rfl (newi wr y _) (onei y) (by decide) (by unfold maxLen; have := HLm.out; omega) (by have := HLm.out; omega) (by have := HW2.out; simp; omega) _ rfl ?_; intro g cap w5 hown hg hat hglt
          have hbx := (Below.refl wr.heap.size wr).alloc (Nat.le_refl _) (.cells #[.int .i64 y] 3)
          have HI5 := Lib.hid (show OrdL base w (ys ++ [y]) (some ⟨g, 0, none⟩) cap w5 ∧ OwnI w5 wo.heap.size (.slice (some ⟨b2, o2, none⟩) xs.length ac) xs ∧ (∀ k, (Value.slice (some ⟨b2, o2, none⟩) xs.length ac).ownBlock = some k → (Value.slice (some ⟨g, 0, none⟩) (ys ++ [y]).length cap).ownBlock ≠ some k) by
            refine ⟨⟨by unfold OwnI; rw [List.length_append, icells_append]; exact hown, ?_⟩, ?_, fun k hk e => ?_⟩
            · exact (HI2.out.1.b.alloc (by have := HW2.out; omega) _).grown hg (by have := HW2.out; simp; omega) (fun k hk => (World.ownsRow.lt HI2.out.1.own k hk).1)
            · exact World.ownsRow.kept (HI2.out.2.1.alloc _) hg (.inr fun e => HI2.out.2.2 b2 rfl e.symm)
            · have e2 : g = b2 := by
                have h1 : some g = some k := e
                have h2 : some b2 = some k := hk
                injection h1 with h1
                injection h2 with h2
                omega
              subst e2
              rcases hat with h | h
              · exact HI2.out.2.2 g rfl h
              · have := (World.ownsRow.lt HI2.out.2.1 g rfl).2
                simp only [World.size_alloc] at h
                omega)
          clear hown hg hat hglt hbx))
      go_roundg (gk - 1)
      case measure=>have:=HGk2.out;omega
      case rel=>exact ⟨m+1,some ⟨g,0,none⟩,cap,by omega,by go_num,by rw [HE.out,List.length_append];rfl,Lib.hid ⟨by rw [HE.out];exact HI5.out,by have:=HGk2.out;omega⟩⟩
    ·obtain rfl:m=xs.length:=by omega
     have HE:=Lib.hid (show (xs.take xs.length).foldl putS us=(occL (l.take (j+1))).foldl putS vs by rw [List.take_length,HN.out])
     go_wp2_with fail
     go_roundg (ko - 1)
     case measure=>have:=HGk.out;omega
     case rel=>exact ⟨j+1,V2,vc2,by omega,by go_num,by rw [HE.out],Lib.hid ⟨by rw [←HE.out];exact HI2.out.1,by have:=HGk.out;omega⟩⟩
  ·obtain rfl:j=l.length:=by omega
   have HE:=Lib.hid (show (occL (l.take l.length)).foldl putS vs=(occL l).foldl putS vs by rw [List.take_length])
   go_wp2_with fail
   go_ret
   exact ⟨V1,vc1,by rw [HE.out];rfl,by rw [←HE.out];exact HO.out.own,HO.out.b⟩
end Go.Proofs.YtaojnljppcnhjaaGreatDoor
namespace Go.Proofs.YtaojnljppcnhjaaGreatDoor
section
variable {P:Program} {l n:Nat} {ops:Array Oper} {md:Region.Mode} {Q:Exit→Act→World→Prop} {S:World→Prop}
def Only (Q:Exit→Act→World→Prop) (e:Exit) (a:Act) (w:World):Prop:=e=.normal∧Q e a w
def noDefer (o:Oper):Bool:=match o.op with
 | .defer _=>false
 | _=>true
end
end Go.Proofs.YtaojnljppcnhjaaGreatDoor
namespace Go.Proofs.YtaojnljppcnhjaaGreatDoor
open Go.RowKit
theorem decl_info:(Tryz.prog.info? 72).map (fun i=>(i.zero,i.size,i.bytes))=some (some (.agg #[.string ⟨#[]⟩,.int .i64 0]),2,24):=by kernel_rfl
theorem news2_Dl (w:World) (o:Obj) (u:Dl) (T:TypeId):∀j v,(elDl.cells u)[j]?=some v→((w.alloc o).alloc (.cells #[.string (S u.1),.int .i64 u.2] T)).cell? ((⟨w.heap.size+1,0,none⟩:Addr).add j)=some v:=by
 intro j v hv
 have e:(w.alloc o).heap.size=w.heap.size+1:=by simp
 rw [add_plain,Nat.zero_add,← e,World.cell?_alloc_at _ _ _ _ rfl,← hv,show (#[.string (S u.1),.int .i64 u.2]:Array Value)=(elDl.cells u).toArray from rfl,List.getElem?_toArray]
set_option maxHeartbeats 4000000 in
set_option maxRecDepth 10000 in
theorem list_Dl_at {R:Nat} {A:Option Addr} {c:Nat} {l:List Tk} (hg:GoodT l) (a n most:Nat) (hmost:most≤9223372036854775807) (ex:Rd1 Dl)
  (hE:∀(i:Nat) (w:World),Pq w R A c l i→a≤i→(leftT l i).length≤n→Calls Tryz.prog 76 #[.pointer (some ⟨R,0,none⟩)] w (ElR rdDl ex R A c l a i w))
  (i:Nat) (w:World) (h:Pq w R A c l i) (ha:a≤i) (hn:(leftT l i).length≤n) :
  Calls Tryz.prog 75 #[.pointer (some ⟨R,0,none⟩),.int .i64 (most:Int),.func (.func 76) #[.pointer (some ⟨R,0,none⟩)] #[]] w (ListR rdDl 72 ex most R A c l a i w):=by
 obtain ⟨i0,hi,hz0,hz1,hz2⟩:=info_parts decl_info
 have HG:=Lib.hid hg
 have Q:=Lib.hid hE
 have hR:=h.lt
 have H0:=Lib.hid (show ListL rdDl 72 ex most R A c l a i n w (l.length - i) (.slice none 0 0) w i [] from
  ⟨Kp.refl _ _ _,h,RowG.nil _ _ _ _,rfl,Nat.le_refl _,fun h=>absurd rfl h,OkV.nil _ _ _,Nat.zero_le _,hn,Nat.le_refl _⟩)
 have HA:=Lib.hid ha
 have HM:=Lib.hid hmost
 clear hg hE h hn ha hmost
 go_enter Tryz.func75,Tryz.ntmps75
 go_wp2_with fail
 go_loopg [8] (l.length - i) (fun gk z wr=>∃(q:Nat) (xs:List Dl) (x:Value),z=x∧Hid (ListL rdDl 72 ex most R A c l a i n w gk x wr q xs))
 case atStart=>exact ⟨i,[],_,rfl,H0⟩
 case round =>
  clear H0
  obtain ⟨q,xs,z,hzx,hI⟩:=hrel
  have hzx':=hzx.symm
  clear hzx
  subst hzx'
  obtain ⟨B,zc,rfl⟩:=RowG.zform hI.out.2.2.1
  obtain ⟨k1,k2,k3,k4,k5,k6,k7,k8,k9,k10⟩:=hI.out
  have hqs:xs.length≤16385:=by have:=k2.ilt;have:=HG.out.small;omega
  have hlen:(xs.length:Int)≤16385:=by omega
  have hle2:xs.length≤9223372036854775807:=by omega
  clear k1 k3 k4 k5 k6 k7 k8 k9 k10
  by_cases hm:xs.length=most
  ·have hm':(((xs.length:Nat):Int)==(most:Int))=true:=by simp [hm]
   have HX:=Lib.hid hm
   clear hm k2
   go_wp2_with fail
   refine bodyPost_ret (v:=.tuple #[.slice none 0 0,.int .i64 6]) (by simp [results,Tryz.results75,go_sem]) rfl ?_
   obtain ⟨k1,k2,k3,k4,k5,k6,k7,k8,k9,k10⟩:=hI.out
   exact ⟨[],q,6,.slice none 0 0,rfl,k1,k2,RowG.nil _ _ _ _,.inr ⟨by omega,rfl,rfl,by rw [k4,listS_much (by rw [List.length_map];exact HX.out)]⟩⟩
  ·have hm':(((xs.length:Nat):Int)==(most:Int))=false:=by simp;omega
   have HX:=Lib.hid (show (xs.map (Rdr.h rdDl (gL l a))).length≠most by rw [List.length_map];exact hm)
   have Q1:=Lib.hid (Q.out q wr k2 (by have:=hI.out.2.2.2.2.1;have:=HA.out;omega) hI.out.2.2.2.2.2.2.2.2.1)
   clear hm k2
   go_wp2_with fail
   refine Q1.out.mono ?_
   rintro e w2 ⟨u,j,er,he,hk,hp,hs,ho⟩
   have he2:e=.returned (.tuple #[.agg #[.string (S u.1),.int .i64 u.2],.int .i64 er]):=he
   clear he
   subst he2
   have HS:=Lib.hid hs
   have HK:=Lib.hid hk
   have HP:=Lib.hid hp
   have HR2:=Lib.hid (show R < w2.heap.size from hp.lt)
   clear hk hp hs
   rcases ho with ⟨rfl,hf,hqj,hv⟩|⟨her,hf⟩
   ·have HF:=Lib.hid hf
    have HJ:=Lib.hid hqj
    have HV:=Lib.hid hv
    clear hf hqj hv
    obtain ⟨b,hb⟩:∃b,((l.getD j default).2.2==[44])=b:=⟨_,rfl⟩
    have HB:=Lib.hid hb
    have HLo:=Lib.hid (show w.heap.size≤wr.heap.size from hI.out.1.size)
    have hlo2:w.heap.size≤w2.heap.size:=Nat.le_trans HLo.out HK.out.size
    have HRow:=Lib.hid (hI.out.2.2.1.kq HK.out hR)
    have HOr:=Lib.hid (own_lt hI.out.2.2.1.row)
    have HOb:=Lib.hid hI.out.2.2.1.sit.bd
    have QA:=Lib.hid (fun W (hW:Pq W R A c l j)=>accept_at HG.out hW [44] (by decide) HB.out)
    clear hb
    cases b
    ·have HC:=Lib.hid (show isS [44] (leftT l j)=false by rw [isS_left HG.out HP.out.ilt (by decide)];exact HB.out)
     go_wp2_with (first
      | (at_builtin; refine wpList_append_lies _ rfl _ _ 23 rfl w.heap.size 72 i0 _ 2 24 Tryz.underlying23 hi hz0 hz1 hz2 rfl (by decide) (.slice B xs.length zc) xs.length (Elt.cellsL elDl xs) rfl ((HRow.out.row.alloc _).alloc _) ⟨w2.heap.size + 1, 0, none⟩ 1 1 (Elt.cells elDl u) rfl rfl (news2_Dl w2 _ u _) (Elt.one elDl u) (by decide) (by unfold maxLen; omega) (by omega) (by simp; omega) _ rfl ?_; intro g cap w4 hown hg hat hglt
         have hbox := ((Below.refl w2.heap.size w2).alloc (Nat.le_refl _) (.cells #[.string (S u.1), .int .i64 u.2] 72)).alloc (by simp) (.cells #[.string (S u.1), .int .i64 u.2] 72)
         have HRow4 := Lib.hid (HRow.out.next HLo.out (fun k hk => (HOr.out k hk).2) (fun b hb => (HOb.out b hb).2) HS.out hbox hown hg hat)
         have HK4 := Lib.hid (show Kq R w w4 from ((((hI.out.1.trans HK.out).alloc _).alloc _).grown hg (fun k hk => (HOr.out k hk).1)))
         have HP4 := Lib.hid (((HP.out.alloc _).alloc _).grown hg (fun k hk => by have := (HOr.out k hk).1; omega))
         clear hown hg hat hglt hbox)
      | (go_at_call 45;refine (QA.out _ HP4.out).mono ?_;rintro e w5 ⟨rfl,hk5,hp5⟩;have HK5:=Lib.hid hk5;have HP5:=Lib.hid hp5;clear hk5 hp5))
     refine bodyPost_ret (v:=.tuple #[.slice (some ⟨g,0,none⟩) (xs.length+1) cap,.int .i64 0]) (by simp [results,Tryz.results75,go_sem]) rfl ?_
     obtain ⟨k1,k2,k3,k4,k5,k6,k7,k8,k9,k10⟩:=hI.out
     refine ⟨xs++[u],j,0,_,rfl,HK4.out.trans HK5.out,HP5.out,HRow4.out.kq HK5.out hR,.inl ⟨rfl,?_,by have:=HJ.out;omega,?_,by simp,by have:=HJ.out;have:=HP.out.ilt;have:=HG.out.small;simp only [List.length_append,List.length_cons,List.length_nil];omega⟩⟩
     ·rw [k4,listS_stop HX.out HF.out HC.out,List.map_append];rfl
     ·rw [List.flatMap_append,List.flatMap_cons,List.flatMap_nil,List.append_nil]
      exact k7.append HV.out (Nat.le_refl _) k5 (by have:=HJ.out;omega)
    ·have HN:=Lib.hid (show j+1 < l.length from good_next HG.out HP.out.ilt (by rw [beq_iff_eq.1 HB.out];decide))
     have HC:=Lib.hid (show isS [44] (leftT l j)=true by rw [isS_left HG.out HP.out.ilt (by decide)];exact HB.out)
     go_wp2_with (first
      | (at_builtin; refine wpList_append_lies _ rfl _ _ 23 rfl w.heap.size 72 i0 _ 2 24 Tryz.underlying23 hi hz0 hz1 hz2 rfl (by decide) (.slice B xs.length zc) xs.length (Elt.cellsL elDl xs) rfl ((HRow.out.row.alloc _).alloc _) ⟨w2.heap.size + 1, 0, none⟩ 1 1 (Elt.cells elDl u) rfl rfl (news2_Dl w2 _ u _) (Elt.one elDl u) (by decide) (by unfold maxLen; omega) (by omega) (by simp; omega) _ rfl ?_; intro g cap w4 hown hg hat hglt
         have hbox := ((Below.refl w2.heap.size w2).alloc (Nat.le_refl _) (.cells #[.string (S u.1), .int .i64 u.2] 72)).alloc (by simp) (.cells #[.string (S u.1), .int .i64 u.2] 72)
         have HRow4 := Lib.hid (HRow.out.next HLo.out (fun k hk => (HOr.out k hk).2) (fun b hb => (HOb.out b hb).2) HS.out hbox hown hg hat)
         have HK4 := Lib.hid (show Kq R w w4 from ((((hI.out.1.trans HK.out).alloc _).alloc _).grown hg (fun k hk => (HOr.out k hk).1)))
         have HP4 := Lib.hid (((HP.out.alloc _).alloc _).grown hg (fun k hk => by have := (HOr.out k hk).1; omega))
         clear hown hg hat hglt hbox)
      | (go_at_call 45;refine (QA.out _ HP4.out).mono ?_;rintro e w5 ⟨rfl,hk5,hp5⟩;have HK5:=Lib.hid hk5;have HP5:=Lib.hid hp5;clear hk5 hp5))
     have HN2:=Lib.hid (show ListL rdDl 72 ex most R A c l a i n w (gk - 1) (.slice (some ⟨g,0,none⟩) (xs.length+1) cap) w5 (j+1) (xs++[u]) by
      obtain ⟨k1,k2,k3,k4,k5,k6,k7,k8,k9,k10⟩:=hI.out
      have hj:=HJ.out
      have hn:=HN.out
      refine ⟨HK4.out.trans HK5.out,HP5.out,HRow4.out.kq HK5.out hR,?_,by omega,fun _=>by omega,?_,by simp only [List.length_append,List.length_cons,List.length_nil];omega,by rw [left_length] at k9 ⊢;omega,by omega⟩
      ·rw [k4,listS_comma HX.out HF.out HJ.out HN.out HC.out,List.map_append,show nsL l a (j+1)=nsL l a j from nsU_no (by
        have:=HC.out
        rw [left_isS HP.out.ilt] at this
        simp only [isT,Bool.and_eq_true,beq_iff_eq] at this
        simp only [kV,this.1]
        rfl)]
       rfl
      ·rw [List.flatMap_append,List.flatMap_cons,List.flatMap_nil,List.append_nil]
       exact (k7.append HV.out (Nat.le_refl _) k5 (by omega)).wide (Nat.le_refl _) (by omega))
     have HGk:=Lib.hid (show gk - 1 < gk by have:=HJ.out;have:=HN.out;have:=hI.out.2.2.2.2.2.2.2.2.2;omega)
     go_wp2_with fail
     go_roundg (gk - 1)
     case measure=>exact HGk.out
     case rel=>exact ⟨j+1,xs++[u],_,rfl,HN2⟩
   ·have hne:(er != 0)=true:=bne_iff_ne.2 her
    have HF:=Lib.hid hf
    have HE:=Lib.hid her
    clear her hf
    go_wp2_with fail
    refine bodyPost_ret (v:=.tuple #[.slice none 0 0,.int .i64 er]) (by simp [results,Tryz.results75,go_sem]) rfl ?_
    obtain ⟨k1,k2,k3,k4,k5,k6,k7,k8,k9,k10⟩:=hI.out
    exact ⟨[],j,er,.slice none 0 0,rfl,(k1.trans HK.out).alloc _,HP.out.alloc _,RowG.nil _ _ _ _,.inr ⟨HE.out,rfl,rfl,by rw [k4,listS_err HX.out HF.out]⟩⟩
end Go.Proofs.YtaojnljppcnhjaaGreatDoor
namespace Go.Proofs.YtaojnljppcnhjaaGreatDoor
open Go.RowKit
def Cov (s:ByteArray) (l:List Tk) (i p:Nat):Prop:=(i=l.length∧p=s.size)∨(i < l.length∧p≤s.size∧∃n,toksAt s n p=(l.drop i,0,0)∧s.size < p+n)
theorem toks_shape (s:ByteArray):∀(n p:Nat),(toksAt s n p).2.2=0→toksAt s n p=((toksAt s n p).1,0,0)
 | 0,_,_=>rfl
 | n+1,p,h=>by
  by_cases he:(tokAt s p).2.2=0
  ·by_cases hk:(tokAt s p).1.1=0
   ·rw [toks_end he hk]
   ·rw [toks_next he hk] at h ⊢
    by_cases h3:(toksAt s n (tokAt s p).2.1).2.2≠0
    ·rw [if_pos h3] at h;exact absurd h h3
    ·rw [if_neg h3]
  ·rw [toks_err he] at h;exact absurd h he
theorem toks_errs (s:ByteArray):∀(n p:Nat),p≤s.size→(toksAt s n p).2.2≠0→(toksAt s n p).1=[]∧(toksAt s n p).2.1≤s.size
 | 0,_,_,h=>absurd rfl h
 | n+1,p,hp,h=>by
  by_cases he:(tokAt s p).2.2=0
  ·by_cases hk:(tokAt s p).1.1=0
   ·rw [toks_end he hk] at h;exact absurd rfl h
   ·rw [toks_next he hk] at h ⊢
    by_cases h3:(toksAt s n (tokAt s p).2.1).2.2≠0
    ·rw [if_pos h3]
     exact toks_errs s n _ (tokAt_in hp) h3
    ·rw [if_neg h3] at h;exact absurd rfl h
  ·rw [toks_err he]
   exact ⟨rfl,tokAt_in hp⟩
theorem toks_last (s:ByteArray):∀(n p:Nat),p≤s.size→s.size < p+n→(toksAt s n p).2.2=0→∃r x,(toksAt s n p).1=r++[x]∧x.1=0∧∀y∈r,y.1≠0
 | 0,p,hp,hn,_=>by omega
 | n+1,p,hp,hn,h=>by
  by_cases he:(tokAt s p).2.2=0
  ·obtain ⟨t1,t2,t3,t4,t5,t6,_⟩:=tokAt_facts hp he
   by_cases hk:(tokAt s p).1.1=0
   ·rw [toks_end he hk]
    exact ⟨[],_,rfl,hk,by simp⟩
   ·have hpos:=t5 hk
    rw [toks_next he hk] at h ⊢
    by_cases h3:(toksAt s n (tokAt s p).2.1).2.2≠0
    ·rw [if_pos h3] at h;exact absurd h h3
    ·rw [if_neg h3]
     obtain ⟨r,x,e,hx,hr⟩:=toks_last s n (tokAt s p).2.1 t4 (by omega) (Classical.not_not.1 h3)
     refine ⟨(tokAt s p).1 :: r,x,by simp only [e];rfl,hx,fun y hy=>?_⟩
     rcases List.mem_cons.1 hy with rfl|hy
     ·exact hk
     ·exact hr y hy
  ·rw [toks_err he] at h;exact absurd h he
theorem toks_some {s:ByteArray} {n p:Nat} (h0:0 < n) (h:(toksAt s n p).2.2=0):(toksAt s n p).1≠[]:=by
 obtain ⟨n,rfl⟩:∃m,n=m+1:=⟨n - 1,by omega⟩
 by_cases he:(tokAt s p).2.2=0
 ·by_cases hk:(tokAt s p).1.1=0
  ·rw [toks_end he hk];simp
  ·rw [toks_next he hk] at h ⊢
   split
   ·rename_i h1;rw [if_pos h1] at h;exact absurd h h1
   ·simp
 ·rw [toks_err he] at h;exact absurd h he
theorem cov_step {s:ByteArray} {l:List Tk} {i p:Nat} (h:Cov s l i p) (hi:i < l.length) :
  ∃m,p≤s.size∧tokAt s p=(l.getD i default,m,0)∧Cov s l (i+1) m:=by
 rcases h with ⟨rfl,_⟩|⟨_,hp,n,hn,ht⟩
 ·omega
 ·obtain ⟨n,rfl⟩:∃m,n=m+1:=⟨n - 1,by omega⟩
  have hd:l.drop i=l.getD i default :: l.drop (i+1):=by
   rw [List.drop_eq_getElem_cons hi,List.getD_eq_getElem?_getD,List.getElem?_eq_getElem hi];rfl
  by_cases he:(tokAt s p).2.2=0
  ·obtain ⟨t1,t2,t3,t4,t5,t6,_⟩:=tokAt_facts hp he
   by_cases hk:(tokAt s p).1.1=0
   ·rw [toks_end he hk,hd] at hn
    simp only [Prod.mk.injEq,List.cons.injEq,and_true] at hn
    refine ⟨(tokAt s p).2.1,hp,by rw [←hn.1,← he],.inl ⟨?_,?_⟩⟩
    ·have:=congrArg List.length hn.2
     simp only [List.length_nil,List.length_drop] at this
     omega
    ·obtain ⟨h1,h2⟩:=t6 hk
     rw [t2,h1,h2];rfl
   ·rw [toks_next he hk,hd] at hn
    by_cases h3:(toksAt s n (tokAt s p).2.1).2.2≠0
    ·rw [if_pos h3] at hn;rw [hn] at h3;exact absurd rfl h3
    ·rw [if_neg h3] at hn
     have h3':(toksAt s n (tokAt s p).2.1).2.2=0:=Classical.not_not.1 h3
     simp only [Prod.mk.injEq,List.cons.injEq,and_true] at hn
     have hpos:=t5 hk
     have hne:=toks_some (s:=s) (n:=n) (p:=(tokAt s p).2.1) (by omega) h3'
     refine ⟨(tokAt s p).2.1,hp,by rw [←hn.1,← he],.inr ⟨?_,t4,n,?_,by omega⟩⟩
     ·rw [hn.2] at hne
      rcases Nat.lt_or_ge (i+1) l.length with h|h
      ·exact h
      ·exact absurd (List.drop_eq_nil_of_le h) hne
     ·rw [toks_shape s n _ h3',hn.2]
  ·rw [toks_err he] at hn
   simp only [Prod.mk.injEq] at hn
   exact absurd hn.2.2 he
theorem scan_cases (s:ByteArray):((scanP s).2.2≠0∧(scanP s).1=[]∧(scanP s).2.1≤s.size) ∨
  ((scanP s).2.2=0∧(scanP s).2.1=0∧s.size≤16384∧∃M,(scanP s).1.length=M+1∧((scanP s).1.getD M default).1=0∧Cov s (scanP s).1 0 0):=by
 by_cases hbig:16384 < s.size
 ·have e:scanP s=([],0,6):=by unfold scanP;rw [if_pos hbig]
  rw [e]
  exact .inl ⟨by simp,rfl,Nat.zero_le _⟩
 ·have e:scanP s=toksAt s (s.size+1) 0:=by unfold scanP;rw [if_neg hbig]
  rw [e]
  by_cases h:(toksAt s (s.size+1) 0).2.2=0
  ·obtain ⟨r,x,e1,hx,_⟩:=toks_last s (s.size+1) 0 (Nat.zero_le _) (by omega) h
   have hsh:=toks_shape s _ _ h
   refine .inr ⟨h,by rw [hsh],by omega,r.length,by rw [e1];simp,?_,.inr ⟨by rw [e1];simp,Nat.zero_le _,s.size+1,by rw [List.drop_zero];exact hsh,by omega⟩⟩
   rw [e1,List.getD_eq_getElem?_getD,List.getElem?_append_right (Nat.le_refl _)]
   simpa using hx
  ·exact .inl ⟨h,toks_errs s _ _ (Nat.zero_le _) h⟩
end Go.Proofs.YtaojnljppcnhjaaGreatDoor
namespace Go.Proofs.YtaojnljppcnhjaaGreatDoor
open Go
def absT (at_:Nat) (prev:List UInt8):List Tk→List Tok
 | []=>[]
 | x :: r=>(x.1,x.2.2,(x.1==3&&(prev==[45]&&x.2.1==at_+1))) :: absT x.2.1 x.2.2 r
theorem toks_abs (s:ByteArray):∀(n p a:Nat) (prev:List UInt8),p≤s.size→(prev=[45]→p=a+1) →
  scanG n prev (rest s p)=if (toksAt s n p).2.2≠0 then none else some (absT a prev (toksAt s n p).1)
 | 0,_,_,_,_,_=>rfl
 | n+1,p,a,prev,hp,ha=>by
  obtain ⟨f1,f2,f3⟩:=skipP_facts hp
  rcases ht:tokL (gap false (rest s p)) with ⟨k,t,e⟩
  by_cases he:e=0
  ·subst he
   have ek:=tokAt_ok rfl ht
   obtain ⟨h1,h2,h3⟩:=tok_head ht
   by_cases hk:k=0
   ·subst hk
    obtain ⟨_,rfl⟩:=h3 rfl
    rw [scanG_end ht,toks_end (by rw [ek]) (by rw [ek]),ek]
    simp [absT]
   ·have hle:skipP s p+t.length≤s.size:=by
     have:=tokAt_in hp
     rw [ek] at this
     exact this
    have ih:=toks_abs s n (skipP s p+t.length) (skipP s p) t hle (fun h=>by rw [h];rfl)
    have hr:rest s (skipP s p+t.length)=(gap false (rest s p)).drop t.length:=by rw [rest_drop,f3]
    rw [hr] at ih
    have hfl:(k==3&&(prev==[45]&&(gap false (rest s p)).length==(rest s p).length))=(k==3&&(prev==[45]&&skipP s p==a+1)):=by
     by_cases hpr:prev=[45]
     ·have hpa:=ha hpr
      have hs:((gap false (rest s p)).length==(rest s p).length)=(skipP s p==a+1):=by
       rw [←f3,rest_len,rest_len,Bool.eq_iff_iff]
       simp only [beq_iff_eq]
       omega
      rw [hs]
     ·have:(prev==[45])=false:=by simpa using hpr
      rw [this];simp
    rw [scanG_next ht hk,ih,toks_next (by rw [ek]) (by rw [ek];exact hk),ek,hfl]
    simp only
    by_cases h4:(toksAt s n (skipP s p+t.length)).2.2=0
    ·simp [h4,absT]
    ·simp [h4]
  ·rw [scanG_err ht he,toks_err (by rw [tokAt_err rfl ht he];exact he),tokAt_err rfl ht he,if_pos (by exact he)]
theorem scan_abs (s:ByteArray) (hs:s.size≤16384):scanG (s.size+1) [] s.data.toList=if (scanP s).2.2≠0 then none else some (absT 0 [] (scanP s).1):=by
 have e:scanP s=toksAt s (s.size+1) 0:=by unfold scanP;rw [if_neg (by omega)]
 rw [e]
 exact toks_abs s (s.size+1) 0 0 [] (Nat.zero_le _) (fun h=>by cases h)
end Go.Proofs.YtaojnljppcnhjaaGreatDoor
namespace Go.Proofs.YtaojnljppcnhjaaGreatDoor
open Go Go.RowKit
theorem wordy_low {c:UInt8} (h:wordyB c=false):lowB c=false:=by
 unfold wordyB at h
 cases hl:lowB c
 ·rfl
 ·rw [hl] at h;cases h
theorem wordy_in {c:UInt8} (h:wordyB c=true):inB c=true:=by
 unfold wordyB at h
 unfold inB
 revert h
 cases lowB c<;>cases uppB c<;>cases undB c<;>cases digB c<;>decide
theorem tok_good {l t:List UInt8} {k:Int} (h:tokL l=(k,t,0)):k=kindO t∧(k=3→(∀c∈t,digB c=true)∧valD t≤2147483648):=by
 cases l with
 | nil =>
  have e:tokL []=(0,[],0):=rfl
  rw [e] at h
  injection h with h1 h2
  injection h2 with h2 _
  subst h1 h2
  exact ⟨rfl,fun h=>absurd h (by decide)⟩
 | cons c r =>
  by_cases hw:wordyB c=true
  ·rw [tok_word hw] at h
   split at h
   ·injection h with _ h2
    injection h2 with _ h3
    exact absurd h3 (by decide)
   ·injection h with h1 h2
    injection h2 with h2 _
    subst h1 h2
    rw [List.takeWhile_cons,if_pos (wordy_in hw)]
    refine ⟨by simp only [kindO,hw,if_true],fun h=>?_⟩
    split at h<;>exact absurd h (by decide)
  ·have hw:wordyB c=false:=by simpa using hw
   by_cases hd:digB c=true
   ·rw [tok_dig hw hd] at h
    split at h
    ·injection h with _ h2
     injection h2 with _ h3
     exact absurd h3 (by decide)
    ·rename_i hv
     injection h with h1 h2
     injection h2 with h2 _
     subst h1 h2
     refine ⟨?_,fun _=>⟨fun x hx=>?_,by omega⟩⟩
     ·rw [List.takeWhile_cons,if_pos hd]
      simp only [kindO,wordy_low hw,hw,hd]
      rfl
     ·exact List.all_eq_true.1 List.all_takeWhile x hx
   ·have hd:digB c=false:=by simpa using hd
    rw [tok_sym hw hd] at h
    split at h
    ·injection h with _ h2
     injection h2 with _ h3
     exact absurd h3 (by decide)
    ·rename_i hne
     injection h with h1 h2
     injection h2 with h2 _
     subst h1 h2
     refine ⟨?_,fun h=>absurd h (by decide)⟩
     have hp:=(symP_facts (c :: r)).2.1
     cases hs:symP (c :: r) with
     | nil=>exact absurd hs hne
     | cons x y =>
      rw [hs] at hp
      obtain ⟨z,hz⟩:=hp
      rw [List.cons_append] at hz
      injection hz with e1 _
      subst e1
      simp only [kindO,wordy_low hw,hw,hd]
      rfl
theorem cov_all {s:ByteArray} {l:List Tk} (h0:Cov s l 0 0) (hE:∀i,i+1 < l.length→(l.getD i default).1≠0):∀i,i < l.length→∃p,i≤p∧p≤s.size∧Cov s l i p
 | 0,_=>⟨0,Nat.le_refl _,Nat.zero_le _,h0⟩
 | i+1,hi=>by
  obtain ⟨p,h1,h2,hc⟩:=cov_all h0 hE i (by omega)
  obtain ⟨m,hp,ht,hc2⟩:=cov_step hc (by omega)
  have hf:=tokAt_facts hp (by rw [ht])
  have hpos:=hf.2.2.2.2.1 (by rw [ht];exact hE i hi)
  have h3:=hf.2.1
  have h4:=hf.2.2.1
  have h5:=hf.2.2.2.1
  rw [ht] at h3 h5 hpos
  simp only at h3 h5 hpos
  exact ⟨m,by omega,h5,hc2⟩
theorem good_scan {s:ByteArray} (h:(scanP s).2.2=0):GoodT (scanP s).1:=by
 rcases scan_cases s with ⟨h1,_⟩|⟨_,_,hsz,M,hM,hM0,hcov⟩
 ·exact absurd h h1
 generalize hl:(scanP s).1=l at *
 have hE:Ended l:=by
  have e:scanP s=toksAt s (s.size+1) 0:=by unfold scanP;rw [if_neg (by omega)]
  obtain ⟨r,x,er,hx,hr⟩:=toks_last s (s.size+1) 0 (Nat.zero_le _) (by omega) (by rw [←e];exact h)
  rw [←e,hl] at er
  subst er
  refine ⟨by simp,fun i hi=>?_⟩
  simp only [List.length_append,List.length_cons,List.length_nil] at hi ⊢
  rcases Nat.lt_or_ge i r.length with hlt|hge
  ·have e2:(r++[x]).getD i default=r[i]:=by rw [List.getD_eq_getElem?_getD,List.getElem?_append_left hlt,List.getElem?_eq_getElem hlt];rfl
   rw [e2]
   exact ⟨fun h0=>absurd h0 (hr _ (List.getElem_mem hlt)),fun h0=>by omega⟩
  ·have e3:i=r.length:=by omega
   subst e3
   have e2:(r++[x]).getD r.length default=x:=by simp [List.getD_eq_getElem?_getD]
   rw [e2]
   exact ⟨fun _=>by omega,fun _=>hx⟩
 have hne:∀i,i+1 < l.length→(l.getD i default).1≠0:=fun i hi h0=>by
  have:=(hE.2 i (by omega)).1 h0
  omega
 have htok:∀i,i < l.length→∃p m,i≤p∧p≤s.size∧tokAt s p=(l.getD i default,m,0):=fun i hi=>by
  obtain ⟨p,h1,h2,hc⟩:=cov_all hcov hne i hi
  obtain ⟨m,_,ht,_⟩:=cov_step hc hi
  exact ⟨p,m,h1,h2,ht⟩
 have hL:∀i,i < l.length→∃x,tokL x=((l.getD i default).1,(l.getD i default).2.2,0)∧(l.getD i default).2.1≤s.size∧(l.getD i default).2.2.length≤s.size:=fun i hi=>by
  obtain ⟨p,m,h1,h2,ht⟩:=htok i hi
  have hf:=tokAt_facts h2 (by rw [ht])
  rw [ht] at hf
  simp only at hf
  obtain ⟨f1,f2,f3,f4,_⟩:=hf
  refine ⟨gap false (rest s p),?_,by omega,by omega⟩
  unfold tokAt at ht
  split at ht
  ·rename_i hb
   injection ht with e1 e2
   injection e2 with e2 e3
   exact absurd e3 hb
  ·rename_i hb
   injection ht with e1 e2
   rw [←e1]
   rcases hq:tokL (gap false (rest s p)) with ⟨k,t,e⟩
   rw [hq] at hb
   have:e=0:=Classical.not_not.1 hb
   subst this
   rfl
 refine ⟨hE,fun i hi=>?_,fun i hi hk=>?_,fun i hi=>?_,?_,fun i hi=>?_⟩
 ·obtain ⟨x,hx,_⟩:=hL i hi
  exact (tok_good hx).1
 ·obtain ⟨x,hx,_⟩:=hL i hi
  exact (tok_good hx).2 hk
 ·obtain ⟨x,hx,h1,h2⟩:=hL i hi
  omega
 ·obtain ⟨p,m,h1,h2,ht⟩:=htok M (by omega)
  omega
 ·obtain ⟨x,hx,h1,h2⟩:=hL i hi
  omega
end Go.Proofs.YtaojnljppcnhjaaGreatDoor
namespace Go.Proofs.YtaojnljppcnhjaaGreatDoor
open Go.RowKit
theorem spc_nat (x:UInt8):spcB x=decide (x.toNat=32∨x.toNat=9∨x.toNat=10∨x.toNat=13):=by
 have e:∀n:UInt8,(x==n)=decide (x.toNat=n.toNat):=fun n=>by
  rw [Bool.eq_iff_iff];simp [UInt8.toNat_inj]
 unfold spcB
 rw [e 32,e 9,e 10,e 13,Bool.eq_iff_iff]
 simp only [Bool.or_eq_true,decide_eq_true_eq]
 rw [show (32:UInt8).toNat=32 from rfl,show (9:UInt8).toNat=9 from rfl,show (10:UInt8).toNat=10 from rfl,show (13:UInt8).toNat=13 from rfl]
 omega
theorem tk_low_at (x:UInt8) (w:World) {r:Bool} (h:lowB x=r) :
  Calls Tryz.prog 118 #[.int .u8 (x.toNat:Int)] w fun e w'=>e=.returned (.bool r)∧w=w':=by
 subst h
 by_cases h1:97≤x.toNat
 ·have h1':(97:Int)≤(x.toNat:Int):=by omega
  by_cases h2:x.toNat≤122
  ·have h2':(x.toNat:Int)≤122:=by omega
   have HV:=Lib.hid (show lowB x=true by simp only [lowB,h1,h2,and_self,decide_true])
   clear h1 h2
   go_enter Tryz.func118,Tryz.ntmps118
   go_wp2
   go_ret
   exact ⟨ret_bool (by rw [HV.out]),rfl⟩
  ·have h2':decide ((x.toNat:Int)≤122)=false:=by simp;omega
   have HV:=Lib.hid (show lowB x=false by simp only [lowB,h2,and_false,decide_false])
   clear h1 h2
   go_enter Tryz.func118,Tryz.ntmps118
   go_wp2
   go_ret
   exact ⟨ret_bool (by rw [HV.out]),rfl⟩
 ·have h1':decide ((97:Int)≤(x.toNat:Int))=false:=by simp;omega
  have HV:=Lib.hid (show lowB x=false by simp only [lowB,h1,false_and,decide_false])
  clear h1
  go_enter Tryz.func118,Tryz.ntmps118
  go_wp2
  go_ret
  exact ⟨ret_bool (by rw [HV.out]),rfl⟩
theorem tk_upp_at (x:UInt8) (w:World) {r:Bool} (h:uppB x=r) :
  Calls Tryz.prog 121 #[.int .u8 (x.toNat:Int)] w fun e w'=>e=.returned (.bool r)∧w=w':=by
 subst h
 by_cases h1:65≤x.toNat
 ·have h1':(65:Int)≤(x.toNat:Int):=by omega
  by_cases h2:x.toNat≤90
  ·have h2':(x.toNat:Int)≤90:=by omega
   have HV:=Lib.hid (show uppB x=true by simp only [uppB,h1,h2,and_self,decide_true])
   clear h1 h2
   go_enter Tryz.func121,Tryz.ntmps121
   go_wp2
   go_ret
   exact ⟨ret_bool (by rw [HV.out]),rfl⟩
  ·have h2':decide ((x.toNat:Int)≤90)=false:=by simp;omega
   have HV:=Lib.hid (show uppB x=false by simp only [uppB,h2,and_false,decide_false])
   clear h1 h2
   go_enter Tryz.func121,Tryz.ntmps121
   go_wp2
   go_ret
   exact ⟨ret_bool (by rw [HV.out]),rfl⟩
 ·have h1':decide ((65:Int)≤(x.toNat:Int))=false:=by simp;omega
  have HV:=Lib.hid (show uppB x=false by simp only [uppB,h1,false_and,decide_false])
  clear h1
  go_enter Tryz.func121,Tryz.ntmps121
  go_wp2
  go_ret
  exact ⟨ret_bool (by rw [HV.out]),rfl⟩
theorem tk_dig_at (x:UInt8) (w:World) {r:Bool} (h:digB x=r) :
  Calls Tryz.prog 122 #[.int .u8 (x.toNat:Int)] w fun e w'=>e=.returned (.bool r)∧w=w':=by
 subst h
 by_cases h1:48≤x.toNat
 ·have h1':(48:Int)≤(x.toNat:Int):=by omega
  by_cases h2:x.toNat≤57
  ·have h2':(x.toNat:Int)≤57:=by omega
   have HV:=Lib.hid (show digB x=true by simp only [digB,h1,h2,and_self,decide_true])
   clear h1 h2
   go_enter Tryz.func122,Tryz.ntmps122
   go_wp2
   go_ret
   exact ⟨ret_bool (by rw [HV.out]),rfl⟩
  ·have h2':decide ((x.toNat:Int)≤57)=false:=by simp;omega
   have HV:=Lib.hid (show digB x=false by simp only [digB,h2,and_false,decide_false])
   clear h1 h2
   go_enter Tryz.func122,Tryz.ntmps122
   go_wp2
   go_ret
   exact ⟨ret_bool (by rw [HV.out]),rfl⟩
 ·have h1':decide ((48:Int)≤(x.toNat:Int))=false:=by simp;omega
  have HV:=Lib.hid (show digB x=false by simp only [digB,h1,false_and,decide_false])
  clear h1
  go_enter Tryz.func122,Tryz.ntmps122
  go_wp2
  go_ret
  exact ⟨ret_bool (by rw [HV.out]),rfl⟩
theorem tk_word_at (x:UInt8) (w:World) {r:Bool} (h:inB x=r) :
  Calls Tryz.prog 120 #[.int .u8 (x.toNat:Int)] w fun e w'=>e=.returned (.bool r)∧w=w':=by
 subst h
 obtain ⟨b1,h1⟩:∃b,lowB x=b:=⟨_,rfl⟩
 obtain ⟨b2,h2⟩:∃b,uppB x=b:=⟨_,rfl⟩
 obtain ⟨b3,h3⟩:∃b,digB x=b:=⟨_,rfl⟩
 have HV:=Lib.hid (show inB x=(b1||b2||b3||undB x) by rw [←h1,← h2,← h3];rfl)
 have H4:=Lib.hid (show undB x=(((x.toNat:Int)==95)) by
  unfold undB
  rw [Bool.eq_iff_iff]
  simp
  omega)
 have Q1:=Lib.hid (tk_low_at x w h1)
 have Q2:=Lib.hid (tk_upp_at x w h2)
 have Q3:=Lib.hid (tk_dig_at x w h3)
 clear h1 h2 h3
 cases b1
 all_goals cases b2
 all_goals cases b3
 all_goals
  go_enter Tryz.func120,Tryz.ntmps120
  go_wp2_with (first|(go_at_call 118;refine Q1.out.mono ?_;rintro e w' ⟨rfl,rfl⟩)|(go_at_call 121;refine Q2.out.mono ?_;rintro e w' ⟨rfl,rfl⟩)|(go_at_call 122;refine Q3.out.mono ?_;rintro e w' ⟨rfl,rfl⟩))
  go_ret
  exact ⟨ret_bool (by rw [HV.out];simp [H4.out]),rfl⟩
theorem tr_low_at (x:UInt8) (w:World) {r:Bool} (h:lowB x=r) :
  Calls Tryz.prog 69 #[.int .u8 (x.toNat:Int)] w fun e w'=>e=.returned (.bool r)∧w=w':=by
 subst h
 by_cases h1:97≤x.toNat
 ·have h1':(97:Int)≤(x.toNat:Int):=by omega
  by_cases h2:x.toNat≤122
  ·have h2':(x.toNat:Int)≤122:=by omega
   have HV:=Lib.hid (show lowB x=true by simp only [lowB,h1,h2,and_self,decide_true])
   clear h1 h2
   go_enter Tryz.func69,Tryz.ntmps69
   go_wp2
   go_ret
   exact ⟨ret_bool (by rw [HV.out]),rfl⟩
  ·have h2':decide ((x.toNat:Int)≤122)=false:=by simp;omega
   have HV:=Lib.hid (show lowB x=false by simp only [lowB,h2,and_false,decide_false])
   clear h1 h2
   go_enter Tryz.func69,Tryz.ntmps69
   go_wp2
   go_ret
   exact ⟨ret_bool (by rw [HV.out]),rfl⟩
 ·have h1':decide ((97:Int)≤(x.toNat:Int))=false:=by simp;omega
  have HV:=Lib.hid (show lowB x=false by simp only [lowB,h1,false_and,decide_false])
  clear h1
  go_enter Tryz.func69,Tryz.ntmps69
  go_wp2
  go_ret
  exact ⟨ret_bool (by rw [HV.out]),rfl⟩
theorem tr_upp_at (x:UInt8) (w:World) {r:Bool} (h:(uppB x||undB x)=r) :
  Calls Tryz.prog 70 #[.int .u8 (x.toNat:Int)] w fun e w'=>e=.returned (.bool r)∧w=w':=by
 subst h
 have HC:=Lib.hid (show (uppB x||undB x)=decide ((65≤x.toNat∧x.toNat≤90)∨x.toNat=95) by unfold uppB undB;rw [Bool.eq_iff_iff];simp)
 by_cases h1:65≤x.toNat
 ·have h1':(65:Int)≤(x.toNat:Int):=by omega
  by_cases h2:x.toNat≤90
  ·have h2':(x.toNat:Int)≤90:=by omega
   have HV:=Lib.hid (show (uppB x||undB x)=true by rw [HC.out];simp;omega)
   clear h1 h2
   go_enter Tryz.func70,Tryz.ntmps70
   go_wp2
   go_ret
   exact ⟨ret_bool (by rw [HV.out]),rfl⟩
  ·have h2':decide ((x.toNat:Int)≤90)=false:=by simp;omega
   by_cases h3:x.toNat=95
   ·have h3':((x.toNat:Int)==95)=true:=by simp;omega
    have HV:=Lib.hid (show (uppB x||undB x)=true by rw [HC.out];simp;omega)
    clear h1 h2 h3
    go_enter Tryz.func70,Tryz.ntmps70
    go_wp2
    go_ret
    exact ⟨ret_bool (by rw [HV.out]),rfl⟩
   ·have h3':((x.toNat:Int)==95)=false:=by simp;omega
    have HV:=Lib.hid (show (uppB x||undB x)=false by rw [HC.out];simp;omega)
    clear h1 h2 h3
    go_enter Tryz.func70,Tryz.ntmps70
    go_wp2
    go_ret
    exact ⟨ret_bool (by rw [HV.out]),rfl⟩
 ·have h1':decide ((65:Int)≤(x.toNat:Int))=false:=by simp;omega
  have h3':((x.toNat:Int)==95)=false:=by simp;omega
  have HV:=Lib.hid (show (uppB x||undB x)=false by rw [HC.out];simp;omega)
  clear h1
  go_enter Tryz.func70,Tryz.ntmps70
  go_wp2
  go_ret
  exact ⟨ret_bool (by rw [HV.out]),rfl⟩
theorem tr_dig_at (x:UInt8) (w:World) {r:Bool} (h:digB x=r) :
  Calls Tryz.prog 71 #[.int .u8 (x.toNat:Int)] w fun e w'=>e=.returned (.bool r)∧w=w':=by
 subst h
 by_cases h1:48≤x.toNat
 ·have h1':(48:Int)≤(x.toNat:Int):=by omega
  by_cases h2:x.toNat≤57
  ·have h2':(x.toNat:Int)≤57:=by omega
   have HV:=Lib.hid (show digB x=true by simp only [digB,h1,h2,and_self,decide_true])
   clear h1 h2
   go_enter Tryz.func71,Tryz.ntmps71
   go_wp2
   go_ret
   exact ⟨ret_bool (by rw [HV.out]),rfl⟩
  ·have h2':decide ((x.toNat:Int)≤57)=false:=by simp;omega
   have HV:=Lib.hid (show digB x=false by simp only [digB,h2,and_false,decide_false])
   clear h1 h2
   go_enter Tryz.func71,Tryz.ntmps71
   go_wp2
   go_ret
   exact ⟨ret_bool (by rw [HV.out]),rfl⟩
 ·have h1':decide ((48:Int)≤(x.toNat:Int))=false:=by simp;omega
  have HV:=Lib.hid (show digB x=false by simp only [digB,h1,false_and,decide_false])
  clear h1
  go_enter Tryz.func71,Tryz.ntmps71
  go_wp2
  go_ret
  exact ⟨ret_bool (by rw [HV.out]),rfl⟩
theorem tk_spc_at (x:UInt8) (w:World) {r:Bool} (h:spcB x=r) :
  Calls Tryz.prog 116 #[.int .u8 (x.toNat:Int)] w fun e w'=>e=.returned (.bool r)∧w=w':=by
 subst h
 by_cases h0:x.toNat=32
 ·have HV:=Lib.hid (show spcB x=true by rw [spc_nat];simp [h0])
  have k0:((x.toNat:Int)==32)=true:=by simp;omega
  clear h0
  go_enter Tryz.func116,Tryz.ntmps116
  go_wp2
  go_ret
  exact ⟨ret_bool (by rw [HV.out]),rfl⟩
 have k0:((x.toNat:Int)==32)=false:=by simp;omega
 by_cases h1:x.toNat=9
 ·have HV:=Lib.hid (show spcB x=true by rw [spc_nat];simp [h1])
  have k1:((x.toNat:Int)==9)=true:=by simp;omega
  clear h0 h1
  go_enter Tryz.func116,Tryz.ntmps116
  go_wp2
  go_ret
  exact ⟨ret_bool (by rw [HV.out]),rfl⟩
 have k1:((x.toNat:Int)==9)=false:=by simp;omega
 by_cases h2:x.toNat=13
 ·have HV:=Lib.hid (show spcB x=true by rw [spc_nat];simp [h2])
  have k2:((x.toNat:Int)==13)=true:=by simp;omega
  clear h0 h1 h2
  go_enter Tryz.func116,Tryz.ntmps116
  go_wp2
  go_ret
  exact ⟨ret_bool (by rw [HV.out]),rfl⟩
 have k2:((x.toNat:Int)==13)=false:=by simp;omega
 by_cases h3:x.toNat=10
 ·have HV:=Lib.hid (show spcB x=true by rw [spc_nat];simp [h3])
  have k3:((x.toNat:Int)==10)=true:=by simp;omega
  clear h0 h1 h2 h3
  go_enter Tryz.func116,Tryz.ntmps116
  go_wp2
  go_ret
  exact ⟨ret_bool (by rw [HV.out]),rfl⟩
 have k3:((x.toNat:Int)==10)=false:=by simp;omega
 have HV:=Lib.hid (show spcB x=false by rw [spc_nat];simp [h0,h1,h2,h3])
 clear h0 h1 h2 h3
 go_enter Tryz.func116,Tryz.ntmps116
 go_wp2
 go_ret
 exact ⟨ret_bool (by rw [HV.out]),rfl⟩
theorem tr_spc_at (x:UInt8) (w:World) {r:Bool} (h:spcB x=r) :
  Calls Tryz.prog 95 #[.int .u8 (x.toNat:Int)] w fun e w'=>e=.returned (.bool r)∧w=w':=by
 subst h
 by_cases h0:x.toNat=32
 ·have HV:=Lib.hid (show spcB x=true by rw [spc_nat];simp [h0])
  have k0:((x.toNat:Int)==32)=true:=by simp;omega
  clear h0
  go_enter Tryz.func95,Tryz.ntmps95
  go_wp2
  go_ret
  exact ⟨ret_bool (by rw [HV.out]),rfl⟩
 have k0:((x.toNat:Int)==32)=false:=by simp;omega
 by_cases h1:x.toNat=9
 ·have HV:=Lib.hid (show spcB x=true by rw [spc_nat];simp [h1])
  have k1:((x.toNat:Int)==9)=true:=by simp;omega
  clear h0 h1
  go_enter Tryz.func95,Tryz.ntmps95
  go_wp2
  go_ret
  exact ⟨ret_bool (by rw [HV.out]),rfl⟩
 have k1:((x.toNat:Int)==9)=false:=by simp;omega
 by_cases h2:x.toNat=10
 ·have HV:=Lib.hid (show spcB x=true by rw [spc_nat];simp [h2])
  have k2:((x.toNat:Int)==10)=true:=by simp;omega
  clear h0 h1 h2
  go_enter Tryz.func95,Tryz.ntmps95
  go_wp2
  go_ret
  exact ⟨ret_bool (by rw [HV.out]),rfl⟩
 have k2:((x.toNat:Int)==10)=false:=by simp;omega
 by_cases h3:x.toNat=13
 ·have HV:=Lib.hid (show spcB x=true by rw [spc_nat];simp [h3])
  have k3:((x.toNat:Int)==13)=true:=by simp;omega
  clear h0 h1 h2 h3
  go_enter Tryz.func95,Tryz.ntmps95
  go_wp2
  go_ret
  exact ⟨ret_bool (by rw [HV.out]),rfl⟩
 have k3:((x.toNat:Int)==13)=false:=by simp;omega
 have HV:=Lib.hid (show spcB x=false by rw [spc_nat];simp [h0,h1,h2,h3])
 clear h0 h1 h2 h3
 go_enter Tryz.func95,Tryz.ntmps95
 go_wp2
 go_ret
 exact ⟨ret_bool (by rw [HV.out]),rfl⟩
theorem byte_eq {a b:UInt8} (h:a=b):((a.toNat:Int)==(b.toNat:Int))=true:=by simp [h]
theorem byte_ne {a b:UInt8} (h:a≠b):((a.toNat:Int)==(b.toNat:Int))=false:=by
 have:a.toNat≠b.toNat:=fun e=>h (UInt8.toNat_inj.1 e)
 simp;omega
end Go.Proofs.YtaojnljppcnhjaaGreatDoor
