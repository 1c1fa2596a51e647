/-
  TmVars.
  TmFirst.
  TmKeep.
 SuClone.
 SuPlain.
 SuDoing.
 SuMem.
 TmCmp.
 SuFind.
 TmWeigh.
-/
import Derived.Test.YtnghanpmmbcbbaaGreatDoorMq5
import Derived.Maps.AppendAt
import Derived.Maps.OwnOps
import Derived.Maps.OwnSet
import Derived.Maps.Views
import Derived.Laws.Rows
import Derived.Carry
import Derived.Test.YtnghanpmmbcbbaaGreatDoorMq2
import Derived.WalkSpells
import Derived.Lib.SliceRun
import Derived.Laws.OwnMore
import Derived.Test.YtnghanpmmbcbbaaGreatDoorProg
import Derived.Test.YtnghanpmmbcbbaaGreatDoorMq4
import Derived.BigQuiet
import Derived.Lib.QuietBelow
import Derived.Lib.Bytealg
import Derived.Outline
import Derived.WalkLawsBesides
import Derived.Deep.QuietTactic
import Derived.IntWalk
namespace Go.Proofs.YtnghanpmmbcbbaaGreatDoor
open Go.RowKit
def addV (l:List Int) (x:Int):List Int:=if x∈l then l else l++[x]
def addAll (l xs:List Int):List Int:=xs.foldl addV l
theorem addAll_append (l xs ys:List Int):addAll l (xs++ys)=addAll (addAll l xs) ys:=by simp [addAll]
theorem addAll_one (l:List Int) (x:Int):addAll l [x]=addV l x:=rfl
theorem addV_length (l:List Int) (x:Int):(addV l x).length≤l.length+1:=by unfold addV;split<;>simp
theorem addAll_length (l xs:List Int):(addAll l xs).length≤l.length+xs.length:=by
 induction xs generalizing l with
 | nil=>simp [addAll]
 | cons x r ih =>
  have h1:=ih (addV l x)
  have h2:=addV_length l x
  simp only [addAll,List.foldl_cons,List.length_cons] at *
  omega
theorem occ_length:(∀t:Tm,t.occ.length≤t.size)∧(∀l,(occL l).length≤sizeL l):=by
 refine Tm.induct2 (fun k n s A c a ih=>?_) (Nat.le_refl _) (fun t r h1 h2=>?_)
 ·simp only [Tm.occ,Tm.size]
  by_cases h1:k=1
  ·simp [h1]
  ·by_cases h2:k=2
   ·simp [h2];omega
   ·simp [h1,h2]
 ·simp only [occL,sizeL,List.length_append];omega
theorem mem_addV (l:List Int) (x y:Int):y∈addV l x↔y∈l∨y=x:=by
 unfold addV
 split
 ·constructor
  ·exact .inl
  ·rintro (h|rfl)
   ·exact h
   ·assumption
 ·simp
theorem mem_addAll (l xs:List Int) (y:Int):y∈addAll l xs↔y∈l∨y∈xs:=by
 induction xs generalizing l with
 | nil=>simp [addAll]
 | cons x r ih =>
  have:=ih (addV l x)
  simp only [addAll,List.foldl_cons] at this ⊢
  rw [this,mem_addV]
  simp [or_assoc]
def Grows (w0:World) (l:List Int) (e:Ending) (w':World):Prop:=∃v,e=.returned v∧OwnI w' w0.heap.size v l∧Below w0.heap.size w0 w'
theorem int_info:(Tryz.prog.info? 3).map (fun i=>(i.zero,i.size,i.bytes))=some (some (.int .i64 0),1,8):=by kernel_rfl
theorem box4g {w w':World} {v0 v1 v2 v3:Value} {T:TypeId} {o:Obj} {row:Option Nat} (hg:((w.alloc (.cells #[v0,v1,v2,v3] T)).alloc o).grownBy w' row) (hr:∀k,row=some k→k < w.heap.size) :
  w'.cell? ⟨w.heap.size,0,none⟩=some v0∧w'.cell? ⟨w.heap.size,1,none⟩=some v1∧w'.cell? ⟨w.heap.size,2,none⟩=some v2∧w'.cell? ⟨w.heap.size,3,none⟩=some v3:=by
 have h:∀j,w'.cell? ⟨w.heap.size,j,none⟩=(#[v0,v1,v2,v3]:Array Value)[j]?:=fun j=>by
  rw [World.cell?_of_block (a:=⟨w.heap.size,j,none⟩) (hg.block w.heap.size (by simp;omega) (fun e=>by have:=hr _ e.symm;omega)),World.cell?_alloc_lt _ _ _ (by simp),World.cell?_alloc_at _ _ _ _ rfl]
 exact ⟨h 0,h 1,h 2,h 3⟩
theorem Grows.mk {w0 w':World} {l:List Int} {e:Ending} {v:Value} (he:e=.returned v) (h:OwnI w' w0.heap.size v l) (hb:Below w0.heap.size w0 w'):Grows w0 l e w':=⟨v,he,h,hb⟩
theorem one_new (w:World) (o:Obj) (T:TypeId) (x:Value):∀(j:Nat) (u:Value),[x][j]?=some u→((w.alloc o).alloc (.cells #[x] T)).cell? ((⟨w.heap.size+1,0,none⟩:Addr).add j)=some u:=by
 intro j u hu
 cases j with
 | zero =>
  have e:(w.alloc o).heap.size=w.heap.size+1:=by simp
  rw [add_plain,Nat.add_zero,← e,World.cell?_alloc_at _ _ _ _ rfl]
  simpa using hu
 | succ j=>simp at hu
theorem OwnI.put {w:World} {base:Nat} {v:Value} {l:List Int} {n:Int} (h:w.ownsRow base 3 1 v (l.length+1) (icells l++[.int .i64 n])) (hn:n∉l):OwnI w base v (addV l n):=by
 unfold OwnI addV
 rw [if_neg hn,List.length_append,icells_append]
 exact h
def VarsAt (t:Tm):Prop:=∀(v:Value) (l:List Int) (w0 w:World),t.At w0→Below w0.heap.size w0 w→OwnI w w0.heap.size v l→l.length+t.size≤1000000 →
  Calls Tryz.prog 61 #[v,t.val] w (Grows w0 (addAll l t.occ))
set_option maxHeartbeats 1000000 in
theorem vars_at (t:Tm):VarsAt t:=by
 induction t using Tm.induct with
 | h k n s A c a ih0 =>
  intro v l w0 w hat hw hown hsz
  obtain ⟨V,q,rfl,hI,hq⟩:=hown.form
  have hat1:=hat.below hw
  have qa:=Lib.hid (args_at (.mk k n s A c a))
  have hocc:=occ_used (.mk k n s A c a)
  have hsu:=size_used (.mk k n s A c a)
  by_cases k1:k=1
  ·subst k1
   have hus:(Tm.mk 1 n s A c a).used=[]:=by simp [Tm.used,Tm.kind]
   have HO:=Lib.hid (show (Tm.mk 1 n s A c a).occ=[n] by rw [hocc];simp [Tm.kind,Tm.num])
   rw [hus] at qa hsu
   generalize (Tm.mk 1 n s A c a).uat=U at qa
   generalize (Tm.mk 1 n s A c a).ucap=uq at qa
   have hlen:l.length≤9223372036854775807:=by omega
   obtain ⟨b1,hb1⟩:∃b,decide (n∈l)=b:=⟨_,rfl⟩
   have qh:=Lib.hid (fun W (h:Below w.heap.size w W)=>has_at V l q n W (hI.below h) hlen hb1)
   have B0:=Lib.hid (show ∀o,Below w.heap.size w (w.alloc o) from fun o=>(Below.refl _ _).alloc (Nat.le_refl _) o)
   have HB:=Lib.hid hb1
   have HW:=Lib.hid hown
   clear ih0 hocc hb1 hat hat1 hI hown
   show Calls Tryz.prog 61 #[.slice V l.length q,.agg #[.int .i64 1,.int .i64 n,.string s,.slice A a.length c]] w _
   cases b1
   ·have hn:n∉l:=by simpa using HB.out
    have HN:=Lib.hid hn
    obtain ⟨i0,hi,hz0,hz1,hz2⟩:=info_parts int_info
    have hw1:=(hw.alloc hw.size (.cells #[.int .i64 1,.int .i64 n,.string s,.slice A a.length c] 69)).alloc (by have:=hw.size;simp;omega) (.cells #[.int .i64 n] 3)
    have HS:=Lib.hid hw1.size
    clear hn
    go_enter Tryz.func61,Tryz.ntmps61
    go_wp2_with fail
    refine (qh.out _ (B0.out _)).mono ?_
    rintro e w' ⟨rfl,rfl⟩
    go_wp2_with (at_builtin;refine wpList_append_own _ rfl _ _ 49 rfl w0.heap.size 3 i0 (.int .i64 0) 1 8 Tryz.underlying49 hi hz0 hz1 hz2 rfl (by decide) _ l.length (icells l) rfl ((HW.out.alloc _).alloc _) ⟨w.heap.size+1,0,none⟩ 1 1 [.int .i64 n] rfl rfl (one_new _ _ _ _) (icells_one [n]) (by unfold maxLen;omega) (by omega) HS.out ?_;intro v' w1 hown1 hg1 _;obtain ⟨d0,d1,d2,d3⟩:=box4g hg1 (fun k hk=>(World.ownsRow.lt HW.out k hk).2))
    have hb1:Below w0.heap.size w0 w1:=hw1.grown hg1 HS.out (fun k hk=>(World.ownsRow.lt HW.out k hk).1)
    have HP:=Lib.hid (OwnI.put hown1 HN.out)
    clear hown1 hg1
    go_wp2_with fail
    refine (qa.out _).mono ?_
    rintro e w2 ⟨rfl,hb2⟩
    go_wp2_with fail
    refine wp_loop_rounds 1 ?_
    rw [rounds_succ]
    go_wp2_with fail
    go_ret
    refine Grows.mk rfl ?_ (hb1.trans (hb2.mono hb1.size))
    rw [HO.out,addAll_one]
    exact HP.out.below hb2
   ·have hn:n∈l:=by simpa using HB.out
    have HN:=Lib.hid hn
    clear hn
    go_enter Tryz.func61,Tryz.ntmps61
    go_wp2_with fail
    refine (qh.out _ (B0.out _)).mono ?_
    rintro e w' ⟨rfl,rfl⟩
    go_wp2_with fail
    refine (qa.out _).mono ?_
    rintro e w2 ⟨rfl,hb2⟩
    have hb3:Below w.heap.size w w2:=(B0.out _).trans (hb2.mono (by simp))
    go_wp2_with fail
    refine wp_loop_rounds 1 ?_
    rw [rounds_succ]
    go_wp2_with fail
    go_ret
    refine Grows.mk rfl ?_ (hw.trans (hb3.mono hw.size))
    rw [HO.out,addAll_one]
    unfold addV
    rw [if_pos HN.out]
    exact HW.out.below hb3
  ·have k1':(k==1)=false:=by simp [k1]
   have hl:=hat.ulst
   have ih:∀x∈(Tm.mk k n s A c a).used,VarsAt x:=by
    unfold Tm.used
    split
    ·exact ih0
    ·intro x hx;cases hx
   have HO:=Lib.hid (show (Tm.mk k n s A c a).occ=occL (Tm.mk k n s A c a).used by rw [hocc];exact if_neg k1)
   have hol:=occ_length.2 (Tm.mk k n s A c a).used
   rw [hsu] at hsz
   rw [HO.out]
   clear ih0 hocc hat hat1 hI k1 HO hsu
   generalize (Tm.mk k n s A c a).used=us at *
   generalize (Tm.mk k n s A c a).uat=U at *
   generalize (Tm.mk k n s A c a).ucap=uq at *
   have QI:=Lib.hid ih
   have hlen:us.length≤9223372036854775807:=by have:=hl.1;have:=hl.2.1;unfold maxLen at *;omega
   have HW:=Lib.hid hown
   clear ih hown
   show Calls Tryz.prog 61 #[.slice V l.length q,.agg #[.int .i64 k,.int .i64 n,.string s,.slice A a.length c]] w _
   go_enter Tryz.func61,Tryz.ntmps61
   go_wp2_with fail
   refine (qa.out _).mono ?_
   rintro e w2 ⟨rfl,hb2⟩
   have hb3:Below w.heap.size w w2:=((Below.refl _ _).alloc (Nat.le_refl _) _).trans (hb2.mono (by simp))
   have hb4:Below w0.heap.size w0 w2:=hw.trans (hb3.mono hw.size)
   go_wp2_with fail
   go_loopw [0,6] (fun z i wr=>∃(j:Nat) (x:Value),j≤us.length∧i=.int .i64 j∧z=x∧Hid (OwnI wr w0.heap.size x (addAll l (occL (us.take j))))∧Below w0.heap.size w0 wr) (fun _ i _=>us.length - (intOf i).toNat)
   case atStart=>exact ⟨0,_,Nat.zero_le _,rfl,rfl,Lib.hid (HW.out.below hb3),hb4⟩
   case round =>
    obtain ⟨j,x,hj,rfl,rfl,HX,hb⟩:=hrel
    by_cases hlt:j < us.length
    ·obtain ⟨b,o,rfl,⟨c0,c1,c2,c3⟩,_⟩:=(hl.below hb).get hlt
     have hy:=hl.mem (getD_mem hlt)
     have hmem:=getD_mem hlt
     have hn:=sizeL_next hlt
     have ht:=sizeL_take us (j+1)
     have ho:=occ_length.2 (us.take j)
     have ha:=addAll_length l (occL (us.take j))
     have HN:=Lib.hid (occL_next hlt)
     generalize us.getD j default=y at *
     have hB:(addAll l (occL (us.take j))).length+y.size≤1000000:=by omega
     have Q1:=Lib.hid (QI.out y hmem _ (addAll l (occL (us.take j))) w0 wr hy hb HX.out hB)
     clear hy QI hmem hn ht ho ha hB
     obtain ⟨k',n',s',A',c',a'⟩:=y
     simp only [Tm.kind,Tm.num,Tm.name,Tm.at_,Tm.args,Tm.cap] at c0 c1 c2 c3
     go_wp2_with fail
     refine Q1.out.mono ?_
     rintro e w5 ⟨v5,rfl,hown5,hb5⟩
     go_wp2_with fail
     go_roundw
     case rel=>exact ⟨j+1,v5,by omega,by go_num,rfl,Lib.hid (by rw [HN.out,addAll_append];exact hown5),hb5⟩
     case measure=>simp [intOf];omega
    ·obtain rfl:j=us.length:=by omega
     go_wp2_with fail
     go_ret
     refine Grows.mk rfl ?_ hb
     have:=HX.out
     rw [List.take_length] at this
     exact this
end Go.Proofs.YtnghanpmmbcbbaaGreatDoor
namespace Go.Proofs.YtnghanpmmbcbbaaGreatDoor
open Go.RowKit Go.Maps
theorem keyed:Keyed Tryz.prog 3:=int_keyed Tryz.underlying3
theorem fits_wf {n:Int} (h:Fits n):(Lit.int .i64 n).wf=true:=by
 have h1:IntKind.i64.min = -9223372036854775808:=rfl
 have h2:IntKind.i64.max=9223372036854775807:=rfl
 unfold Fits at h
 simp only [Lit.wf,Bool.and_eq_true,decide_eq_true_eq]
 omega
def seenD (l:List Int):DataW Unit:=setOf (.lit (.bool true)) (l.map (Lit.int .i64))
def Seen (w:World) (b:Nat) (l:List Int):Prop:=(∀n∈l,Fits n)∧w.ownsMap Tryz.prog 3 (plainElem Tryz.prog 4) b l.length (seenD l)
def addStep (l:List Int) (n:Int):Bool×List Int:=(true,addV l n)
theorem Seen.keep {w w':World} {b:Nat} {l:List Int} (h:Seen w b l) (hb:Below w.heap.size w w'):Seen w' b l :=
 ⟨h.1,h.2.kept (row:=none) ⟨hb.os,hb.tape,hb.output,hb.size,fun k hk _=>hb.block k hk⟩ (by simp)⟩
end Go.Proofs.YtnghanpmmbcbbaaGreatDoor
namespace Go.Proofs.YtnghanpmmbcbbaaGreatDoor
open Go.RowKit
def Agree (lo:Nat) (X:Nat→Prop) (w W:World):Prop:=∀b,lo≤b→b < w.heap.size→¬X b→W.heap[b]?=w.heap[b]?
theorem Agree.refl (lo:Nat) (X:Nat→Prop) (w:World):Agree lo X w w:=fun _ _ _ _=>rfl
theorem Agree.cell {lo:Nat} {X:Nat→Prop} {w W:World} (h:Agree lo X w W) {p:Addr} (h1:lo≤p.block) (h2:p.block < w.heap.size) (h3:¬X p.block):W.cell? p=w.cell? p:=by
 have:=h p.block h1 h2 h3
 simp only [World.cell?,this]
abbrev No:Nat→Prop:=fun _=>False
abbrev Is (b:Nat):Nat→Prop:=fun k=>k=b
def Lie (B:World→Prop) (lo:Nat) (X:Nat→Prop) (w:World) (t:Tm):Prop:=∀W,B W→Agree lo X w W→t.At W
abbrev Any:World→Prop:=fun _=>True
section
variable {B:World→Prop} {lo:Nat} {X:Nat→Prop} {w w':World} {t:Tm}
theorem Lie.at (h:Lie B lo X w t) (hB:B w):t.At w:=h w hB (Agree.refl _ _ _)
theorem Agree.less {W:World} (h:Agree lo X w' W) {lo':Nat} {Y:Nat→Prop} (hs:w.heap.size≤w'.heap.size) (hc:∀b,lo'≤b→b < w.heap.size→¬Y b→lo≤b∧¬X b∧w'.heap[b]?=w.heap[b]?):Agree lo' Y w W:=fun b h1 h2 h3 =>
 (h b (hc b h1 h2 h3).1 (Nat.lt_of_lt_of_le h2 hs) (hc b h1 h2 h3).2.1).trans (hc b h1 h2 h3).2.2
theorem Lie.less {lo':Nat} {Y:Nat→Prop} (h:Lie B lo' Y w t) (hs:w.heap.size≤w'.heap.size) (hc:∀b,lo'≤b→b < w.heap.size→¬Y b→lo≤b∧¬X b∧w'.heap[b]?=w.heap[b]?):Lie B lo X w' t:=fun W hB hW=>h W hB (hW.less hs hc)
theorem Lie.below (h:Lie B lo X w t) (k:Below w.heap.size w w'):Lie B lo X w' t:=h.less k.size fun b h1 h2 h3=>⟨h1,h3,k.block b h2⟩
theorem Lie.low (h:Lie B lo X w t) {lo':Nat} (hl:lo'≤lo):Lie B lo' X w t:=h.less (Nat.le_refl _) fun b h1 _ h3=>⟨by omega,h3,rfl⟩
theorem Lie.out {Y:Nat→Prop} (h:Lie B lo Y w t) (hY:∀b,lo≤b→b < w.heap.size→X b→Y b):Lie B lo X w t:=h.less (Nat.le_refl _) fun b h1 h2 h3=>⟨h1,fun hx=>h3 (hY b h1 h2 hx),rfl⟩
theorem Lie.set (h:Lie B lo X w t) {p:Addr} (hp:p.block < lo∨X p.block) (v:Value):Lie B lo X (w.setCell p v) t:=h.less (by simp [World.setCell]) fun b h1 _ h3=>⟨h1,h3,Below.heap_setCell _ _ _ _ (fun e=>hp.elim (fun h=>by omega) (fun h=>h3 (e ▸ h)))⟩
theorem Lie.alloc (h:Lie B lo X w t) (o:Obj):Lie B lo X (w.alloc o) t:=h.below ((Below.refl _ _).alloc (Nat.le_refl _) o)
theorem Lie.new (h:Lie B lo X w t) (o:Obj):Lie B lo (fun k=>X k∨k=w.heap.size) (w.alloc o) t:=h.less (by simp) fun b h1 h2 h3=>⟨h1,fun hx=>hx.elim h3 (by omega),Below.heap_alloc _ _ _ h2⟩
theorem Lie.any (ht:∀W,B W→t.At W):Lie B lo X w t:=fun W hB _=>ht W hB
theorem Lie.of (h:Lie Any lo X w t):Lie B lo X w t:=fun W _ hW=>h W trivial hW
theorem Lie.new_is {T:Nat} (h:Lie B lo No w t) (hT:T < lo):Lie B lo (Is T) w t:=h.out fun b h1 _ h3=>by have:b=T:=h3;omega
end
structure Keeps (R:Nat) (w w':World):Prop where
 os:w'.os=w.os
 tape:w'.tape=w.tape
 output:w'.output=w.output
 size:w.heap.size≤w'.heap.size
 block:∀k,k < w.heap.size→k≠R→w'.heap[k]?=w.heap[k]?
theorem Keeps.refl (R:Nat) (w:World):Keeps R w w:=⟨rfl,rfl,rfl,Nat.le_refl _,fun _ _ _=>rfl⟩
theorem Keeps.trans {R:Nat} {a b c:World} (h:Keeps R a b) (k:Keeps R b c):Keeps R a c :=
 ⟨k.os.trans h.os,k.tape.trans h.tape,k.output.trans h.output,Nat.le_trans h.size k.size,fun i hi hr=>(k.block i (Nat.lt_of_lt_of_le hi h.size) hr).trans (h.block i hi hr)⟩
theorem Below.keeps {w w':World} (h:Below w.heap.size w w') (R:Nat):Keeps R w w':=⟨h.os,h.tape,h.output,h.size,fun k hk _=>h.block k hk⟩
theorem Keeps.drew {R:Nat} {a w:World} (h:Keeps R a w):Keeps R a w.drew:=⟨h.os,h.tape,h.output,h.size,h.block⟩
theorem Keeps.drewN {R:Nat} {a w:World} (h:Keeps R a w) (n:Nat):Keeps R a (w.drewN n):=⟨h.os,h.tape,h.output,h.size,h.block⟩
theorem Keeps.alloc {R:Nat} {a w:World} (h:Keeps R a w) (o:Obj):Keeps R a (w.alloc o):=h.trans (Below.keeps ((Below.refl _ _).alloc (Nat.le_refl _) o) R)
theorem Keeps.set {R:Nat} {a w:World} (h:Keeps R a w) (q:Nat) (sp:Option Nat) (v:Value):Keeps R a (w.setCell ⟨R,q,sp⟩ v) :=
 h.trans ⟨rfl,rfl,rfl,by simp [World.setCell],fun k _ hr=>Below.heap_setCell _ _ _ _ hr⟩
theorem Keeps.own {R:Nat} {a w:World} (h:Keeps R a w) {p:Addr} (hp:a.heap.size≤p.block) (v:Value):Keeps R a (w.setCell p v) :=
 ⟨h.os,h.tape,h.output,by simpa [World.setCell] using h.size,fun k hk hr=>(Below.heap_setCell _ _ _ _ (by omega)).trans (h.block k hk hr)⟩
theorem Keeps.cell {R:Nat} {w w':World} (h:Keeps R w w') {p:Addr} (hp:p.block < w.heap.size) (hr:p.block≠R):w'.cell? p=w.cell? p:=by
 have:=h.block p.block hp hr
 simp only [World.cell?,this]
theorem Keeps.frozen {R:Nat} {w w':World} (h:Keeps R w w') {p:Addr} (hp:p.block < w.heap.size) (hr:p.block≠R):w'.frozen? p=w.frozen? p:=by
 have:=h.block p.block hp hr
 simp only [World.frozen?,this]
theorem Keeps.below {R:Nat} {a w w':World} (hb:Below a.heap.size a w) (h:Keeps R w w') (hR:a.heap.size≤R):Below a.heap.size a w' :=
 hb.trans ⟨h.os,h.tape,h.output,h.size,fun k hk=>h.block k (Nat.lt_of_lt_of_le hk hb.size) (by omega)⟩
theorem Keeps.grown {R:Nat} {a w w':World} {row:Option Nat} (h:Keeps R a w) (hg:w.grownBy w' row) (hr:∀k,row=some k→a.heap.size≤k):Keeps R a w' :=
 ⟨hg.os.trans h.os,hg.tape.trans h.tape,hg.output.trans h.output,Nat.le_trans h.size hg.size,fun k hk hR =>
  (hg.block k (Nat.lt_of_lt_of_le hk h.size) (fun e=>by have:=hr k e.symm;omega)).trans (h.block k hk hR)⟩
theorem Lie.keeps {B:World→Prop} {lo R:Nat} {X:Nat→Prop} {w w':World} {t:Tm} (h:Lie B lo X w t) (k:Keeps R w w') (hR:R < lo∨X R):Lie B lo X w' t:=h.less k.size fun b h1 h2 h3=>⟨h1,h3,k.block b h2 (fun e=>hR.elim (fun h=>by omega) (fun h=>h3 (e ▸ h)))⟩
theorem keepv {w w':World} (hb:Below w.heap.size w w') {p:Addr} {v:Value} (h:w.cell? p=some v):w'.cell? p=some v:=by
 rw [hb.cell (World.block_lt_of_cell? w _ h)];exact h
end Go.Proofs.YtnghanpmmbcbbaaGreatDoor
namespace Go.Proofs.YtnghanpmmbcbbaaGreatDoor
open Go.RowKit
def tcells (l:List Tm):List Value:=l.flatMap Tm.cells
theorem cells_length (t:Tm):t.cells.length=4:=rfl
theorem tcells_length (l:List Tm):(tcells l).length=l.length*4:=by
 induction l with
 | nil=>rfl
 | cons t r ih=>simp only [tcells,List.flatMap_cons,List.length_append,cells_length,List.length_cons] at *;omega
theorem tcells_one (l:List Tm):∀u∈tcells l,u.oneCell'=true:=by
 intro u hu
 obtain ⟨t,_,ht⟩:=List.mem_flatMap.1 hu
 simp only [Tm.cells,List.mem_cons,List.not_mem_nil,or_false] at ht
 rcases ht with rfl|rfl|rfl|rfl<;>rfl
theorem tcells_get (l:List Tm) {i j:Nat} (hi:i < l.length) (hj:j < 4):(tcells l)[4*i+j]?=(l.getD i default).cells[j]?:=by
 induction l generalizing i with
 | nil=>simp at hi
 | cons t r ih =>
  simp only [tcells,List.flatMap_cons]
  cases i with
  | zero =>
   rw [List.getElem?_append_left (by rw [cells_length];omega)]
   simp
  | succ i =>
   rw [List.getElem?_append_right (by rw [cells_length];omega),cells_length,show 4*(i+1)+j - 4=4*i+j by omega]
   simpa [tcells] using ih (by simpa using hi)
theorem RowAt.cells {w:World} {l:List Tm} {b o:Nat} (h:RowAt w l b o):∀(j:Nat) (u:Value),(tcells l)[j]?=some u→w.cell? ((⟨b,o,none⟩:Addr).add j)=some u:=by
 induction l generalizing o with
 | nil=>intro j u hu;simp [tcells] at hu
 | cons t r ih =>
  intro j u hu
  simp only [RowAt] at h
  obtain ⟨⟨h0,h1,h2,h3⟩,_,hr⟩:=h
  rw [add_plain]
  simp only [tcells,List.flatMap_cons] at hu
  by_cases hj:j < 4
  ·rw [List.getElem?_append_left (by rw [cells_length];exact hj)] at hu
   match j,hj with
   | 0,_=>rw [←hu];exact h0
   | 1,_=>rw [←hu];exact h1
   | 2,_=>rw [←hu];exact h2
   | 3,_=>rw [←hu];exact h3
  ·rw [List.getElem?_append_right (by rw [cells_length];omega),cells_length] at hu
   have:=ih hr (j - 4) u hu
   rw [add_plain,show o+4+(j - 4)=o+j by omega] at this
   exact this
def Row4 (w:World) (g:Nat) (l:List Tm):Prop:=g < w.heap.size∧(∀j,w.frozen? ⟨g,j,none⟩=false)∧∀i j u,i < l.length→(l.getD i default).cells[j]?=some u→w.cell? ⟨g,4*i+j,none⟩=some u
theorem Row4.below {w w':World} {g:Nat} {l:List Tm} (h:Row4 w g l) (hb:Below w.heap.size w w'):Row4 w' g l:=by
 refine ⟨Nat.lt_of_lt_of_le h.1 hb.size,fun j=>?_,fun i j u hi hu=>?_⟩
 ·rw [hb.frozen (p:=⟨g,j,none⟩) h.1];exact h.2.1 j
 ·rw [hb.cell (p:=⟨g,4*i+j,none⟩) h.1];exact h.2.2 i j u hi hu
theorem own_block_lt {w:World} {base:Nat} {e:TypeId} {size:Nat} {g n c:Nat} {xs:List Value} (h:w.ownsRow base e size (.slice (some ⟨g,0,none⟩) n c) n xs):g < w.heap.size:=(World.ownsRow.lt h g rfl).2
theorem Row4.of {w:World} {base g c:Nat} {l:List Tm} (h:w.ownsRow base 69 4 (.slice (some ⟨g,0,none⟩) l.length c) l.length (tcells l)):Row4 w g l:=by
 refine ⟨own_block_lt h,fun j=>World.ownsRow.frozenAt h j,fun i j u hi hu=>?_⟩
 have hj:j < 4:=by
  have:=(List.getElem?_eq_some_iff.1 hu).1
  simpa [Tm.cells] using this
 rw [World.ownsRow.cellAt h (4*i+j) (by omega),tcells_get l hi hj]
 exact hu
def Cloned (w:World) (l:List Tm) (e:Ending) (w':World):Prop:=∃A cap,e=.returned (.slice A l.length cap)∧l.length≤cap∧cap≤maxLen∧(0 < l.length→∃g,A=some ⟨g,0,none⟩∧w.heap.size≤g∧Row4 w' g l)∧Below w.heap.size w w'
set_option maxHeartbeats 1000000 in
theorem clone_at (l:List Tm) (b o c:Nat) (w:World) (h0:0 < l.length) (hl:RowAt w l b o) (hsz:l.length≤1000000) :
  Calls Tryz.prog 124 #[.slice (some ⟨b,o,none⟩) l.length c] w (Cloned w l):=by
 obtain ⟨i0,hi,hz0,hz1,hz2⟩:=info_parts term_info
 have hn:=fun (W:World)=>Lib.run_eql_slice_nil (P:=Tryz.prog) W 51 69 (some ⟨b,o,none⟩) l.length c 0 0 Tryz.underlying51
 go_enter Tryz.func124,Tryz.ntmps124
 have hl1:RowAt (w.alloc (.cells #[] 69)) l b o:=(At_keep ((Below.refl _ _).alloc (Nat.le_refl _) _)).2 _ _ _ hl
 have HC:=Lib.hid hl1.cells
 have HO:=Lib.hid (World.ownsRow_lit (base:=w.heap.size) (e:=69) (size:=4) w #[] 0 (Nat.le_refl _) (Nat.zero_le _) rfl)
 clear hl hl1
 go_wp2_with (at_builtin;refine wpList_append_own _ rfl _ _ 51 rfl w.heap.size 69 i0 _ 4 56 Tryz.underlying51 hi hz0 hz1 hz2 rfl (by decide) _ 0 [] rfl HO.out ⟨b,o,none⟩ l.length c (tcells l) rfl (tcells_length l) HC.out (tcells_one l) (by unfold maxLen;omega) (by omega) (by simp) ?_;intro v' w1 hown1 hg1 _)
 have HG:=Lib.hid hg1
 have HW:=Lib.hid hown1
 clear hg1 hown1
 go_ret
 have hw:=HW.out
 simp only [Nat.zero_add,List.nil_append] at hw
 obtain ⟨hlen,hv⟩:=hw
 rcases hv with ⟨_,h⟩|⟨g,cap,cur,rfl,hb,hheap,hle,hcap,_,hcur⟩
 ·omega
 ·refine ⟨_,cap,rfl,hle,hcap,fun _=>⟨g,rfl,hb,Row4.of (base:=w.heap.size) (c:=cap) ?_⟩,?_⟩
  ·have hw:=HW.out
   simpa only [Nat.zero_add,List.nil_append] using hw
  ·exact ((Below.refl _ _).alloc (Nat.le_refl _) _).grown HG.out (by simp) (fun k hk=>(World.ownsRow.lt HO.out k hk).1)
set_option maxHeartbeats 1000000 in
theorem clone_none_at (A:Option Addr) (c:Nat) (w:World) :
  Calls Tryz.prog 124 #[.slice A 0 c] w (Cloned w []):=by
 obtain ⟨i0,hi,hz0,hz1,hz2⟩:=info_parts term_info
 have hn:=fun (W:World)=>Lib.run_eql_slice_nil (P:=Tryz.prog) W 51 69 A 0 c 0 0 Tryz.underlying51
 cases A with
 | none =>
  go_enter Tryz.func124,Tryz.ntmps124
  go_wp2_with fail
  go_ret
  exact ⟨none,0,rfl,Nat.le_refl _,Nat.zero_le _,fun h=>by simp at h,Below.refl _ _⟩
 | some a =>
  go_enter Tryz.func124,Tryz.ntmps124
  have HO:=Lib.hid (World.ownsRow_lit (base:=w.heap.size) (e:=69) (size:=4) w #[] 0 (Nat.le_refl _) (Nat.zero_le _) rfl)
  go_wp2_with (at_builtin;refine wpList_append_own _ rfl _ _ 51 rfl w.heap.size 69 i0 _ 4 56 Tryz.underlying51 hi hz0 hz1 hz2 rfl (by decide) _ 0 [] rfl HO.out a 0 c [] rfl rfl (fun _ _ h=>by simp at h) (fun _ h=>by simp at h) (by unfold maxLen;omega) (by omega) (by simp) ?_;intro v' w1 hown1 hg1 _)
  have HG:=Lib.hid hg1
  have HW:=Lib.hid hown1
  clear hg1 hown1
  go_ret
  have hb:Below w.heap.size w w1:=((Below.refl _ _).alloc (Nat.le_refl _) _).grown HG.out (by simp) (fun k hk=>(World.ownsRow.lt HO.out k hk).1)
  rcases HW.out.2 with ⟨rfl,_⟩|⟨g,cap,cur,rfl,_,_,_,hcap,_,_⟩
  ·exact ⟨none,0,rfl,Nat.le_refl _,Nat.zero_le _,fun h=>by simp at h,hb⟩
  ·exact ⟨_,cap,rfl,Nat.zero_le _,hcap,fun h=>by simp at h,hb⟩
theorem set4 (w:World) (g q:Nat) (v0 v1 v2 v3:Value) (h0:∀j,j < 4→(w.cell? ⟨g,q+j,none⟩).isSome=true) :
  ∀p:Addr,((((w.setCell ⟨g,q,none⟩ v0).setCell ⟨g,q+1,none⟩ v1).setCell ⟨g,q+2,none⟩ v2).setCell ⟨g,q+3,none⟩ v3).cell? p =
   if p=⟨g,q,none⟩ then some v0 else if p=⟨g,q+1,none⟩ then some v1 else if p=⟨g,q+2,none⟩ then some v2 else if p=⟨g,q+3,none⟩ then some v3 else w.cell? p:=by
 intro p
 have ne:∀i j:Nat,i≠j→(⟨g,q+i,none⟩:Addr)≠⟨g,q+j,none⟩:=fun i j h e=>by injection e with _ e _;omega
 have n01:(⟨g,q,none⟩:Addr)≠⟨g,q+1,none⟩:=ne 0 1 (by omega)
 have n02:(⟨g,q,none⟩:Addr)≠⟨g,q+2,none⟩:=ne 0 2 (by omega)
 have n03:(⟨g,q,none⟩:Addr)≠⟨g,q+3,none⟩:=ne 0 3 (by omega)
 have n12:=ne 1 2 (by omega)
 have n13:=ne 1 3 (by omega)
 have n23:=ne 2 3 (by omega)
 have s0:=h0 0 (by omega)
 have s1:=h0 1 (by omega)
 have s2:=h0 2 (by omega)
 have s3:=h0 3 (by omega)
 simp only [Nat.add_zero] at s0
 by_cases e0:p=⟨g,q,none⟩
 ·subst e0
  rw [if_pos rfl,World.cell?_setCell_other _ _ _ _ n03.symm,World.cell?_setCell_other _ _ _ _ n02.symm,World.cell?_setCell_other _ _ _ _ n01.symm,World.cell?_setCell_same' _ _ _ s0]
 rw [if_neg e0]
 by_cases e1:p=⟨g,q+1,none⟩
 ·subst e1
  rw [if_pos rfl,World.cell?_setCell_other _ _ _ _ n13.symm,World.cell?_setCell_other _ _ _ _ n12.symm,World.cell?_setCell_same' _ _ _ (by rw [World.cell?_setCell_other _ _ _ _ n01];exact s1)]
 rw [if_neg e1]
 by_cases e2:p=⟨g,q+2,none⟩
 ·subst e2
  rw [if_pos rfl,World.cell?_setCell_other _ _ _ _ n23.symm,World.cell?_setCell_same' _ _ _ (by rw [World.cell?_setCell_other _ _ _ _ n12,World.cell?_setCell_other _ _ _ _ n02];exact s2)]
 rw [if_neg e2]
 by_cases e3:p=⟨g,q+3,none⟩
 ·subst e3
  rw [if_pos rfl,World.cell?_setCell_same' _ _ _ (by rw [World.cell?_setCell_other _ _ _ _ n23,World.cell?_setCell_other _ _ _ _ n13,World.cell?_setCell_other _ _ _ _ n03];exact s3)]
 rw [if_neg e3,World.cell?_setCell_other _ _ _ _ (Ne.symm e3),World.cell?_setCell_other _ _ _ _ (Ne.symm e2),World.cell?_setCell_other _ _ _ _ (Ne.symm e1),World.cell?_setCell_other _ _ _ _ (Ne.symm e0)]
theorem Row4.some_cell {w:World} {g:Nat} {l:List Tm} (h:Row4 w g l) {i:Nat} (hi:i < l.length):∀j,j < 4→(w.cell? ⟨g,i*4+j,none⟩).isSome=true:=by
 intro j hj
 have e:(l.getD i default).cells.length=4:=rfl
 rw [Nat.mul_comm,h.2.2 i j _ hi (List.getElem?_eq_getElem (by omega))]
 rfl
theorem Row4.store {w:World} {g:Nat} {l:List Tm} (h:Row4 w g l) {i:Nat} (hi:i < l.length) (u:Tm) :
  Row4 ((((w.setCell ⟨g,i*4,none⟩ (.int .i64 u.kind)).setCell ⟨g,i*4+1,none⟩ (.int .i64 u.num)).setCell ⟨g,i*4+2,none⟩ (.string u.name)).setCell ⟨g,i*4+3,none⟩ (.slice u.at_ u.args.length u.cap)) g (l.set i u):=by
 refine ⟨by simpa using h.1,fun j=>by simp only [World.frozen?_setCell];exact h.2.1 j,fun i' j v hi' hv=>?_⟩
 rw [List.length_set] at hi'
 rw [set4 _ _ _ _ _ _ _ (h.some_cell hi)]
 have hj:j < 4:=by
  have:=(List.getElem?_eq_some_iff.1 hv).1
  simpa [Tm.cells] using this
 by_cases e:i'=i
 ·subst e
  have ev:(l.set i' u).getD i' default=u:=by simp [List.getD,hi']
  rw [ev] at hv
  have ad:∀a b:Nat,a≠b→¬(⟨g,4*i'+a,none⟩:Addr)=⟨g,i'*4+b,none⟩:=fun a b hab h=>by injection h with _ h _;omega
  have ad0:∀a:Nat,a≠0→¬(⟨g,4*i'+a,none⟩:Addr)=⟨g,i'*4,none⟩:=fun a ha h=>by injection h with _ h _;omega
  match j,hj with
  | 0,_=>rw [if_pos (by rw [Nat.mul_comm];rfl)];exact hv
  | 1,_=>rw [if_neg (ad0 1 (by omega)),if_pos (by rw [Nat.mul_comm])];exact hv
  | 2,_=>rw [if_neg (ad0 2 (by omega)),if_neg (ad 2 1 (by omega)),if_pos (by rw [Nat.mul_comm])];exact hv
  | 3,_=>rw [if_neg (ad0 3 (by omega)),if_neg (ad 3 1 (by omega)),if_neg (ad 3 2 (by omega)),if_pos (by rw [Nat.mul_comm])];exact hv
 ·have ev:(l.set i u).getD i' default=l.getD i' default:=by simp [List.getD,Ne.symm e]
  rw [ev] at hv
  have ad:∀b:Nat,b < 4→¬(⟨g,4*i'+j,none⟩:Addr)=⟨g,i*4+b,none⟩:=fun b hb h=>by injection h with _ h _;omega
  have ad0:¬(⟨g,4*i'+j,none⟩:Addr)=⟨g,i*4,none⟩:=fun h=>by injection h with _ h _;omega
  rw [if_neg ad0,if_neg (ad 1 (by omega)),if_neg (ad 2 (by omega)),if_neg (ad 3 (by omega))]
  exact h.2.2 i' j v hi' hv
theorem Row4.at {w:World} {g:Nat} {l:List Tm} (h:Row4 w g l) (W:World) (hc:∀j,W.cell? ⟨g,j,none⟩=w.cell? ⟨g,j,none⟩) (ha:∀x∈l,x.At W):RowAt W l g 0:=by
 refine RowAt.of fun i hi=>⟨fun j u hu=>?_,ha _ (getD_mem hi)⟩
 rw [Nat.zero_add,hc]
 exact h.2.2 i j u hi hu
end Go.Proofs.YtnghanpmmbcbbaaGreatDoor
namespace Go.Proofs.YtnghanpmmbcbbaaGreatDoor
open Go
structure Bd where
 var:Int
 tm:Tm
instance:Inhabited Bd:=⟨⟨0,default⟩⟩
def Bd.strip (x:Bd):Bd:=⟨x.var,x.tm.strip⟩
def stripB (b:List Bd):List Bd:=b.map Bd.strip
def look:List Bd→Int→Option Tm
 | [],_=>none
 | x :: r,v=>if x.var=v then some x.tm else look r v
theorem look_some {b:List Bd} {v:Int} {t:Tm} (h:look b v=some t):∃x∈b,x.var=v∧x.tm=t:=by
 induction b with
 | nil=>simp [look] at h
 | cons x r ih =>
  simp only [look] at h
  split at h
  ·rename_i hv;injection h with h;exact ⟨x,by simp,hv,h⟩
  ·obtain ⟨y,hy,h1,h2⟩:=ih h
   exact ⟨y,by simp [hy],h1,h2⟩
mutual
def Tm.app (b:List Bd):Tm→Tm
 | .mk k n s A c a=>if k=1 then (look b n).getD (.mk k n s A c a) else if k=2 then .mk k n s A c (appL b a) else .mk k n s A c a
def appL (b:List Bd):List Tm→List Tm
 | []=>[]
 | t :: r=>t.app b :: appL b r
end
def okAt (b:List Bd) (i:Nat):Bool:=(decide (0≤(b.getD i default).var)&&decide ((b.getD i default).var≤1048576))&&((b.getD i default).tm.right&&(decide (i=0)||decide ((b.getD (i - 1) default).var < (b.getD i default).var)))
def okUp (b:List Bd) (j:Nat):Bool:=(List.range j).all (okAt b)
def apartB (b:List Bd):Bool:=b.all fun x=>x.tm.occ.all fun v=>(look b v).isNone
def rightS (b:List Bd):Bool:=okUp b b.length&&apartB b
def Asc (b:List Bd):Prop:=b.Pairwise fun x y=>x.var < y.var
def Dis (b:List Bd):Prop:=b.Pairwise fun x y=>x.var≠y.var
def insB (x:Bd):List Bd→List Bd
 | []=>[x]
 | y :: r=>if y.var < x.var then y :: insB x r else x :: y :: r
def sortB (l:List Bd):List Bd:=l.foldl (fun acc x=>insB x acc) []
def isV (t:Tm) (v:Int):Bool:=decide (t.kind=1)&&decide (t.num=v)
def keepA (c:List Bd) (x:Bd):Option Bd:=if isV (x.tm.app c) x.var then none else some ⟨x.var,x.tm.app c⟩
def compA (a c:List Bd):List Bd:=a.filterMap (keepA c)
def compC (a c:List Bd):List Bd:=c.filter fun x=>(look a x.var).isNone
def compL (a c:List Bd):List Bd:=compA a c++compC a c
def allRight (b:List Bd):Bool:=b.all fun x=>x.tm.right
def comp (a c:List Bd):List Bd×Int :=
 if (rightS a&&rightS c)=false then ([],2)
 else if allRight (sortB (compL a c))=false then ([],6)
 else if rightS (sortB (compL a c))=false then ([],2)
 else (sortB (compL a c),0)
end Go.Proofs.YtnghanpmmbcbbaaGreatDoor
namespace Go.Proofs.YtnghanpmmbcbbaaGreatDoor
open Go.RowKit
structure Held (B:Nat) (w:World) (v0 v1 v2 v3:Value):Prop where
 lt:B < w.heap.size
 c0:w.cell? ⟨B,0,none⟩=some v0
 c1:w.cell? ⟨B,1,none⟩=some v1
 c2:w.cell? ⟨B,2,none⟩=some v2
 c3:w.cell? ⟨B,3,none⟩=some v3
 free:∀j,w.frozen? ⟨B,j,none⟩=false
section
variable {B:Nat} {w w':World} {v0 v1 v2 v3:Value}
theorem Held.below (h:Held B w v0 v1 v2 v3) (hb:Below w.heap.size w w'):Held B w' v0 v1 v2 v3 :=
 ⟨Nat.lt_of_lt_of_le h.lt hb.size,keepv hb h.c0,keepv hb h.c1,keepv hb h.c2,keepv hb h.c3,fun j=>(hb.frozen (p:=⟨B,j,none⟩) h.lt).trans (h.free j)⟩
theorem Held.alloc (h:Held B w v0 v1 v2 v3) (o:Obj):Held B (w.alloc o) v0 v1 v2 v3:=h.below ((Below.refl _ _).alloc (Nat.le_refl _) o)
theorem Held.other (h:Held B w v0 v1 v2 v3) {p:Addr} (hp:p.block≠B) (v:Value):Held B (w.setCell p v) v0 v1 v2 v3:=by
 have ne:∀j,p≠⟨B,j,none⟩:=fun j e=>hp (by rw [e])
 refine ⟨by simpa [World.setCell] using h.lt,?_,?_,?_,?_,fun j=>by rw [World.frozen?_setCell];exact h.free j⟩
 ·rw [World.cell?_setCell_other _ _ _ _ (ne _)];exact h.c0
 ·rw [World.cell?_setCell_other _ _ _ _ (ne _)];exact h.c1
 ·rw [World.cell?_setCell_other _ _ _ _ (ne _)];exact h.c2
 ·rw [World.cell?_setCell_other _ _ _ _ (ne _)];exact h.c3
theorem Held.other4 (h:Held B w v0 v1 v2 v3) {g q0 q1 q2 q3:Nat} (hg:g≠B) (u0 u1 u2 u3:Value):Held B ((((w.setCell ⟨g,q0,none⟩ u0).setCell ⟨g,q1,none⟩ u1).setCell ⟨g,q2,none⟩ u2).setCell ⟨g,q3,none⟩ u3) v0 v1 v2 v3 :=
 (((h.other (p:=⟨g,q0,none⟩) hg _).other (p:=⟨g,q1,none⟩) hg _).other (p:=⟨g,q2,none⟩) hg _).other (p:=⟨g,q3,none⟩) hg _
theorem held_new (w:World) (T:TypeId):Held w.heap.size (w.alloc (.cells #[v0,v1,v2,v3] T)) v0 v1 v2 v3:=by
 have h:∀j,(w.alloc (.cells #[v0,v1,v2,v3] T)).cell? ⟨w.heap.size,j,none⟩=(#[v0,v1,v2,v3]:Array Value)[j]?:=fun j=>World.cell?_alloc_at _ _ _ _ rfl
 exact ⟨by simp,h 0,h 1,h 2,h 3,fun j=>World.frozen?_alloc_at _ _ _ _ rfl⟩
end
theorem heap_set4 (w:World) {g q0 q1 q2 q3 b:Nat} (hb:b≠g) (u0 u1 u2 u3:Value):((((w.setCell ⟨g,q0,none⟩ u0).setCell ⟨g,q1,none⟩ u1).setCell ⟨g,q2,none⟩ u2).setCell ⟨g,q3,none⟩ u3).heap[b]?=w.heap[b]?:=by
 rw [Below.heap_setCell _ _ _ _ hb,Below.heap_setCell _ _ _ _ hb,Below.heap_setCell _ _ _ _ hb,Below.heap_setCell _ _ _ _ hb]
theorem size_set4 (w:World) (g q0 q1 q2 q3:Nat) (u0 u1 u2 u3:Value):((((w.setCell ⟨g,q0,none⟩ u0).setCell ⟨g,q1,none⟩ u1).setCell ⟨g,q2,none⟩ u2).setCell ⟨g,q3,none⟩ u3).heap.size=w.heap.size:=by simp [World.setCell]
def Putting (f:Tm→Tm) (l:List Tm) (g lo j:Nat) (wr:World):Prop :=
 ∃news:List Tm,news.length=j∧stripL news=stripL ((l.take j).map f)∧Row4 wr g (news++l.drop j)∧∀x∈news,Lie Any lo (Is g) wr x
section
variable {f:Tm→Tm} {l:List Tm} {g lo j:Nat} {wr:World}
theorem Putting.below {w':World} (h:Putting f l g lo j wr) (hb:Below wr.heap.size wr w'):Putting f l g lo j w':=by
 obtain ⟨news,hn,hs,hr,hk⟩:=h
 exact ⟨news,hn,hs,hr.below hb,fun x hx=>(hk x hx).below hb⟩
theorem Putting.cells (h:Putting f l g lo j wr) (hj:j < l.length):∀i v,(l.getD j default).cells[i]?=some v→wr.cell? ⟨g,j*4+i,none⟩=some v:=by
 obtain ⟨news,hn,hs,hr,hk⟩:=h
 intro i v hv
 have hgx:(news++l.drop j).getD j default=l.getD j default:=by
  simp [List.getD,List.getElem?_append_right (show news.length≤j by omega),hn]
 rw [Nat.mul_comm]
 exact hr.2.2 j i v (by simp;omega) (by rw [hgx];exact hv)
theorem Putting.lt (h:Putting f l g lo j wr):g < wr.heap.size:=by
 obtain ⟨_,_,_,hr,_⟩:=h
 exact hr.1
theorem Putting.free (h:Putting f l g lo j wr):∀i,wr.frozen? ⟨g,i,none⟩=false:=by
 obtain ⟨_,_,_,hr,_⟩:=h
 exact hr.2.1
theorem Putting.start (h:Row4 wr g l):Putting f l g lo 0 wr:=⟨[],rfl,rfl,by simpa using h,fun x hx=>by cases hx⟩
theorem Putting.other (h:Putting f l g lo j wr) {p:Addr} (h1:p.block < lo) (h2:p.block≠g) (v:Value):Putting f l g lo j (wr.setCell p v):=by
 obtain ⟨news,hn,hs,hr,hk⟩:=h
 refine ⟨news,hn,hs,⟨by simpa [World.setCell] using hr.1,fun j=>by rw [World.frozen?_setCell];exact hr.2.1 j,fun i q u hi hu=>?_⟩,fun x hx=>(hk x hx).set (.inl h1) v⟩
 rw [World.cell?_setCell_other _ _ _ _ (fun e=>h2 (by rw [e]))]
 exact hr.2.2 i q u hi hu
theorem Putting.done (h:Putting f l g lo l.length wr) {w':World} (hlo:lo≤g) (hs:wr.heap.size≤w'.heap.size) (ha:∀b,lo≤b→b < wr.heap.size→w'.heap[b]?=wr.heap[b]?) (cap:Nat) (hc:l.length≤cap) (hcm:cap≤maxLen) :
  ∃news:List Tm,news.length=l.length∧stripL news=stripL (l.map f)∧∀W,Agree lo No w' W→Lst W (some ⟨g,0,none⟩) news cap:=by
 obtain ⟨news,hn,hst,hr,hk⟩:=h
 rw [List.drop_length,List.append_nil] at hr
 rw [List.take_length] at hst
 refine ⟨news,hn,hst,fun W hW=>⟨by omega,hcm,fun _=>⟨g,0,rfl,?_⟩⟩⟩
 have hag:∀b,lo≤b→b < wr.heap.size→W.heap[b]?=wr.heap[b]?:=fun b h1 h2=>(hW b h1 (Nat.lt_of_lt_of_le h2 hs) (fun h=>h)).trans (ha b h1 h2)
 refine hr.at W (fun q=>?_) fun x hx=>hk x hx W trivial fun b h1 h2 _=>hag b h1 h2
 have:=hag g hlo hr.1
 simp only [World.cell?,this]
end
end Go.Proofs.YtnghanpmmbcbbaaGreatDoor
namespace Go.Proofs.YtnghanpmmbcbbaaGreatDoor
open Go.ChangeShapes Go.WideShapes Go.ChangeAt Go.RowKit
abbrev Bd.val (x:Bd):Value:=.agg #[.int .i64 x.var,.int .i64 x.tm.kind,.int .i64 x.tm.num,.string x.tm.name,.slice x.tm.at_ x.tm.args.length x.tm.cap]
def Bd.cells (x:Bd):List Value:=[.int .i64 x.var,.int .i64 x.tm.kind,.int .i64 x.tm.num,.string x.tm.name,.slice x.tm.at_ x.tm.args.length x.tm.cap]
def BRow (w:World) (l:List Bd) (b o:Nat):Prop:=∀i,i < l.length→(∀j u,(l.getD i default).cells[j]?=some u→w.cell? ⟨b,o+i*5+j,none⟩=some u)∧Fits (l.getD i default).var∧(l.getD i default).tm.At w
def BLst (w:World) (A:Option Addr) (l:List Bd) (c:Nat):Prop:=l.length≤c∧c≤maxLen∧(0 < l.length→∃b o,A=some ⟨b,o,none⟩∧BRow w l b o)
section
variable {w w':World} {A:Option Addr} {l:List Bd} {c b o:Nat}
theorem BRow.below (h:BRow w l b o) (hb:Below w.heap.size w w'):BRow w' l b o:=fun i hi=>⟨fun j u hu=>keepv hb ((h i hi).1 j u hu),(h i hi).2.1,(h i hi).2.2.below hb⟩
theorem BLst.below (h:BLst w A l c) (hb:Below w.heap.size w w'):BLst w' A l c:=⟨h.1,h.2.1,fun hn=>by
 obtain ⟨b,o,e,hr⟩:=h.2.2 hn
 exact ⟨b,o,e,hr.below hb⟩⟩
theorem BRow.get (h:BRow w l b o) {i:Nat} (hi:i < l.length) :
  (w.cell? ⟨b,o+i*5,none⟩=some (.int .i64 (l.getD i default).var)∧w.cell? ⟨b,o+i*5+1,none⟩=some (.int .i64 (l.getD i default).tm.kind)∧w.cell? ⟨b,o+i*5+2,none⟩=some (.int .i64 (l.getD i default).tm.num)∧w.cell? ⟨b,o+i*5+3,none⟩=some (.string (l.getD i default).tm.name) ∧
   w.cell? ⟨b,o+i*5+4,none⟩=some (.slice (l.getD i default).tm.at_ (l.getD i default).tm.args.length (l.getD i default).tm.cap))∧Fits (l.getD i default).var∧(l.getD i default).tm.At w:=by
 have h1:=h i hi
 exact ⟨⟨h1.1 0 _ rfl,h1.1 1 _ rfl,h1.1 2 _ rfl,h1.1 3 _ rfl,h1.1 4 _ rfl⟩,h1.2⟩
theorem BLst.get (h:BLst w A l c) {i:Nat} (hi:i < l.length):∃b o,A=some ⟨b,o,none⟩ ∧
  (w.cell? ⟨b,o+i*5,none⟩=some (.int .i64 (l.getD i default).var)∧w.cell? ⟨b,o+i*5+1,none⟩=some (.int .i64 (l.getD i default).tm.kind)∧w.cell? ⟨b,o+i*5+2,none⟩=some (.int .i64 (l.getD i default).tm.num)∧w.cell? ⟨b,o+i*5+3,none⟩=some (.string (l.getD i default).tm.name) ∧
   w.cell? ⟨b,o+i*5+4,none⟩=some (.slice (l.getD i default).tm.at_ (l.getD i default).tm.args.length (l.getD i default).tm.cap))∧Fits (l.getD i default).var∧(l.getD i default).tm.At w:=by
 obtain ⟨b,o,e,hr⟩:=h.2.2 (by omega)
 exact ⟨b,o,e,hr.get hi⟩
theorem BLst.mem (h:BLst w A l c) {x:Bd} (hx:x∈l):Fits x.var∧x.tm.At w:=by
 obtain ⟨i,hi,e⟩:=List.mem_iff_getElem.1 hx
 obtain ⟨_,_,_,_,h2⟩:=h.get hi
 simpa [List.getD,List.getElem?_eq_getElem hi,e] using h2
theorem BLst.len (h:BLst w A l c):l.length≤9223372036854775807:=by have:=h.1;have:=h.2.1;unfold maxLen at *;omega
theorem BLst.nil (w:World):BLst w none [] 0:=⟨Nat.le_refl _,Nat.zero_le _,fun h=>absurd h (by simp)⟩
theorem BLst.look (h:BLst w A l c) {v:Int} {t:Tm} (ht:look l v=some t):t.At w:=by
 obtain ⟨x,hx,_,rfl⟩:=look_some ht
 exact (h.mem hx).2
end
structure TypesB (P:Program) (I S L T B BL:TypeId):Prop where
 tms:Types P I S L T
 lst:P.underlying BL=some (.slice B)
 bd:∃f0 f1:Field,P.underlying B=some (.struct #[f0,f1])∧(f0.type=I∧f0.offset=0)∧(f1.type=T∧f1.offset=1)
 cB:P.cellsOf B=5
 cBL:P.cellsOf BL=1
section
variable {H:Type} {enc:TypeId×Value→H} {P:Program} {W:World} {base:Nat} {spare:Nat→Bool} {held:Bool} {I S L T B BL:TypeId}
end
end Go.Proofs.YtnghanpmmbcbbaaGreatDoor
namespace Go.Proofs.YtnghanpmmbcbbaaGreatDoor
open Go.RowKit Go.Sort
theorem less_eq {a b:List UInt8} (h1:Op.bytesLess a b=false) (h2:Op.bytesLess b a=false):a=b:=by
 induction a generalizing b with
 | nil=>cases b<;>simp [Op.bytesLess] at *
 | cons x r ih =>
  cases b with
  | nil=>simp [Op.bytesLess] at h2
  | cons y q =>
   simp only [Op.bytesLess,Bool.or_eq_false_iff,Bool.and_eq_false_iff,decide_eq_false_iff_not,beq_eq_false_iff_ne,UInt8.lt_iff_toNat_lt] at h1 h2
   have e:x=y:=UInt8.toNat_inj.1 (by omega)
   subst e
   rw [ih (h1.2.resolve_left (fun h=>h rfl)) (h2.2.resolve_left (fun h=>h rfl))]
theorem ref_ints_at (x y:Int) (w:World) {r:Int} (hr:ints x y=r):Calls Tryz.prog 160 #[.int .i64 x,.int .i64 y] w fun e w'=>e=.returned (.int .i64 r)∧w=w':=by
 have HV:=Lib.hid hr
 clear hr
 by_cases h1:x < y
 ·have HE:=Lib.hid (ints_lt h1)
  go_enter Tryz.func160,Tryz.ntmps160
  go_wp2_with fail
  go_ret
  exact ⟨by rw [←HV.out,HE.out];rfl,rfl⟩
 ·have h1':decide (x < y)=false:=by simpa using h1
  by_cases h2:y < x
  ·have HE:=Lib.hid (ints_gt h2)
   clear h1
   go_enter Tryz.func160,Tryz.ntmps160
   go_wp2_with fail
   go_ret
   exact ⟨by rw [←HV.out,HE.out];rfl,rfl⟩
  ·have h2':decide (y < x)=false:=by simpa using h2
   have HE := Lib.hid (show ints x y = 0 by have e : x = y := by omega
                                            rw [e, ints_self])
   clear h1 h2
   go_enter Tryz.func160,Tryz.ntmps160
   go_wp2_with fail
   go_ret
   exact ⟨by rw [←HV.out,HE.out];rfl,rfl⟩
theorem ref_texts_at (a b:ByteArray) (w:World) {r:Int} (hr:texts a.data.toList b.data.toList=r):Calls Tryz.prog 159 #[.string a,.string b] w fun e w'=>e=.returned (.int .i64 r)∧w=w':=by
 have HV:=Lib.hid hr
 clear hr
 have z:=texts_tri a.data.toList b.data.toList a.data.toList
 rw [texts_self] at z
 obtain ⟨b1,h1⟩:∃c,Op.bytesLess a.data.toList b.data.toList=c:=⟨_,rfl⟩
 obtain ⟨b2,h2⟩:∃c,Op.bytesLess b.data.toList a.data.toList=c:=⟨_,rfl⟩
 have e1:Op.bytesLess a.toList b.toList=b1:=by rw [raw_list,raw_list,h1]
 have e2:Op.bytesLess b.toList a.toList=b2:=by rw [raw_list,raw_list,h2]
 obtain ⟨b3,e3⟩:∃c,(a.toList==b.toList)=c:=⟨_,rfl⟩
 have HT:=Lib.hid (show (!b1 && !b3)=(!b1&&b2) by
  cases b1
  ·simp only [texts,h1,h2] at z
   cases b3
   ·cases b2
    ·exfalso
     have hne:a.data.toList≠b.data.toList:=by
      intro e
      rw [raw_list,raw_list,e] at e3
      simp at e3
     exact hne (less_eq h1 h2)
    ·rfl
   ·have e:a.data.toList=b.data.toList:=by rw [raw_list,raw_list] at e3;simpa using e3
    rw [e,bytesLess_self] at h2
    rw [←h2];rfl
  ·rfl)
 have HE:=Lib.hid (show texts a.data.toList b.data.toList=if b1 then -1 else if b2 then 1 else 0 by unfold texts;rw [h1,h2])
 clear h1 h2 z
 cases b1
 ·cases b3
  ·obtain rfl:b2=true:=by simpa using HT.out
   clear e2
   go_enter Tryz.func159,Tryz.ntmps159
   go_wp2_with fail
   go_ret
   exact ⟨by rw [←HV.out,HE.out];rfl,rfl⟩
  ·obtain rfl:b2=false:=by simpa using HT.out
   clear e2
   go_enter Tryz.func159,Tryz.ntmps159
   go_wp2_with fail
   go_ret
   exact ⟨by rw [←HV.out,HE.out];rfl,rfl⟩
 ·clear e2 e3
  go_enter Tryz.func159,Tryz.ntmps159
  go_wp2_with fail
  go_ret
  exact ⟨by rw [←HV.out,HE.out];rfl,rfl⟩
theorem class_at (t:Tm) (w:World) {r:Int} (hr:cls t.kind=r):Calls Tryz.prog 208 #[t.val] w fun e w'=>e=.returned (.int .i64 r)∧Below w.heap.size w w':=by
 obtain ⟨k,n,s,A,c,a⟩:=t
 show Calls Tryz.prog 208 #[.agg #[.int .i64 k,.int .i64 n,.string s,.slice A a.length c]] w _
 have HV:=Lib.hid (show cls k=r from hr)
 clear hr
 by_cases h1:k=1
 ·subst h1
  have HE:=Lib.hid (show cls 1=0 by simp [cls])
  go_enter Tryz.func208,Tryz.ntmps208
  go_wp2_with fail
  go_ret
  exact ⟨by rw [←HV.out,HE.out];rfl,(Below.refl _ _).alloc (Nat.le_refl _) _⟩
 have e1:(k==1)=false:=by simp [h1]
 by_cases h0:k=0
 ·subst h0
  have HE:=Lib.hid (show cls 0=1 by simp [cls])
  go_enter Tryz.func208,Tryz.ntmps208
  go_wp2_with fail
  go_ret
  exact ⟨by rw [←HV.out,HE.out];rfl,(Below.refl _ _).alloc (Nat.le_refl _) _⟩
 have e0:(k==0)=false:=by simp [h0]
 by_cases h2:k=2
 ·subst h2
  have HE:=Lib.hid (show cls 2=2 by simp [cls])
  go_enter Tryz.func208,Tryz.ntmps208
  go_wp2_with fail
  go_ret
  exact ⟨by rw [←HV.out,HE.out];rfl,(Below.refl _ _).alloc (Nat.le_refl _) _⟩
 have e2:(k==2)=false:=by simp [h2]
 have HE:=Lib.hid (show cls k=3 by simp [cls,h1,h0,h2])
 clear h0 h1 h2
 go_enter Tryz.func208,Tryz.ntmps208
 go_wp2_with fail
 go_ret
 exact ⟨by rw [←HV.out,HE.out];rfl,(Below.refl _ _).alloc (Nat.le_refl _) _⟩
end Go.Proofs.YtnghanpmmbcbbaaGreatDoor
namespace Go.Proofs.YtnghanpmmbcbbaaGreatDoor
open Go.RowKit
def Srt (l:List Bd):Prop:=∀i j,i≤j→j < l.length→(l.getD i default).var≤(l.getD j default).var
def SBound (l:List Bd) (v:Int) (i:Nat):Prop:=(∀k,k < i→(l.getD k default).var < v)∧(∀k,i≤k→k < l.length→v≤(l.getD k default).var)
theorem Asc.srt {l:List Bd} (h:Asc l):Srt l:=fun i j hij hj=>by
 rcases Nat.lt_or_ge i j with h1|h1
 ·have:=List.pairwise_iff_getElem.1 h i j (by omega) hj h1
  simp only [List.getD,List.getElem?_eq_getElem hj,List.getElem?_eq_getElem (show i < l.length by omega),Option.getD_some]
  omega
 ·obtain rfl:i=j:=by omega
  exact Int.le_refl _
def SEnded (l:List Bd) (v:Int) (w:World) (e:Ending) (w':World):Prop :=
 ∃i:Nat,i≤l.length∧SBound l v i∧(∃r:Bool,(r=true↔i < l.length∧(l.getD i default).var=v)∧e=.returned (.tuple #[.int .i64 i,.bool r]))∧Below w.heap.size w w'
end Go.Proofs.YtnghanpmmbcbbaaGreatDoor
namespace Go.Proofs.YtnghanpmmbcbbaaGreatDoor
open Go.RowKit
theorem Lst.drewN {w:World} {A:Option Addr} {l:List Tm} {c:Nat} (h:Lst w A l c) (n:Nat):Lst (w.drewN n) A l c:=h.below (below_drewN (Below.refl _ _) n)
set_option maxHeartbeats 1000000 in
theorem weigh_at (deep:Nat):∀(l:List Tm) (A:Option Addr) (c:Nat) (left:Int) (w:World),Lst w A l c→deep≤64 → -4611686018427387904≤left→left≤1000000 →
  Calls Tryz.prog 47 #[.slice A l.length c,.int .i64 left,.int .i64 (deep:Int)] w fun e w'=>e=.returned (.int .i64 (weigh l left deep))∧∃n,w'=w.drewN n:=by
 induction deep with
 | zero =>
  intro l A c left w hl _ hlo hhi
  have HV:=Lib.hid (show weigh l left ((0:Nat):Int) = -1 by simp [weigh])
  go_enter Tryz.func47,Tryz.ntmps47
  go_wp2_with fail
  go_ret
  exact ⟨by rw [HV.out];rfl,0,rfl⟩
 | succ deep ih =>
  intro l A c left w hl hd hlo hhi
  rw [show ((deep+1:Nat):Int)=(deep:Int)+1 by omega]
  have hlen:l.length≤9223372036854775807:=by have:=hl.1;have:=hl.2.1;unfold maxLen at *;omega
  have hd0:(((deep:Int)+1)==0)=false:=by simp;omega
  by_cases hgt:left < (l.length:Int)
  ·have HV:=Lib.hid (show weigh l left ((deep:Int)+1) = -1 by simp [weigh,hgt])
   go_enter Tryz.func47,Tryz.ntmps47
   go_wp2_with fail
   go_ret
   exact ⟨by rw [HV.out];rfl,0,rfl⟩
  ·have HV:=Lib.hid (show weigh l left ((deep:Int)+1)=weighL l left ((deep:Int)+1) by unfold weigh;rw [if_neg (by omega)])
   have hgt':decide (left < (l.length:Int))=false:=by simpa using hgt
   have h0:0≤left:=by omega
   clear hgt
   have QI:=Lib.hid ih
   clear ih
   go_enter Tryz.func47,Tryz.ntmps47
   go_wp2_with fail
   go_loopw [1,7] (fun z i wr=>∃j:Nat,j≤l.length∧i=.int .i64 j∧z=.int .i64 (weighL (l.take j) left ((deep:Int)+1))∧Hid (∃n,wr=w.drewN n)) (fun _ i _=>l.length - (intOf i).toNat)
   case atStart=>exact ⟨0,Nat.zero_le _,rfl,rfl,Lib.hid ⟨0,rfl⟩⟩
   case round =>
    obtain ⟨j,hj,rfl,rfl,hb⟩:=hrel
    have z1:=weigh_lo.2 (l.take j) left ((deep:Int)+1) (by omega)
    have z2:=weighL_hi (l.take j) left ((deep:Int)+1) (by omega)
    have HS:=Lib.hid (fun h=>weighL_stop (l:=l) (k:=j) left ((deep:Int)+1) h)
    have HN:=Lib.hid (fun h=>weighL_next (l:=l) (k:=j) h left ((deep:Int)+1))
    obtain ⟨z,hz⟩:∃z,weighL (l.take j) left ((deep:Int)+1)=z:=⟨_,rfl⟩
    rw [hz] at z1 z2 HS HN ⊢
    have HZ:=Lib.hid hz
    clear hz
    by_cases hlt:j < l.length
    ·by_cases hz0:0≤z
     ·have hlr:Lst wr A l c:=by obtain ⟨n,rfl⟩:=hb.out;exact hl.drewN n
      obtain ⟨b,o,rfl,⟨c0,c1,c2,c3⟩,hx⟩:=hlr.get hlt
      have HN':=Lib.hid (HN.out hlt hz0)
      clear HN HS
      generalize l.getD j default=x at *
      obtain ⟨k',n',s',A',c',a'⟩:=x
      simp only [Tm.kind,Tm.num,Tm.name,Tm.at_,Tm.args,Tm.cap] at c0 c1 c2 c3
      have hs':s'.size≤9223372036854775807:=by have:=((At_iff _ _).1 hx).1.2.2;unfold maxLen at this;exact this
      have Q1:=Lib.hid (QI.out a' A' c' (z - 1 - (s'.size:Int) / 8))
      have HX:=Lib.hid (show Lst wr A' a' c' from hx.lst)
      clear hx QI
      go_wp2_with fail
      go_quiet ((go_at_call 47;exact Calls.quiet_of (Q1.out _ (HX.out.drewN _) (by omega) (by omega) (by omega))))
      go_wp2_with fail
      go_roundw
      case rel =>
       refine ⟨j+1,by omega,by go_num,?_,?_⟩
       ·rw [HN'.out]
        have e:((deep:Int)+1) - 1=(deep:Int):=by omega
        simp only [Tm.args,Tm.name,e]
       ·obtain ⟨n,hn⟩:=hb.out
        exact Lib.hid ⟨n+nq,by rw [hn,World.drewN_drewN]⟩
      case measure=>simp [intOf];omega
     ·have hz0':z < 0:=by omega
      have HE:=Lib.hid (HS.out hz0')
      clear HN HS
      go_wp2_with fail
      go_ret
      exact ⟨by rw [HV.out,HE.out];rfl,hb.out⟩
    ·obtain rfl:j=l.length:=by omega
     have HE:=Lib.hid (show weighL l left ((deep:Int)+1)=z by rw [←HZ.out,List.take_length])
     clear HN HS
     go_wp2_with fail
     go_ret
     exact ⟨by rw [HV.out,HE.out];rfl,hb.out⟩
end Go.Proofs.YtnghanpmmbcbbaaGreatDoor
