/-
  TmStrip.
  PaKeep.
  SyScan.
 SyPlain.
 PrTok.
 PrFail.
 PaRest.
 SyExt.
 SySuf.
 SyApp.
 SyProg.
-/
import Derived.Test.YtaojnljppcnhjaaGreatDoorMf1
import Derived.Deep.QuietTactic
import Derived.BigQuiet
import Derived.BigRegion
import Derived.Deep.LoopGhost
import Derived.WalkSpells
import Derived.Lib.Strings
namespace Go.Proofs.YtaojnljppcnhjaaGreatDoor
open Go
mutual
def Tm.strip:Tm→Tm
 | .mk k n s _ _ a=>.mk k n s none 0 (stripL a)
def stripL:List Tm→List Tm
 | []=>[]
 | t :: r=>t.strip :: stripL r
end
theorem stripL_map (l:List Tm):stripL l=l.map Tm.strip:=by
 induction l with
 | nil=>rfl
 | cons t r ih=>simp [stripL,ih]
theorem stripL_len (l:List Tm):(stripL l).length=l.length:=by rw [stripL_map,List.length_map]
theorem stripL_append (l m:List Tm):stripL (l++m)=stripL l++stripL m:=by simp [stripL_map]
theorem strip_parts {t u:Tm} (h:t.strip=u.strip):t.kind=u.kind∧t.num=u.num∧t.name=u.name∧t.args.length=u.args.length∧stripL t.args=stripL u.args:=by
 obtain ⟨k,n,s,A,c,a⟩:=t
 obtain ⟨k',n',s',A',c',a'⟩:=u
 simp only [Tm.strip,Tm.mk.injEq,true_and] at h
 obtain ⟨h1,h2,h3,h4⟩:=h
 have h5:=congrArg List.length h4
 simp only [stripL_map,List.length_map] at h5
 exact ⟨h1,h2,h3,h5,h4⟩
theorem form_strip:(∀t:Tm,t.strip.form=t.form)∧(∀l,formL (stripL l)=formL l):=by
 refine Tm.induct2 (fun k n s A c a ih=>?_) rfl (fun t r h1 h2=>?_)
 ·simp only [Tm.strip,Tm.form,ih,stripL_len]
 ·simp only [stripL,formL,h1,h2]
theorem size_strip:(∀t:Tm,t.strip.size=t.size)∧(∀l,sizeL (stripL l)=sizeL l):=by
 refine Tm.induct2 (fun k n s A c a ih=>?_) rfl (fun t r h1 h2=>?_)
 ·simp only [Tm.strip,Tm.size,ih]
 ·simp only [stripL,sizeL,h1,h2]
theorem depth_strip:(∀t:Tm,t.strip.depth=t.depth)∧(∀l,depthL (stripL l)=depthL l):=by
 refine Tm.induct2 (fun k n s A c a ih=>?_) rfl (fun t r h1 h2=>?_)
 ·simp only [Tm.strip,Tm.depth,ih]
 ·simp only [stripL,depthL,h1,h2]
end Go.Proofs.YtaojnljppcnhjaaGreatDoor
namespace Go.Proofs.YtaojnljppcnhjaaGreatDoor
open Go.RowKit
structure Kp (R:Nat) (z z':Value) (w w':World):Prop where
 os:w'.os=w.os
 tape:w'.tape=w.tape
 output:w'.output=w.output
 size:w.heap.size≤w'.heap.size
 block:∀k,k < w.heap.size→k≠R→z.ownBlock≠some k→w'.heap[k]?=w.heap[k]?
 own:∀k,z'.ownBlock=some k→z.ownBlock=some k∨w.heap.size≤k
section
variable {R:Nat} {z z1 z2:Value} {a b c w w':World}
theorem Kp.refl (R:Nat) (z:Value) (w:World):Kp R z z w w:=⟨rfl,rfl,rfl,Nat.le_refl _,fun _ _ _ _=>rfl,fun _ h=>.inl h⟩
theorem Kp.trans (h:Kp R z z1 a b) (k:Kp R z1 z2 b c):Kp R z z2 a c:=by
 refine ⟨k.os.trans h.os,k.tape.trans h.tape,k.output.trans h.output,Nat.le_trans h.size k.size,fun i hi hr ho=>?_,fun i hi=>?_⟩
 ·refine (k.block i (Nat.lt_of_lt_of_le hi h.size) hr fun e=>?_).trans (h.block i hi hr ho)
  rcases h.own i e with h1|h1
  ·exact ho h1
  ·omega
 ·rcases k.own i hi with h1|h1
  ·exact h.own i h1
  ·exact .inr (Nat.le_trans h.size h1)
theorem Below.kp (h:Below w.heap.size w w') (R:Nat) (z:Value):Kp R z z w w':=⟨h.os,h.tape,h.output,h.size,fun k hk _ _=>h.block k hk,fun _ h=>.inl h⟩
theorem Kp.drewN (h:Kp R z z1 a w) (n:Nat):Kp R z z1 a (w.drewN n):=⟨h.os,h.tape,h.output,h.size,h.block,h.own⟩
theorem Kp.drew (h:Kp R z z1 a w):Kp R z z1 a w.drew:=⟨h.os,h.tape,h.output,h.size,h.block,h.own⟩
theorem Kp.alloc (h:Kp R z z1 a w) (o:Obj):Kp R z z1 a (w.alloc o):=h.trans (Below.kp ((Below.refl _ _).alloc (Nat.le_refl _) o) R z1)
theorem Kp.set (h:Kp R z z1 a w) (q:Nat) (sp:Option Nat) (v:Value):Kp R z z1 a (w.setCell ⟨R,q,sp⟩ v) :=
 h.trans ⟨rfl,rfl,rfl,by simp [World.setCell],fun k _ hr _=>Below.heap_setCell _ _ _ _ hr,fun _ h=>.inl h⟩
theorem Kp.put (h:Kp R z z1 a w) {p:Addr} (hp:a.heap.size≤p.block) (v:Value):Kp R z z1 a (w.setCell p v) :=
 ⟨h.os,h.tape,h.output,by simpa [World.setCell] using h.size,fun k hk hr ho=>(Below.heap_setCell _ _ _ _ (by omega)).trans (h.block k hk hr ho),h.own⟩
theorem Kp.grown {row:Option Nat} (h:Kp R z z1 a w) (hg:w.grownBy w' row) (hr:∀k,row=some k→a.heap.size≤k):Kp R z z1 a w' :=
 ⟨hg.os.trans h.os,hg.tape.trans h.tape,hg.output.trans h.output,Nat.le_trans h.size hg.size,fun k hk hR ho =>
  (hg.block k (Nat.lt_of_lt_of_le hk h.size) (fun e=>by have:=hr k e.symm;omega)).trans (h.block k hk hR ho),h.own⟩
theorem Kp.names {g n cap:Nat} (h:Kp R z z1 a w) (hg:w.grownBy w' z1.ownBlock) (hat:z1.ownBlock=some g∨g=w.heap.size):Kp R z (.slice (some ⟨g,0,none⟩) n cap) a w' :=
 h.trans ⟨hg.os,hg.tape,hg.output,hg.size,fun k hk _ ho=>hg.block k hk (fun e=>ho e.symm),fun k hk=>by
  have e:g=k:=by simpa [Value.ownBlock] using hk
  subst e
  rcases hat with h|h
  ·exact .inl h
  ·exact .inr (by omega)⟩
theorem Kp.cell (h:Kp R z z1 w w') {p:Addr} (hp:p.block < w.heap.size) (hr:p.block≠R) (ho:z.ownBlock≠some p.block):w'.cell? p=w.cell? p:=by
 have:=h.block p.block hp hr ho
 simp only [World.cell?,this]
end
def Agr (lo:Nat) (X:Nat→Prop) (w W:World):Prop:=∀b,lo≤b→b < w.heap.size→¬X b→W.heap[b]?=w.heap[b]?
theorem Agr.refl (lo:Nat) (X:Nat→Prop) (w:World):Agr lo X w w:=fun _ _ _ _=>rfl
theorem Agr.cell {lo:Nat} {X:Nat→Prop} {w W:World} (h:Agr lo X w W) {p:Addr} (h1:lo≤p.block) (h2:p.block < w.heap.size) (h3:¬X p.block):W.cell? p=w.cell? p:=by
 have:=h p.block h1 h2 h3
 simp only [World.cell?,this]
abbrev Own (z:Value):Nat→Prop:=fun k=>z.ownBlock=some k
abbrev Own2 (r z:Value):Nat→Prop:=fun k=>r.ownBlock=some k∨z.ownBlock=some k
def Liv (lo:Nat) (X:Nat→Prop) (w:World) (t:Tm):Prop:=∀W,Agr lo X w W→t.At W
def LivL (lo:Nat) (X:Nat→Prop) (w:World) (A:Option Addr) (l:List Tm) (c:Nat):Prop:=∀W,Agr lo X w W→Lst W A l c
section
variable {lo lo':Nat} {X Y:Nat→Prop} {w w':World} {t:Tm} {A:Option Addr} {l:List Tm} {c:Nat}
theorem Liv.at (h:Liv lo X w t):t.At w:=h w (Agr.refl _ _ _)
theorem LivL.lst (h:LivL lo X w A l c):Lst w A l c:=h w (Agr.refl _ _ _)
theorem Agr.less {W:World} (h:Agr lo X w' W) (hs:w.heap.size≤w'.heap.size) (hc:∀b,lo'≤b→b < w.heap.size→¬Y b→lo≤b∧¬X b∧w'.heap[b]?=w.heap[b]?):Agr lo' Y w W:=fun b h1 h2 h3 =>
 (h b (hc b h1 h2 h3).1 (Nat.lt_of_lt_of_le h2 hs) (hc b h1 h2 h3).2.1).trans (hc b h1 h2 h3).2.2
theorem Liv.less (h:Liv lo' Y w t) (hs:w.heap.size≤w'.heap.size) (hc:∀b,lo'≤b→b < w.heap.size→¬Y b→lo≤b∧¬X b∧w'.heap[b]?=w.heap[b]?):Liv lo X w' t:=fun W hW=>h W (hW.less hs hc)
theorem LivL.less (h:LivL lo' Y w A l c) (hs:w.heap.size≤w'.heap.size) (hc:∀b,lo'≤b→b < w.heap.size→¬Y b→lo≤b∧¬X b∧w'.heap[b]?=w.heap[b]?):LivL lo X w' A l c:=fun W hW=>h W (hW.less hs hc)
theorem Liv.below (h:Liv lo X w t) (k:Below w.heap.size w w'):Liv lo X w' t:=h.less k.size fun b h1 h2 h3=>⟨h1,h3,k.block b h2⟩
theorem LivL.below (h:LivL lo X w A l c) (k:Below w.heap.size w w'):LivL lo X w' A l c:=h.less k.size fun b h1 h2 h3=>⟨h1,h3,k.block b h2⟩
theorem Liv.alloc (h:Liv lo X w t) (o:Obj):Liv lo X (w.alloc o) t:=h.below ((Below.refl _ _).alloc (Nat.le_refl _) o)
theorem LivL.alloc (h:LivL lo X w A l c) (o:Obj):LivL lo X (w.alloc o) A l c:=h.below ((Below.refl _ _).alloc (Nat.le_refl _) o)
theorem Liv.drewN (h:Liv lo X w t) (n:Nat):Liv lo X (w.drewN n) t:=h
theorem LivL.drewN (h:LivL lo X w A l c) (n:Nat):LivL lo X (w.drewN n) A l c:=h
theorem Liv.low (h:Liv lo X w t) (hl:lo'≤lo):Liv lo' X w t:=h.less (Nat.le_refl _) fun b h1 _ h3=>⟨by omega,h3,rfl⟩
theorem LivL.low (h:LivL lo X w A l c) (hl:lo'≤lo):LivL lo' X w A l c:=h.less (Nat.le_refl _) fun b h1 _ h3=>⟨by omega,h3,rfl⟩
theorem Liv.out (h:Liv lo Y w t) (hY:∀b,lo≤b→b < w.heap.size→X b→Y b):Liv lo X w t:=h.less (Nat.le_refl _) fun b h1 h2 h3=>⟨h1,fun hx=>h3 (hY b h1 h2 hx),rfl⟩
theorem LivL.out (h:LivL lo Y w A l c) (hY:∀b,lo≤b→b < w.heap.size→X b→Y b):LivL lo X w A l c:=h.less (Nat.le_refl _) fun b h1 h2 h3=>⟨h1,fun hx=>h3 (hY b h1 h2 hx),rfl⟩
theorem Liv.set (h:Liv lo X w t) {p:Addr} (hp:p.block < lo∨X p.block) (v:Value):Liv lo X (w.setCell p v) t:=h.less (by simp [World.setCell]) fun b h1 _ h3=>⟨h1,h3,Below.heap_setCell _ _ _ _ (fun e=>hp.elim (fun h=>by omega) (fun h=>h3 (e ▸ h)))⟩
theorem LivL.set (h:LivL lo X w A l c) {p:Addr} (hp:p.block < lo∨X p.block) (v:Value):LivL lo X (w.setCell p v) A l c:=h.less (by simp [World.setCell]) fun b h1 _ h3=>⟨h1,h3,Below.heap_setCell _ _ _ _ (fun e=>hp.elim (fun h=>by omega) (fun h=>h3 (e ▸ h)))⟩
theorem Liv.any (ht:∀W,t.At W):Liv lo X w t:=fun W _=>ht W
variable {R:Nat} {z z':Value}
theorem Liv.kp (h:Liv lo (Own z) w t) (k:Kp R z z' w w') (hR:R < lo):Liv lo (Own z') w' t:=h.less k.size fun b h1 h2 h3=>⟨h1,fun e=>(k.own b e).elim h3 (fun h=>by omega),k.block b h2 (by omega) h3⟩
theorem LivL.kp (h:LivL lo (Own z) w A l c) (k:Kp R z z' w w') (hR:R < lo):LivL lo (Own z') w' A l c:=h.less k.size fun b h1 h2 h3=>⟨h1,fun e=>(k.own b e).elim h3 (fun h=>by omega),k.block b h2 (by omega) h3⟩
end
def pcells (l:List Tm):List Value:=l.flatMap Tm.cells
theorem pcell_len (t:Tm):t.cells.length=4:=rfl
theorem pcells_length (l:List Tm):(pcells l).length=l.length*4:=by
 induction l with
 | nil=>rfl
 | cons t r ih=>simp only [pcells,List.flatMap_cons,List.length_append,pcell_len,List.length_cons] at *;omega
theorem pcells_one (l:List Tm):∀u∈pcells l,u.oneCell'=true:=by
 intro u hu
 obtain ⟨t,_,ht⟩:=List.mem_flatMap.1 hu
 simp only [Tm.cells,List.mem_cons,List.not_mem_nil,or_false] at ht
 rcases ht with rfl|rfl|rfl|rfl<;>rfl
theorem pcells_get (l:List Tm) {i j:Nat} (hi:i < l.length) (hj:j < 4):(pcells l)[4*i+j]?=(l.getD i default).cells[j]?:=by
 induction l generalizing i with
 | nil=>simp at hi
 | cons t r ih =>
  simp only [pcells,List.flatMap_cons]
  cases i with
  | zero =>
   rw [List.getElem?_append_left (by rw [pcell_len];omega)]
   simp
  | succ i =>
   rw [List.getElem?_append_right (by rw [pcell_len];omega),pcell_len,show 4*(i+1)+j - 4=4*i+j by omega]
   simpa [pcells] using ih (by simpa using hi)
theorem own_of {w w':World} {base:Nat} {e:TypeId} {size:Nat} {v:Value} {n:Nat} {xs:List Value} (h:w.ownsRow base e size v n xs) (hb:∀k,v.ownBlock=some k→w'.heap[k]?=w.heap[k]?):w'.ownsRow base e size v n xs:=by
 refine ⟨h.1,?_⟩
 rcases h.2 with hn|⟨g,cap,cur,rfl,hb1,hgg,rest⟩
 ·exact .inl hn
 ·exact .inr ⟨g,cap,cur,rfl,hb1,by rw [hb g rfl];exact hgg,rest⟩
structure RowP (lo:Nat) (w:World) (z r:Value) (acc:List Tm):Prop where
 row:w.ownsRow lo 56 4 r acc.length (pcells acc)
 apart:∀k,r.ownBlock=some k→z.ownBlock≠some k
 each:∀x∈acc,Liv lo (Own2 r z) w x
theorem RowP.kp {lo R:Nat} {w w':World} {z z' r:Value} {acc:List Tm} (h:RowP lo w z r acc) (k:Kp R z z' w w') (hR:R < lo):RowP lo w' z' r acc:=by
 have hlt:=own_lt h.row
 refine ⟨own_of h.row fun j hj=>k.block j (hlt j hj).2 (by have:=(hlt j hj).1;omega) (h.apart j hj),fun j hj e=>?_,fun x hx=>(h.each x hx).less k.size fun b h1 h2 h3=>?_⟩
 ·rcases k.own j e with h1|h1
  ·exact h.apart j hj h1
  ·have:=(hlt j hj).2;omega
 ·refine ⟨h1,fun e=>?_,k.block b h2 (by omega) (fun e=>h3 (.inr e))⟩
  rcases e with e|e
  ·exact h3 (.inl e)
  ·rcases k.own b e with h4|h4
   ·exact h3 (.inr h4)
   ·omega
theorem RowP.nil (lo:Nat) (w:World) (z:Value):RowP lo w z (.slice none 0 0) []:=⟨⟨rfl,.inl ⟨rfl,rfl⟩⟩,fun k hk=>(by cases hk),fun x hx=>(by cases hx)⟩
theorem pcells_append (l m:List Tm):pcells (l++m)=pcells l++pcells m:=by simp [pcells]
theorem RowP.next {lo g cap:Nat} {w2 w3 w4:World} {z r:Value} {acc:List Tm} {u:Tm} (h:RowP lo w2 z r acc) (hz:∀k,z.ownBlock=some k→k < w2.heap.size) (hu:Liv lo (Own2 r z) w2 u) (hb:Below w2.heap.size w2 w3)
  (hown:w4.ownsRow lo 56 4 (.slice (some ⟨g,0,none⟩) (acc.length+1) cap) (acc.length+1) (pcells acc++u.cells)) (hg:w3.grownBy w4 r.ownBlock) (hat:r.ownBlock=some g∨g=w3.heap.size) :
  RowP lo w4 z (.slice (some ⟨g,0,none⟩) (acc.length+1) cap) (acc++[u]):=by
 refine ⟨by rw [List.length_append,pcells_append];simpa [pcells] using hown,fun k hk e=>?_,fun x hx=>?_⟩
 ·have e':g=k:=by simpa [Value.ownBlock] using hk
  subst e'
  rcases hat with h1|h1
  ·exact h.apart g h1 e
  ·have:=hz g e;have:=hb.size;omega
 have hx2:Liv lo (Own2 r z) w2 x:=by
  rcases List.mem_append.1 hx with hx|hx
  ·exact h.each x hx
  ·rw [List.mem_singleton.1 hx];exact hu
 refine (hx2.below hb).less hg.size fun b h1 h2 h3=>⟨h1,fun e=>?_,hg.block b h2 (fun e=>h3 (.inl e.symm))⟩
 rcases e with e|e
 ·have e':g=b:=by simpa [Value.ownBlock] using e
  rcases hat with h|h
  ·exact h3 (.inl (by rw [h,e']))
  ·omega
 ·exact h3 (.inr e)
theorem RowP.lst {lo:Nat} {w:World} {z r:Value} {acc:List Tm} (h:RowP lo w z r acc) (h0:0 < acc.length):∃g c,r=.slice (some ⟨g,0,none⟩) acc.length c∧LivL lo (Own z) w (some ⟨g,0,none⟩) acc c:=by
 rcases h.row.2 with ⟨_,h1⟩|⟨g,cap,cur,rfl,hb,hg,hle,hcap,hcs,hcur⟩
 ·omega
 ·have hlt:=own_lt h.row g rfl
  have hap:=h.apart g rfl
  have hl:=pcells_length acc
  refine ⟨g,cap,rfl,fun W hW=>⟨hle,hcap,fun _=>⟨g,0,rfl,RowAt.of fun i hi=>⟨fun j u hu=>?_,?_⟩⟩⟩⟩
  ·have hj:j < 4:=by
    have:=(List.getElem?_eq_some_iff.1 hu).1
    simpa [Tm.cells] using this
   rw [hW.cell (p:=⟨g,0+4*i+j,none⟩) hlt.1 hlt.2 hap]
   have hc:=World.ownsRow.cellAt h.row (4*i+j) (by omega)
   rw [Nat.zero_add,hc]
   exact (pcells_get acc hi hj).trans hu
  ·exact h.each _ (getD_mem hi) W fun b h1 h2 h3=>hW b h1 h2 (fun h=>h3 (.inr h))
def nmC (ns:List (List UInt8)):List Value:=ns.map fun x=>.string (S x)
structure Pr (w:World) (R:Nat) (A:Option Addr) (c:Nat) (l:List Tk) (i:Nat) (z:Value) (ns:List (List UInt8)) (at_:Nat) (er:Int):Prop where
 lt:R < w.heap.size
 l0:w.cell? ⟨R,0,none⟩=some (.slice A l.length c)
 l1:w.cell? ⟨R,1,none⟩=some (.int .i64 (i:Int))
 l2:w.cell? ⟨R,2,none⟩=some z
 l3:w.cell? ⟨R,3,none⟩=some (.int .i64 (at_:Int))
 l4:w.cell? ⟨R,4,none⟩=some (.int .i64 er)
 fr:∀j,w.frozen? ⟨R,j,none⟩=false
 toks:TLst w A l c
 low:∀g,A=some ⟨g,0,none⟩→g < R
 ilt:i < l.length
 own:w.ownsRow (R+1) 9 1 z ns.length (nmC ns)
section
variable {w w':World} {R:Nat} {A:Option Addr} {c:Nat} {l:List Tk} {i:Nat} {z:Value} {ns:List (List UInt8)} {at_:Nat} {er:Int}
theorem Pr.of (h:Pr w R A c l i z ns at_ er) (hs:w.heap.size≤w'.heap.size) (hb:∀k,k < w.heap.size→(k≤R∨z.ownBlock=some k)→w'.heap[k]?=w.heap[k]?):Pr w' R A c l i z ns at_ er:=by
 have hR:=hb R h.lt (.inl (Nat.le_refl _))
 have hc:∀j,w'.cell? ⟨R,j,none⟩=w.cell? ⟨R,j,none⟩:=fun j=>World.cell?_of_block hR
 refine ⟨Nat.lt_of_lt_of_le h.lt hs,by rw [hc,h.l0],by rw [hc,h.l1],by rw [hc,h.l2],by rw [hc,h.l3],by rw [hc,h.l4],fun j=>by rw [World.frozen?_of_block (a:=⟨R,j,none⟩) hR];exact h.fr j,?_,h.low,h.ilt,own_of h.own fun k hk=>hb k (own_lt h.own k hk).2 (.inr hk)⟩
 refine ⟨h.toks.1,h.toks.2.1,fun hn=>?_⟩
 obtain ⟨g,e,hr⟩:=h.toks.2.2 hn
 have hg:=h.low g e
 have hlt:=h.lt
 exact ⟨g,e,fun i hi j u hu=>by rw [World.cell?_of_block (a:=⟨g,i*3+j,none⟩) (hb g (by omega) (.inl (by omega)))];exact hr i hi j u hu⟩
theorem Pr.below (h:Pr w R A c l i z ns at_ er) (hb:Below w.heap.size w w'):Pr w' R A c l i z ns at_ er:=h.of hb.size fun k hk _=>hb.block k hk
theorem Pr.drewN (h:Pr w R A c l i z ns at_ er) (n:Nat):Pr (w.drewN n) R A c l i z ns at_ er:=h.of (Nat.le_refl _) fun _ _ _=>rfl
theorem Pr.drew (h:Pr w R A c l i z ns at_ er):Pr w.drew R A c l i z ns at_ er:=h.of (Nat.le_refl _) fun _ _ _=>rfl
theorem Pr.alloc (h:Pr w R A c l i z ns at_ er) (o:Obj):Pr (w.alloc o) R A c l i z ns at_ er:=h.below ((Below.refl _ _).alloc (Nat.le_refl _) o)
theorem Pr.put (h:Pr w R A c l i z ns at_ er) {p:Addr} (hp:R < p.block) (hz:z.ownBlock≠some p.block) (v:Value):Pr (w.setCell p v) R A c l i z ns at_ er :=
 h.of (by simp [World.setCell]) fun k _ hk=>Below.heap_setCell _ _ _ _ (fun e=>hk.elim (fun h=>by omega) (fun h=>hz (e ▸ h)))
theorem Pr.grown {row:Option Nat} (h:Pr w R A c l i z ns at_ er) (hg:w.grownBy w' row) (hr:∀k,row=some k→R < k∧z.ownBlock≠some k):Pr w' R A c l i z ns at_ er :=
 h.of hg.size fun k hk ho=>hg.block k hk fun e=>by
  obtain ⟨h1,h2⟩:=hr k e.symm
  exact ho.elim (fun h=>by omega) h2
theorem Pr.apart (h:Pr w R A c l i z ns at_ er):∀k,z.ownBlock=some k→R < k∧k < w.heap.size:=own_lt h.own
theorem Pr.setI (h:Pr w R A c l i z ns at_ er) {q:Nat} (hq:q < l.length):Pr (w.setCell ⟨R,1,none⟩ (.int .i64 (q:Int))) R A c l q z ns at_ er:=by
 have ho:∀j,j≠1→∀v,w.cell? ⟨R,j,none⟩=some v→(w.setCell ⟨R,1,none⟩ (.int .i64 (q:Int))).cell? ⟨R,j,none⟩=some v:=fun j hj v hv=>by
  rw [World.cell?_setCell_other _ _ _ _ (by simp only [ne_eq,Addr.mk.injEq,true_and,and_true];omega)];exact hv
 refine ⟨by simpa [World.setCell] using h.lt,ho 0 (by omega) _ h.l0,World.cell?_setCell_same _ _ _ (by rw [h.l1]),ho 2 (by omega) _ h.l2,ho 3 (by omega) _ h.l3,ho 4 (by omega) _ h.l4,fun j=>by rw [World.frozen?_setCell];exact h.fr j,?_,h.low,hq,own_of h.own fun k hk=>Below.heap_setCell _ _ _ _ (by have:=(h.apart k hk).1;simp only;omega)⟩
 refine ⟨h.toks.1,h.toks.2.1,fun hn=>?_⟩
 obtain ⟨g,e,hr⟩:=h.toks.2.2 hn
 have hg:=h.low g e
 exact ⟨g,e,fun i hi j u hu=>by rw [World.cell?_setCell_other _ _ _ _ (by simp only [ne_eq,Addr.mk.injEq];omega)];exact hr i hi j u hu⟩
theorem Pr.setE (h:Pr w R A c l i z ns at_ er) (p:Nat) (e:Int):Pr ((w.setCell ⟨R,3,none⟩ (.int .i64 (p:Int))).setCell ⟨R,4,none⟩ (.int .i64 e)) R A c l i z ns p e:=by
 have ho:∀j,j≠3→j≠4→∀v,w.cell? ⟨R,j,none⟩=some v→((w.setCell ⟨R,3,none⟩ (.int .i64 (p:Int))).setCell ⟨R,4,none⟩ (.int .i64 e)).cell? ⟨R,j,none⟩=some v:=fun j h3 h4 v hv=>by
  rw [World.cell?_setCell_other _ _ _ _ (by simp only [ne_eq,Addr.mk.injEq,true_and,and_true];omega),World.cell?_setCell_other _ _ _ _ (by simp only [ne_eq,Addr.mk.injEq,true_and,and_true];omega)];exact hv
 have h4':(w.setCell ⟨R,3,none⟩ (.int .i64 (p:Int))).cell? ⟨R,4,none⟩=some (.int .i64 er):=by rw [World.cell?_setCell_other _ _ _ _ (by simp)];exact h.l4
 refine ⟨by simpa [World.setCell] using h.lt,ho 0 (by omega) (by omega) _ h.l0,ho 1 (by omega) (by omega) _ h.l1,ho 2 (by omega) (by omega) _ h.l2,?_,World.cell?_setCell_same _ _ _ (by rw [h4']),fun j=>by rw [World.frozen?_setCell,World.frozen?_setCell];exact h.fr j,?_,h.low,h.ilt,own_of h.own fun k hk=>?_⟩
 ·rw [World.cell?_setCell_other _ _ _ _ (by simp)];exact World.cell?_setCell_same _ _ _ (by rw [h.l3])
 ·refine ⟨h.toks.1,h.toks.2.1,fun hn=>?_⟩
  obtain ⟨g,e,hr⟩:=h.toks.2.2 hn
  have hg:=h.low g e
  exact ⟨g,e,fun i hi j u hu=>by rw [World.cell?_setCell_other _ _ _ _ (by simp only [ne_eq,Addr.mk.injEq];omega),World.cell?_setCell_other _ _ _ _ (by simp only [ne_eq,Addr.mk.injEq];omega)];exact hr i hi j u hu⟩
 ·have:=(h.apart k hk).1
  rw [Below.heap_setCell _ _ _ _ (by simp only;omega),Below.heap_setCell _ _ _ _ (by simp only;omega)]
theorem Pr.tok (h:Pr w R A c l i z ns at_ er):∃g,A=some ⟨g,0,none⟩∧w.cell? ⟨g,i*3,none⟩=some (.int .i64 (l.getD i default).1)∧w.cell? ⟨g,i*3+1,none⟩=some (.int .i64 ((l.getD i default).2.1:Int))∧w.cell? ⟨g,i*3+2,none⟩=some (.string (S (l.getD i default).2.2)):=h.toks.get h.ilt
end
end Go.Proofs.YtaojnljppcnhjaaGreatDoor
namespace Go.Proofs.YtaojnljppcnhjaaGreatDoor
open Go
abbrev Tok:=Int×List UInt8×Bool
def scanG:Nat→List UInt8→List UInt8→Option (List Tok)
 | 0,_,_=>some []
 | n+1,prev,l =>
  let g:=gap false l
  let t:=tokL g
  if t.2.2≠0 then none
  else if t.1=0 then some [(0,[],false)]
  else (scanG n t.2.1 (g.drop t.2.1.length)).map fun r=>(t.1,t.2.1,(t.1==3&&(prev==[45]&&g.length==l.length))) :: r
def SepIn (sep:List UInt8):Prop:=∀s,gap false (sep++s)=gap false s
def spreadT (l:List (List UInt8×Tok)):List UInt8:=l.flatMap fun x=>x.1++x.2.2.1
def Spread:List UInt8→List (List UInt8×Tok)→Prop
 | _,[]=>False
 | _,[(sep,k,t,f)]=>SepOk sep∧k=0∧t=[]∧f=false
 | prev,(sep,k,t,f) :: r=>k≠0∧(∃l,tokL l=(k,t,0))∧((f=false∧SepOk sep)∨(f=true∧sep=[]∧k=3∧prev=[45]))∧Spread t r
def TokOk:Tok→Prop:=fun t=>t.1=0∨∃l,tokL l=(t.1,t.2.1,0)
end Go.Proofs.YtaojnljppcnhjaaGreatDoor
namespace Go.Proofs.YtaojnljppcnhjaaGreatDoor
open Go
inductive PS (α:Type) where
 | ok (v:α) (ts:List Tok) (ns:List (List UInt8))
 | err (left:Nat) (e:Int)
abbrev Rd1 (α:Type):=List Tok→List (List UInt8)→PS α
def isS (s:List UInt8):List Tok→Bool
 | []=>false
 | (k,t,_) :: _=>k==4&&t==s
def isW (s:List UInt8):List Tok→Bool
 | []=>false
 | (k,t,_) :: _=>k==1&&t==s
def wantS (s:List UInt8) {α:Type} (v:α):Rd1 α:=fun ts ns=>if isS s ts then .ok v ts.tail ns else .err ts.length 16
def intS (n:Int):Tm:=.mk 0 n ⟨#[]⟩ none 0 []
def varS (n:Nat):Tm:=.mk 1 (n:Int) ⟨#[]⟩ none 0 []
def funS (s:List UInt8) (l:List Tm):Tm:=.mk 2 0 ⟨s.toArray⟩ none 0 l
def nameS (t:List UInt8) (ns:List (List UInt8)):Nat×List (List UInt8) :=
 if t≠[95]∧t∈ns then (ns.idxOf t,ns) else (ns.length,ns++[t])
def argsS (ex:Rd1 Tm) (acc:List Tm) (ts:List Tok) (ns:List (List UInt8)):PS (List Tm) :=
 match ex ts.tail ns with
 | .err l e=>.err l e
 | .ok x r ns2=>if isS [44] r then (if _h:r.length < ts.length then argsS ex (acc++[x]) r ns2 else .err 0 0) else wantS [41] (acc++[x]) r ns2
termination_by ts.length
def nmS:Rd1 (List UInt8):=fun ts ns =>
 match ts with
 | []=>.err 0 0
 | (k,t,_) :: r=>if k≠1 then .err ts.length 16 else if resB t then .err ts.length 7 else .ok t r ns
def atomS (ex:Rd1 Tm):Rd1 (List UInt8×List Tm):=fun ts ns =>
 match nmS ts ns with
 | .err l e=>.err l e
 | .ok t r ns1=>if isS [40] r then (match argsS ex [] r ns1 with
   | .ok l r2 ns2=>.ok (t,l) r2 ns2
   | .err l e=>.err l e) else .ok (t,[]) r ns1
def opndS (ex:Rd1 Tm):Rd1 Tm:=fun ts ns =>
 match ts with
 | []=>.err 0 0
 | (k,t,_) :: r =>
  if k=3 then .ok (intS (valD t)) r ns
  else if k=2 then .ok (varS (nameS t ns).1) r (nameS t ns).2
  else if k=1 then (match atomS ex ts ns with
   | .ok x r2 ns2=>.ok (funS x.1 x.2) r2 ns2
   | .err l e=>.err l e)
  else if isS [45] ts then (match r with
   | []=>.err 0 0
   | (k2,t2,g2) :: r2=>if k2=3∧g2=true then .ok (intS (-valD t2)) r2 ns else .err r.length 16)
  else if isS [40] ts then (match ex r ns with
   | .ok x r2 ns2=>wantS [41] x r2 ns2
   | .err l e=>.err l e)
  else .err ts.length 16
def chainS (ops:List (List UInt8)) (o:Rd1 Tm) (x:Tm) (ts:List Tok) (ns:List (List UInt8)):PS Tm :=
 match ts with
 | []=>.ok x [] ns
 | (k,t,g) :: r=>if k=4∧t∈ops then (match o r ns with
   | .ok y r2 ns2=>if _h:r2.length < ((k,t,g) :: r).length then chainS ops o (funS t [x,y]) r2 ns2 else .err 0 0
   | .err l e=>.err l e) else .ok x ((k,t,g) :: r) ns
termination_by ts.length
def levelS (ops:List (List UInt8)) (o:Rd1 Tm):Rd1 Tm:=fun ts ns =>
 match o ts ns with
 | .ok x r ns2=>chainS ops o x r ns2
 | .err l e=>.err l e
def mulS:List (List UInt8):=[[42],[47],[37]]
def addS:List (List UInt8):=[[43],[45]]
def exprS:Nat→Rd1 Tm
 | 0=>fun _ _=>.err 0 0
 | n+1=>levelS addS (levelS mulS (opndS (exprS n)))
abbrev Gs:=Int×List UInt8×List Tm
def cmpS:List Tok→Int×Bool
 | []=>(0,false)
 | (k,t,_) :: _ =>
  if k=1∧t=[105,115] then (4,false)
  else if k≠4 then (0,false)
  else if t=[61] then (3,false)
  else if t=[61,61] then (5,false)
  else if t=[92,61] then (6,false)
  else if t=[60] then (7,false)
  else if t=[61,60] then (8,false)
  else if t=[62] then (7,true)
  else if t=[62,61] then (8,true)
  else if t=[61,58,61] then (9,false)
  else if t=[61,92,61] then (10,false)
  else (0,false)
def goalS (ex:Rd1 Tm):Rd1 Gs:=fun ts ns =>
 match ts with
 | []=>.err 0 0
 | (k,t,_) :: r =>
  if k=1∧resB t=true then
   if t=[116,114,117,101] then .ok (1,[],[]) r ns
   else if t=[102,97,105,108] then .ok (2,[],[]) r ns
   else if t=[105,110,116]∨t=[103,114,111,117,110,100] then
    (if isS [40] r then (match ex r.tail ns with
     | .ok x r2 ns2=>wantS [41] (if t=[105,110,116] then 11 else 12,[],[x]) r2 ns2
     | .err l e=>.err l e) else .err r.length 16)
   else .err ts.length 7
  else (match ex ts ns with
   | .err l e=>.err l e
   | .ok x r2 ns2 =>
    if (cmpS r2).1=0 then (if k=1∧x.name.data.toList=t then .ok (0,t,x.args) r2 ns2 else .err r2.length 16)
    else (match ex r2.tail ns2 with
     | .ok y r3 ns3=>.ok ((cmpS r2).1,[],if (cmpS r2).2 then [y,x] else [x,y]) r3 ns3
     | .err l e=>.err l e))
def rightT (l:List Tm):Bool:=formL l&&(decide (sizeL l≤200)&&decide (depthL l≤20))
def rightA (s:List UInt8) (l:List Tm):Bool:=rightB s&&(decide (l.length≤6)&&rightT l)
def arityS (op:Int):Int:=if op=1∨op=2 then 0 else if op=11∨op=12 then 1 else if 2 < op∧op < 11 then 2 else -1
def rightG (g:Gs):Bool:=if g.1=0 then rightA g.2.1 g.2.2 else decide (g.2.1=[])&&(decide ((g.2.2.length:Int)=arityS g.1)&&rightT g.2.2)
def goalsS (ex:Rd1 Tm) (most:Nat) (acc:List Gs) (ts:List Tok) (ns:List (List UInt8)):PS (List Gs) :=
 if most≤acc.length then .err ts.length 6
 else match goalS ex ts ns with
  | .err l e=>.err l e
  | .ok g r ns2 =>
   if rightG g=false then .err ts.length 6
   else if isS [44] r then (if _h:r.tail.length < ts.length then goalsS ex most (acc++[g]) r.tail ns2 else .err 0 0)
   else .ok (acc++[g]) r ns2
termination_by ts.length
decreasing_by exact _h
abbrev As:=List UInt8×List Tm
def headsS (ex:Rd1 Tm) (before:Nat) (acc:List As) (ts:List Tok) (ns:List (List UInt8)):PS (List As) :=
 if 4≤before+acc.length then .err ts.length 6
 else match atomS ex ts ns with
  | .err l e=>.err l e
  | .ok a r ns2 =>
   if rightA a.1 a.2=false then .err ts.length 6
   else if isS [44] r then (if _h:r.tail.length < ts.length then headsS ex before (acc++[a]) r.tail ns2 else .err 0 0)
   else .ok (acc++[a]) r ns2
termination_by ts.length
decreasing_by exact _h
structure Rs where
 name:List UInt8
 keep:List As
 remove:List As
 guard:List Gs
 body:List Gs
 vars:Nat
def bothS (ex:Rd1 Tm):Rd1 (List As×List As):=fun ts ns =>
 match headsS ex 0 [] ts ns with
 | .err l e=>.err l e
 | .ok h r ns2 =>
  if isS [60,61,62] r then .ok ([],h) r.tail ns2
  else if isS [61,61,62] r then .ok (h,[]) r.tail ns2
  else if isS [92] r then (match headsS ex h.length [] r.tail ns2 with
   | .err l e=>.err l e
   | .ok h2 r2 ns3=>if isS [60,61,62] r2 then .ok (h,h2) r2.tail ns3 else .err r2.length 16)
  else .err r.length 16
def goals2S (ex:Rd1 Tm):Rd1 (List Gs×List Gs):=fun ts ns =>
 match goalsS ex 12 [] ts ns with
 | .err l e=>.err l e
 | .ok b r ns2 =>
  if isS [124] r then (match goalsS ex 12 [] r.tail ns2 with
   | .err l e=>.err l e
   | .ok b2 r2 ns3=>wantS [46] (b,b2) r2 ns3)
  else wantS [46] ([],b) r ns2
def labelS:Rd1 (List UInt8):=fun ts ns =>
 match ts with
 | []=>.ok [] ts ns
 | (k,_,_) :: r=>if k=1∧isS [64] r=true then (match nmS ts ns with
   | .ok t r2 ns2=>.ok t r2.tail ns2
   | .err l e=>.err l e) else .ok [] ts ns
def bodyS (b:List Gs):List Gs:=match b with
 | [g]=>if g.1=1 then [] else b
 | _=>b
def partsS (ex:Rd1 Tm):Rd1 Rs:=fun ts ns =>
 match labelS ts ns with
 | .err l e=>.err l e
 | .ok t r ns1=>match bothS ex r ns1 with
  | .err l e=>.err l e
  | .ok h r2 ns2=>match goals2S ex r2 ns2 with
   | .err l e=>.err l e
   | .ok g r3 ns3=>.ok ⟨t,h.1,h.2,g.1,bodyS g.2,0⟩ r3 ns3
def Rs.terms (r:Rs):List Tm:=r.keep.flatMap (·.2)++(r.remove.flatMap (·.2)++(r.guard.flatMap (·.2.2)++r.body.flatMap (·.2.2)))
mutual
def Tm.num2 (f:Int→Int):Tm→Tm
 | .mk k n s _ _ a=>.mk k (if k=1 then f n else n) s none 0 (numL2 f a)
def numL2 (f:Int→Int):List Tm→List Tm
 | []=>[]
 | t :: r=>t.num2 f :: numL2 f r
end
def placeS (vs:List Int) (n:Int):Int:=if n∈vs then (vs.idxOf n:Int) else -1
def As.num2 (f:Int→Int) (a:As):As:=(a.1,numL2 f a.2)
def Gs.num2 (f:Int→Int) (g:Gs):Gs:=(g.1,g.2.1,numL2 f g.2.2)
def putS (l:List Int) (x:Int):List Int:=if x∈l then l else l++[x]
def orderS (l:List Tm):List Int:=(occL l).foldl putS []
def numberS (r:Rs):Rs :=
 let f:=placeS (orderS r.terms)
 ⟨r.name,r.keep.map (As.num2 f),r.remove.map (As.num2 f),r.guard.map (Gs.num2 f),r.body.map (Gs.num2 f),(orderS r.terms).length⟩
def ruleS (ex:Rd1 Tm):List Tok→PS Rs:=fun ts =>
 match partsS ex ts [] with
 | .err l e=>.err l e
 | .ok r ts2 ns=>.ok (numberS r) ts2 ns
def declsS (acc:List (List UInt8×Int)) (ts:List Tok):PS (List (List UInt8×Int)) :=
 if 30≤acc.length then .err ts.tail.length 6
 else match nmS ts.tail [] with
  | .err l e=>.err l e
  | .ok t r _=>match wantS [47] t r [] with
   | .err l e=>.err l e
   | .ok _ r2 _=>match r2 with
    | []=>.err 0 0
    | (k,d,_) :: r3=>if k≠3 then .err r2.length 16 else if 6 < valD d then .err r2.length 6
      else if isS [44] r3 then (if _h:r3.length < ts.length then declsS (acc++[(t,valD d)]) r3 else .err 0 0) else wantS [46] (acc++[(t,valD d)]) r3 []
termination_by ts.length
def allDecls (acc:List (List UInt8×Int)) (ts:List Tok):PS (List (List UInt8×Int)) :=
 if isW [99,111,110,115,116,114,97,105,110,116] ts then
  match declsS acc ts with
  | .ok l r _=>if _h:r.length < ts.length then allDecls l r else .err 0 0
  | .err l e=>.err l e
 else .ok acc ts []
termination_by ts.length
def rulesS (ex:Rd1 Tm) (acc:List Rs) (ts:List Tok):PS (List Rs) :=
 match ts with
 | []=>.err 0 0
 | (k,t,g) :: r =>
  if k=0 then .ok acc ((k,t,g) :: r) []
  else if 40≤acc.length then .err ((k,t,g) :: r).length 6
  else match ruleS ex ((k,t,g) :: r) with
   | .ok x r2 _=>if _h:r2.length < ((k,t,g) :: r).length then rulesS ex (acc++[x]) r2 else .err 0 0
   | .err l e=>.err l e
termination_by ts.length
def programS (ex:Rd1 Tm) (ts:List Tok):PS (List (List UInt8×Int)×List Rs) :=
 match allDecls [] ts with
 | .err l e=>.err l e
 | .ok d r _=>match rulesS ex [] r with
  | .ok l r2 _=>.ok (d,l) r2 []
  | .err l e=>.err l e
def onlyS {α:Type}:PS α→PS α
 | .ok v ts ns=>if (ts.headD (0,[],false)).1=0 then .ok v ts ns else .err ts.length 16
 | .err l e=>.err l e
def queryS (ex:Rd1 Tm) (ts:List Tok):PS (List Gs×List (List UInt8)) :=
 match onlyS (goalsS ex 40 [] ts []) with
 | .ok l r ns=>.ok (l.map (Gs.num2 (placeS (orderS (l.flatMap (·.2.2))))),(orderS (l.flatMap (·.2.2))).map fun v=>ns.getD v.toNat []) r ns
 | .err l e=>.err l e
end Go.Proofs.YtaojnljppcnhjaaGreatDoor
namespace Go.Proofs.YtaojnljppcnhjaaGreatDoor
open Go.RowKit
theorem put3_cells {X:World} {b:Nat} {u0 u1 u2 v0 v1 v2:Value} (h0:X.cell? ⟨b,0,none⟩=some u0) (h1:X.cell? ⟨b,1,none⟩=some u1) (h2:X.cell? ⟨b,2,none⟩=some u2) :
  (((X.setCell ⟨b,0,none⟩ v0).setCell ⟨b,1,none⟩ v1).setCell ⟨b,2,none⟩ v2).drew.cell? ⟨b,0,none⟩=some v0 ∧
  (((X.setCell ⟨b,0,none⟩ v0).setCell ⟨b,1,none⟩ v1).setCell ⟨b,2,none⟩ v2).drew.cell? ⟨b,1,none⟩=some v1 ∧
  (((X.setCell ⟨b,0,none⟩ v0).setCell ⟨b,1,none⟩ v1).setCell ⟨b,2,none⟩ v2).drew.cell? ⟨b,2,none⟩=some v2:=by
 refine ⟨?_,?_,?_⟩
 ·show (((X.setCell ⟨b,0,none⟩ v0).setCell ⟨b,1,none⟩ v1).setCell ⟨b,2,none⟩ v2).cell? ⟨b,0,none⟩=some v0
  rw [World.cell?_setCell_other _ _ _ _ (by simp),World.cell?_setCell_other _ _ _ _ (by simp)]
  exact World.cell?_setCell_same _ _ _ (by rw [h0])
 ·show (((X.setCell ⟨b,0,none⟩ v0).setCell ⟨b,1,none⟩ v1).setCell ⟨b,2,none⟩ v2).cell? ⟨b,1,none⟩=some v1
  rw [World.cell?_setCell_other _ _ _ _ (by simp)]
  exact World.cell?_setCell_same _ _ _ (by rw [World.cell?_setCell_other _ _ _ _ (by simp),h1])
 ·show (((X.setCell ⟨b,0,none⟩ v0).setCell ⟨b,1,none⟩ v1).setCell ⟨b,2,none⟩ v2).cell? ⟨b,2,none⟩=some v2
  exact World.cell?_setCell_same _ _ _ (by rw [World.cell?_setCell_other _ _ _ _ (by simp),World.cell?_setCell_other _ _ _ _ (by simp),h2])
section
variable {w:World} {R:Nat} {A:Option Addr} {c:Nat} {l:List Tk} {i:Nat} {z:Value} {ns:List (List UInt8)} {at_:Nat} {er:Int}
set_option maxHeartbeats 1000000 in
theorem r_tok_at (h:Pr w R A c l i z ns at_ er) :
  Calls Tryz.prog 27 #[.pointer (some ⟨R,0,none⟩)] w fun e w'=>e=.returned (tokV (l.getD i default))∧Below w.heap.size w w':=by
 obtain ⟨X,hX⟩:∃X,X=w.alloc (.cells #[.int .i64 0,.int .i64 0,.string ⟨#[]⟩] 67):=⟨_,rfl⟩
 have HX:=Lib.hid (show Below w.heap.size w X by rw [hX];exact below1 w _)
 have hXX:Pr X R A c l i z ns at_ er:=h.below HX.out
 have hnew:∀j,X.cell? ⟨w.heap.size,j,none⟩=(#[.int .i64 0,.int .i64 0,.string ⟨#[]⟩]:Array Value)[j]?:=fun j=>by rw [hX];exact World.cell?_alloc_at _ _ _ _ rfl
 have n0:X.cell? ⟨w.heap.size,0,none⟩=some (.int .i64 0):=hnew 0
 have n1:X.cell? ⟨w.heap.size,1,none⟩=some (.int .i64 0):=hnew 1
 have n2:X.cell? ⟨w.heap.size,2,none⟩=some (.string ⟨#[]⟩):=hnew 2
 have f0:∀j,X.frozen? ⟨w.heap.size,j,none⟩=false:=fun j=>by rw [hX];exact World.frozen?_alloc_at _ _ _ _ rfl
 have fr0:=f0 0
 have fr1:=f0 1
 have fr2:=f0 2
 clear hnew f0 h
 obtain ⟨g,rfl,t0,t1,t2⟩:=hXX.tok
 have h0:=hXX.l0
 have h1:=hXX.l1
 have hil:(i:Int) < (l.length:Int):=by have:=hXX.ilt;omega
 have hi0:(0:Int)≤(i:Int):=by omega
 have hlen:=hXX.toks.1
 have hcap:=hXX.toks.2.1
 have hgR:=hXX.low g rfl
 have hRX:=hXX.lt
 clear hXX
 generalize l.getD i default=t at t0 t1 t2 ⊢
 obtain ⟨k,p,x⟩:=t
 simp only at t0 t1 t2
 generalize l.length=n at h0 hil hlen
 go_enter Tryz.func27,Tryz.ntmps27
 go_wp2_with fail
 rw [←hX]
 clear hX
 go_region
 generalize hY:(((X.setCell _ _).setCell _ _).setCell _ _).drew=Y
 have HB:Below w.heap.size w Y:=by
  rw [←hY]
  exact (((HX.out.setCell (Nat.le_refl _) _).setCell (Nat.le_refl _) _).setCell (Nat.le_refl _) _).drew
 obtain ⟨q0,q1,q2⟩:Y.cell? ⟨w.heap.size,0,none⟩=some (.int .i64 k)∧Y.cell? ⟨w.heap.size,1,none⟩=some (.int .i64 (p:Int))∧Y.cell? ⟨w.heap.size,2,none⟩=some (.string (S x)):=by
  rw [←hY]
  exact put3_cells n0 n1 n2
 clear hY
 go_wp2_with fail
 refine bodyPost_ret (v:=tokV (k,p,x)) (by simp [results,Tryz.results27,go_sem,q0,q1,q2]) rfl ⟨rfl,HB⟩
end
end Go.Proofs.YtaojnljppcnhjaaGreatDoor
namespace Go.Proofs.YtaojnljppcnhjaaGreatDoor
open Go.RowKit
section
variable {w:World} {R:Nat} {A:Option Addr} {c:Nat} {l:List Tk} {i:Nat} {z:Value} {ns:List (List UInt8)} {at_:Nat} {er:Int}
def FailedAt (R:Nat) (A:Option Addr) (c:Nat) (l:List Tk) (i:Nat) (z:Value) (ns:List (List UInt8)) (w:World) (p:Nat) (e:Int) (w':World):Prop:=Kp R z z w w'∧Pr w' R A c l i z ns p e
set_option maxHeartbeats 1000000 in
set_option maxRecDepth 10000 in
theorem r_fail_at (h:Pr w R A c l i z ns at_ 0) (p:Nat) (e:Int) :
  Calls Tryz.prog 31 #[.pointer (some ⟨R,0,none⟩),.int .i64 (p:Int),.int .i64 e] w fun en w'=>en=.returned (.bool false)∧FailedAt R A c l i z ns w p e w':=by
 have H:=Lib.hid h
 have h3:=h.l3
 have h4:=h.l4
 have f3:=h.fr 3
 have f4:=h.fr 4
 clear h
 go_enter Tryz.func31,Tryz.ntmps31
 go_wp2_with fail
 go_ret
 exact ⟨rfl,((Kp.refl R z w).set 3 none _).set 4 none _,H.out.setE p e⟩
def stepI (l:List Tk) (i:Nat):Nat:=if i+1 < l.length then i+1 else i
set_option maxHeartbeats 1000000 in
set_option maxRecDepth 10000 in
theorem r_next_at (h:Pr w R A c l i z ns at_ er) :
  Calls Tryz.prog 48 #[.pointer (some ⟨R,0,none⟩)] w fun en w'=>en=.returned (.tuple #[])∧Kp R z z w w'∧Pr w' R A c l (stepI l i) z ns at_ er:=by
 have H:=Lib.hid h
 have h0:=h.l0
 have h1:=h.l1
 have f1:=h.fr 1
 have hil:=h.ilt
 have hlen:=h.toks.1
 have hcap:=h.toks.2.1
 clear h
 unfold maxLen at hcap
 by_cases hi:i+1 < l.length
 ·have hd:decide ((i:Int) < (l.length:Int) - 1)=true:=by simp;omega
  have HE:=Lib.hid (show ∀n,Kp R z z w ((w.drewN n).setCell ⟨R,1,none⟩ (.int .i64 ((i:Int)+1)))∧Pr ((w.drewN n).setCell ⟨R,1,none⟩ (.int .i64 ((i:Int)+1))) R A c l (stepI l i) z ns at_ er from fun n=>by
   rw [stepI,if_pos hi]
   exact ⟨((Kp.refl R z w).drewN n).set 1 none _,(H.out.drewN n).setI (q:=i+1) hi⟩)
  go_enter Tryz.func48,Tryz.ntmps48
  go_wp2_with fail
  go_quiet (fail)
  go_wp2_with fail
  go_end0
  exact ⟨rfl,HE.out nq⟩
 ·have hd:decide ((i:Int) < (l.length:Int) - 1)=false:=by simp;omega
  have HE:=Lib.hid (show ∀n,Kp R z z w (w.drewN n)∧Pr (w.drewN n) R A c l (stepI l i) z ns at_ er from fun n=>by
   rw [stepI,if_neg hi]
   exact ⟨(Kp.refl R z w).drewN n,H.out.drewN n⟩)
  go_enter Tryz.func48,Tryz.ntmps48
  go_wp2_with fail
  go_quiet (fail)
  go_wp2_with fail
  go_end0
  exact ⟨rfl,HE.out nq⟩
def isT (kd:Int) (s:List UInt8) (t:Tk):Bool:=t.1==kd&&t.2.2==s
theorem r_tok_of (h:Pr w R A c l i z ns at_ er) {k:Int} {p:Nat} {x:List UInt8} (ht:l.getD i default=(k,p,x)) :
  Calls Tryz.prog 27 #[.pointer (some ⟨R,0,none⟩)] w fun e w'=>e=.returned (.agg #[.int .i64 k,.int .i64 (p:Int),.string (S x)])∧Below w.heap.size w w':=by
 have:=r_tok_at h
 rw [ht] at this
 exact this
theorem tok_kind (k p:Int) (x:ByteArray) (W:World):Sem.run Tryz.prog (Instr.field 67 (.agg #[.int .i64 k,.int .i64 p,.string x]) 0) W=.ok (.int .i64 k) W:=by kernel_rfl
theorem tok_at (k p:Int) (x:ByteArray) (W:World):Sem.run Tryz.prog (Instr.field 67 (.agg #[.int .i64 k,.int .i64 p,.string x]) 1) W=.ok (.int .i64 p) W:=by kernel_rfl
theorem tok_text (k p:Int) (x:ByteArray) (W:World):Sem.run Tryz.prog (Instr.field 67 (.agg #[.int .i64 k,.int .i64 p,.string x]) 2) W=.ok (.string x) W:=by kernel_rfl
set_option maxHeartbeats 1000000 in
set_option maxRecDepth 10000 in
theorem r_is_at (h:Pr w R A c l i z ns at_ er) (s:List UInt8) :
  Calls Tryz.prog 47 #[.pointer (some ⟨R,0,none⟩),.string (S s)] w fun en w'=>en=.returned (.bool (isT 4 s (l.getD i default)))∧Below w.heap.size w w':=by
 generalize ht:l.getD i default=t
 obtain ⟨k,p,x⟩:=t
 have Q:=Lib.hid (fun W (hb:Below w.heap.size w W)=>r_tok_of (h.below hb) ht)
 clear h
 have hp:∃r,(x==s)=r:=⟨_,rfl⟩
 obtain ⟨r,hr⟩:=hp
 have HE:=Lib.hid (show isT 4 s (k,p,x)=((k==4)&&r) by rw [←hr];rfl)
 have fk:=tok_kind k p (S x)
 have ft:=tok_text k p (S x)
 obtain ⟨b,hk⟩:∃b,(k==4)=b:=⟨_,rfl⟩
 have H0:=Lib.hid (Below.refl w.heap.size w)
 clear ht
 rw [HE.out,hk]
 cases b
 ·go_enter Tryz.func47,Tryz.ntmps47
  go_wp2_with (go_at_call 27;refine (Q.out _ H0.out).mono ?_;rintro en w1 ⟨rfl,hb1⟩)
  go_ret
  exact ⟨rfl,by assumption⟩
 ·go_enter Tryz.func47,Tryz.ntmps47
  go_wp2_with (first|(go_at_call 27;refine (Q.out _ H0.out).mono ?_;rintro en w1 ⟨rfl,hb1⟩;have H1:=Lib.hid hb1;clear hb1)|(go_at_call 27;refine (Q.out _ H1.out).mono ?_;rintro en w2 ⟨rfl,hb2⟩;have H2:=Lib.hid (H1.out.trans (hb2.mono H1.out.size));clear hb2))
  go_ret
  exact ⟨by simp,H2.out⟩
set_option maxHeartbeats 1000000 in
set_option maxRecDepth 10000 in
theorem r_word_at (h:Pr w R A c l i z ns at_ er) (s:List UInt8) :
  Calls Tryz.prog 25 #[.pointer (some ⟨R,0,none⟩),.string (S s)] w fun en w'=>en=.returned (.bool (isT 1 s (l.getD i default)))∧Below w.heap.size w w':=by
 generalize ht:l.getD i default=t
 obtain ⟨k,p,x⟩:=t
 have Q:=Lib.hid (fun W (hb:Below w.heap.size w W)=>r_tok_of (h.below hb) ht)
 clear h
 have hp:∃r,(x==s)=r:=⟨_,rfl⟩
 obtain ⟨r,hr⟩:=hp
 have HE:=Lib.hid (show isT 1 s (k,p,x)=((k==1)&&r) by rw [←hr];rfl)
 have fk:=tok_kind k p (S x)
 have ft:=tok_text k p (S x)
 obtain ⟨b,hk⟩:∃b,(k==1)=b:=⟨_,rfl⟩
 have H0:=Lib.hid (Below.refl w.heap.size w)
 clear ht
 rw [HE.out,hk]
 cases b
 ·go_enter Tryz.func25,Tryz.ntmps25
  go_wp2_with (go_at_call 27;refine (Q.out _ H0.out).mono ?_;rintro en w1 ⟨rfl,hb1⟩)
  go_ret
  exact ⟨rfl,by assumption⟩
 ·go_enter Tryz.func25,Tryz.ntmps25
  go_wp2_with (first|(go_at_call 27;refine (Q.out _ H0.out).mono ?_;rintro en w1 ⟨rfl,hb1⟩;have H1:=Lib.hid hb1;clear hb1)|(go_at_call 27;refine (Q.out _ H1.out).mono ?_;rintro en w2 ⟨rfl,hb2⟩;have H2:=Lib.hid (H1.out.trans (hb2.mono H1.out.size));clear hb2))
  go_ret
  exact ⟨by simp,H2.out⟩
end
end Go.Proofs.YtaojnljppcnhjaaGreatDoor
namespace Go.Proofs.YtaojnljppcnhjaaGreatDoor
open Go
def markT (l:List Tk) (i:Nat):Bool:=match i with
 | 0=>false
 | j+1=>(l.getD (j+1) default).1==3&&((l.getD j default).2.2==[45]&&(l.getD (j+1) default).2.1==(l.getD j default).2.1+1)
def leftT (l:List Tk) (i:Nat):List Tok:=if i < l.length then ((l.getD i default).1,(l.getD i default).2.2,markT l i) :: leftT l (i+1) else []
termination_by l.length - i
theorem left_cons {l:List Tk} {i:Nat} (h:i < l.length):leftT l i=((l.getD i default).1,(l.getD i default).2.2,markT l i) :: leftT l (i+1):=by rw [leftT,if_pos h]
theorem left_end {l:List Tk} {i:Nat} (h:l.length≤i):leftT l i=[]:=by rw [leftT,if_neg (by omega)]
theorem left_len (l:List Tk):∀(n i:Nat),l.length - i=n→(leftT l i).length=n
 | 0,i,h=>by rw [left_end (by omega)];rfl
 | n+1,i,h=>by rw [left_cons (by omega),List.length_cons,left_len l n (i+1) (by omega)]
theorem left_length (l:List Tk) (i:Nat):(leftT l i).length=l.length - i:=left_len l _ i rfl
theorem left_tail {l:List Tk} {i:Nat}:(leftT l i).tail=leftT l (i+1):=by
 by_cases h:i < l.length
 ·rw [left_cons h];rfl
 ·rw [left_end (by omega),left_end (by omega)];rfl
theorem left_isS {l:List Tk} {i:Nat} (h:i < l.length) (s:List UInt8):isS s (leftT l i)=isT 4 s (l.getD i default):=by rw [left_cons h];rfl
def Ended (l:List Tk):Prop:=0 < l.length∧∀i,i < l.length→((l.getD i default).1=0↔i+1=l.length)
theorem ended_step {l:List Tk} (h:Ended l) {i:Nat} (hi:i < l.length) (hk:(l.getD i default).1≠0):i+1 < l.length∧stepI l i=i+1:=by
 have h1:¬i+1=l.length:=fun e=>hk ((h.2 i hi).2 e)
 have h2:i+1 < l.length:=by omega
 exact ⟨h2,by rw [stepI,if_pos h2]⟩
def offT (l:List Tk) (left:Nat):Nat:=(l.getD (l.length - left) default).2.1
theorem off_here {l:List Tk} {i:Nat} (h:i < l.length):offT l (leftT l i).length=(l.getD i default).2.1:=by
 rw [offT,left_length,show l.length - (l.length - i)=i by omega]
def absP (at_:Nat) (prev:List UInt8):List Tk→List Tok
 | []=>[]
 | x :: r=>(x.1,x.2.2,(x.1==3&&(prev==[45]&&x.2.1==at_+1))) :: absP x.2.1 x.2.2 r
end Go.Proofs.YtaojnljppcnhjaaGreatDoor
namespace Go.Proofs.YtaojnljppcnhjaaGreatDoor
open Go
abbrev EndT:List Tok:=[(0,[],false)]
def ExtW {α:Type} (f:Rd1 α):Prop:=∀a ns v r ns2,f (a++EndT) ns=.ok v r ns2→∃b,r=b++EndT∧b.length < a.length∧∀x,b≠[]→f (a++x) ns=.ok v (b++x) ns2
def ExtS {α:Type} (f:Rd1 α):Prop:=∀a ns v r ns2,f (a++EndT) ns=.ok v r ns2→∃b,r=b++EndT∧b.length < a.length∧∀x,f (a++x) ns=.ok v (b++x) ns2
section
variable {ex:Rd1 Tm} (hex:ExtW ex)
include hex
end
section
variable {ex:Rd1 Tm} (hex:ExtW ex)
include hex
end
end Go.Proofs.YtaojnljppcnhjaaGreatDoor
namespace Go.Proofs.YtaojnljppcnhjaaGreatDoor
open Go
def Suf {α:Type} (f:Rd1 α):Prop:=∀ts ns v r ns2,f ts ns=.ok v r ns2→r <:+ ts
section
variable {ex:Rd1 Tm} (hex:Suf ex)
include hex
end
section
variable {ex:Rd1 Tm} (hex:Suf ex)
include hex
end
end Go.Proofs.YtaojnljppcnhjaaGreatDoor
namespace Go.Proofs.YtaojnljppcnhjaaGreatDoor
open Go
section
variable {ex:Rd1 Tm} (hex:ExtW ex)
include hex
end
def NoEnd (l:List Tok):Prop:=∀t∈l,t.1≠0
end Go.Proofs.YtaojnljppcnhjaaGreatDoor
namespace Go.Proofs.YtaojnljppcnhjaaGreatDoor
open Go
abbrev constraintW:List UInt8:=[99,111,110,115,116,114,97,105,110,116]
end Go.Proofs.YtaojnljppcnhjaaGreatDoor
