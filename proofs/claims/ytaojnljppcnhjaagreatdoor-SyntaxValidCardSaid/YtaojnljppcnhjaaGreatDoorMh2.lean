/-
  TkMem.
  TmStrip.
  PaKeep.
 SyScan.
 SyPlain.
-/
import Derived.Test.YtaojnljppcnhjaaGreatDoorProg
import Derived.Test.YtaojnljppcnhjaaGreatDoorMh1
import Derived.Deep.AppendLies
import Derived.Deep.Draws
import Derived.Deep.Slices
namespace Go.Proofs.YtaojnljppcnhjaaGreatDoor
open Go.RowKit
theorem keepk {w w':World} (hb:Below w.heap.size w w') {p:Addr} {v:Value} (h:w.cell? p=some v):w'.cell? p=some v:=by
 have hp:p.block < w.heap.size:=by
  rcases Nat.lt_or_ge p.block w.heap.size with h1|h1
  ·exact h1
  ·simp [World.cell?,Array.getElem?_eq_none h1] at h
 rw [hb.cell hp,h]
theorem box3 {w w':World} {v0 v1 v2:Value} {T:TypeId} (hb:Below (w.alloc (.cells #[v0,v1,v2] T)).heap.size (w.alloc (.cells #[v0,v1,v2] T)) w') :
  w'.cell? ⟨w.heap.size,0,none⟩=some v0∧w'.cell? ⟨w.heap.size,1,none⟩=some v1∧w'.cell? ⟨w.heap.size,2,none⟩=some v2∧Below w.heap.size w w':=by
 have h:∀j,w'.cell? ⟨w.heap.size,j,none⟩=(#[v0,v1,v2]:Array Value)[j]?:=fun j=>by
  rw [hb.cell (p:=⟨w.heap.size,j,none⟩) (by simp),World.cell?_alloc_at _ _ _ _ rfl]
 exact ⟨h 0,h 1,h 2,((Below.refl _ _).alloc (Nat.le_refl _) _).trans (hb.mono (by simp))⟩
def kcells (l:List Tk):List Value:=l.flatMap tokC
theorem kcells_len (l:List Tk):(kcells l).length=l.length*3:=by
 induction l with
 | nil=>rfl
 | cons t r ih=>simp only [kcells,List.flatMap_cons,List.length_append,List.length_cons] at *;simp only [tokC,List.length_cons,List.length_nil];omega
theorem kcells_append (l m:List Tk):kcells (l++m)=kcells l++kcells m:=by simp [kcells]
theorem kcells_one (x:Tk):∀v∈tokC x,v.oneCell'=true:=by
 intro v hv
 simp only [tokC,List.mem_cons,List.not_mem_nil,or_false] at hv
 rcases hv with rfl|rfl|rfl<;>rfl
theorem kcells_get (l:List Tk) {i j:Nat} (hi:i < l.length) (hj:j < 3):(kcells l)[i*3+j]?=(tokC (l.getD i default))[j]?:=by
 induction l generalizing i with
 | nil=>simp at hi
 | cons t r ih =>
  have hl:(tokC t).length=3:=rfl
  simp only [kcells,List.flatMap_cons]
  cases i with
  | zero =>
   rw [List.getElem?_append_left (by rw [hl];omega)]
   simp
  | succ i =>
   rw [List.getElem?_append_right (by rw [hl];omega),hl,show (i+1)*3+j - 3=i*3+j by omega]
   simpa [kcells] using ih (by simpa using hi)
theorem token_info:(Tryz.prog.info? 67).map (fun i=>(i.zero,i.size,i.bytes))=some (some (.agg #[.int .i64 0,.int .i64 0,.string ⟨#[]⟩]),3,32):=by kernel_rfl
theorem info_parts {P:Program} {T:TypeId} {z:Value} {n m:Nat} (h:(P.info? T).map (fun i=>(i.zero,i.size,i.bytes))=some (some z,n,m)):∃i,P.info? T=some i∧i.zero=some z∧i.size=n∧i.bytes=m:=by
 obtain ⟨i,hi,e⟩:=Option.map_eq_some_iff.1 h
 simp only [Prod.mk.injEq] at e
 exact ⟨i,hi,e.1,e.2.1,e.2.2⟩
def TLst (w:World) (A:Option Addr) (l:List Tk) (c:Nat):Prop:=l.length≤c∧c≤maxLen∧(0 < l.length→∃g,A=some ⟨g,0,none⟩∧∀i,i < l.length→∀j u,(tokC (l.getD i default))[j]?=some u→w.cell? ⟨g,i*3+j,none⟩=some u)
section
variable {w w':World} {A:Option Addr} {l:List Tk} {c:Nat}
theorem TLst.nil (w:World):TLst w none [] 0:=⟨Nat.le_refl _,Nat.zero_le _,fun h=>absurd h (by simp)⟩
theorem TLst.below (h:TLst w A l c) (hb:Below w.heap.size w w'):TLst w' A l c:=⟨h.1,h.2.1,fun hn=>by
 obtain ⟨g,e,hr⟩:=h.2.2 hn
 exact ⟨g,e,fun i hi j u hu=>keepk hb (hr i hi j u hu)⟩⟩
theorem TLst.get (h:TLst w A l c) {i:Nat} (hi:i < l.length):∃g,A=some ⟨g,0,none⟩ ∧
  w.cell? ⟨g,i*3,none⟩=some (.int .i64 (l.getD i default).1)∧w.cell? ⟨g,i*3+1,none⟩=some (.int .i64 ((l.getD i default).2.1:Int))∧w.cell? ⟨g,i*3+2,none⟩=some (.string (S (l.getD i default).2.2)):=by
 obtain ⟨g,e,hr⟩:=h.2.2 (by omega)
 exact ⟨g,e,hr i hi 0 _ rfl,hr i hi 1 _ rfl,hr i hi 2 _ rfl⟩
end
theorem own_lt {w:World} {base:Nat} {e:TypeId} {size:Nat} {v:Value} {n:Nat} {xs:List Value} (h:w.ownsRow base e size v n xs):∀k,v.ownBlock=some k→base≤k∧k < w.heap.size:=by
 intro k hk
 rcases h.2 with ⟨rfl,_⟩|⟨g,cap,cur,rfl,hb,hg,_⟩
 ·simp [Value.ownBlock] at hk
 ·simp only [Value.ownBlock,Option.some.injEq] at hk
  subst hk
  refine ⟨hb,?_⟩
  rcases Nat.lt_or_ge g w.heap.size with h|h
  ·exact h
  ·rw [Array.getElem?_eq_none h] at hg;cases hg
theorem own_below {w w':World} {base:Nat} {e:TypeId} {size:Nat} {v:Value} {n:Nat} {xs:List Value} (h:w.ownsRow base e size v n xs) (hb:Below w.heap.size w w'):w'.ownsRow base e size v n xs :=
 World.ownsRow.kept (row:=none) h ⟨hb.os,hb.tape,hb.output,hb.size,fun k hk _=>hb.block k hk⟩ (by
  rcases h.2 with ⟨rfl,_⟩|⟨g,cap,cur,rfl,_⟩
  ·exact .inl rfl
  ·exact .inr (by simp [Value.ownBlock]))
def RowK (lo:Nat) (w:World) (z:Value) (acc:List Tk):Prop:=w.ownsRow lo 67 3 z acc.length (kcells acc)
section
variable {lo:Nat} {w w':World} {z:Value} {acc:List Tk}
theorem RowK.nil (lo:Nat) (w:World):RowK lo w (.slice none 0 0) []:=⟨rfl,.inl ⟨rfl,rfl⟩⟩
theorem RowK.below (h:RowK lo w z acc) (hb:Below w.heap.size w w'):RowK lo w' z acc:=own_below h hb
theorem RowK.next {g cap:Nat} {w4:World} {u:Tk}
  (hown:w4.ownsRow lo 67 3 (.slice (some ⟨g,0,none⟩) (acc.length+1) cap) (acc.length+1) (kcells acc++tokC u)) :
  RowK lo w4 (.slice (some ⟨g,0,none⟩) (acc.length+1) cap) (acc++[u]):=by
 unfold RowK
 rw [List.length_append,kcells_append]
 simpa [kcells] using hown
theorem RowK.form (h:RowK lo w z acc):∃A c,z=.slice A acc.length c∧acc.length≤c:=by
 rcases h.2 with ⟨rfl,h1⟩|⟨g,cap,cur,rfl,hb,hg,hle,_⟩
 ·exact ⟨none,0,by rw [h1],by omega⟩
 ·exact ⟨_,cap,rfl,hle⟩
theorem RowK.lies {A:Option Addr} {c n:Nat} (h:RowK lo w (.slice A n c) acc):TLst w A acc c:=by
 have hl:=kcells_len acc
 rcases h.2 with ⟨e,h1⟩|⟨g,cap,cur,e,hb,hg,hle,hcap,hcs,hcur⟩
 ·injection e with e1 _ e3
  obtain rfl:acc=[]:=List.length_eq_zero_iff.1 h1
  rw [e1,e3];exact TLst.nil w
 ·injection e with e1 e2 e3
  subst e1 e2 e3
  refine ⟨hle,hcap,fun _=>⟨g,rfl,fun i hi j u hu=>?_⟩⟩
  have hj:j < 3:=by
   have:=(List.getElem?_eq_some_iff.1 hu).1
   simpa [tokC] using this
  have hc:=World.ownsRow.cellAt h (i*3+j) (by omega)
  rw [hc]
  exact (kcells_get acc hi hj).trans hu
end
theorem knews1 (w:World) (u:Tk) (T:TypeId):∀j v,(tokC u)[j]?=some v→(w.alloc (.cells #[.int .i64 u.1,.int .i64 (u.2.1:Int),.string (S u.2.2)] T)).cell? ((⟨w.heap.size,0,none⟩:Addr).add j)=some v:=by
 intro j v hv
 rw [add_plain,Nat.zero_add,World.cell?_alloc_at _ _ _ _ rfl,← hv,show (#[Value.int .i64 u.1,.int .i64 (u.2.1:Int),.string (S u.2.2)]:Array Value)=(tokC u).toArray from rfl,List.getElem?_toArray]
def fin (acc:List Tk) (r:List Tk×Nat×Int):List Tk×Nat×Int:=if r.2.2≠0 then r else (acc++r.1,0,0)
theorem fin_nil (s:ByteArray):∀(n p:Nat),fin [] (toksAt s n p)=toksAt s n p
 | 0,p=>rfl
 | n+1,p=>by
  unfold fin
  split
  ·rfl
  ·rename_i h
   unfold toksAt at h ⊢
   split at h
   ·rename_i h1;exact absurd h1 h
   ·rename_i h1
    rw [if_neg h1]
    split at h
    ·rename_i h2;rw [if_pos h2];rfl
    ·rename_i h2
     rw [if_neg h2]
     split at h
     ·rename_i h3;exact absurd h3 h
     ·rename_i h3;rw [if_neg h3];rfl
theorem toks_err {s:ByteArray} {n p:Nat} (h:(tokAt s p).2.2≠0):toksAt s (n+1) p=([],(tokAt s p).2.1,(tokAt s p).2.2):=by
 unfold toksAt
 rw [if_pos h]
theorem toks_end {s:ByteArray} {n p:Nat} (h:(tokAt s p).2.2=0) (hk:(tokAt s p).1.1=0):toksAt s (n+1) p=([(tokAt s p).1],0,0):=by
 unfold toksAt
 rw [if_neg (fun h'=>h' h),if_pos hk]
theorem toks_next {s:ByteArray} {n p:Nat} (h:(tokAt s p).2.2=0) (hk:(tokAt s p).1.1≠0):toksAt s (n+1) p=if (toksAt s n (tokAt s p).2.1).2.2≠0 then toksAt s n (tokAt s p).2.1 else ((tokAt s p).1 :: (toksAt s n (tokAt s p).2.1).1,0,0):=by
 conv=>lhs;unfold toksAt
 rw [if_neg (fun h'=>h' h),if_neg hk]
theorem fin_err {s:ByteArray} {n p:Nat} (acc:List Tk) (h:(tokAt s p).2.2≠0):fin acc (toksAt s (n+1) p)=([],(tokAt s p).2.1,(tokAt s p).2.2):=by
 rw [toks_err h,fin,if_pos h]
theorem fin_end {s:ByteArray} {n p:Nat} (acc:List Tk) (h:(tokAt s p).2.2=0) (hk:(tokAt s p).1.1=0):fin acc (toksAt s (n+1) p)=(acc++[(tokAt s p).1],0,0):=by
 rw [toks_end h hk];rfl
theorem fin_next {s:ByteArray} {n p:Nat} (acc:List Tk) (h:(tokAt s p).2.2=0) (hk:(tokAt s p).1.1≠0):fin acc (toksAt s (n+1) p)=fin (acc++[(tokAt s p).1]) (toksAt s n (tokAt s p).2.1):=by
 rw [toks_next h hk]
 unfold fin
 by_cases h3:(toksAt s n (tokAt s p).2.1).2.2≠0
 ·simp [h3]
 ·simp [h3]
theorem tokAt_facts {s:ByteArray} {p:Nat} (hp:p≤s.size) (h:(tokAt s p).2.2=0) :
  (tokAt s p).1.2.1=skipP s p∧(tokAt s p).2.1=skipP s p+(tokAt s p).1.2.2.length∧p≤skipP s p∧(tokAt s p).2.1≤s.size∧((tokAt s p).1.1≠0→0 < (tokAt s p).1.2.2.length)∧((tokAt s p).1.1=0→(tokAt s p).1.2.2=[]∧skipP s p=s.size)∧(tokAt s p).1.2.2 <+: rest s (skipP s p):=by
 obtain ⟨f1,f2,f3⟩:=skipP_facts hp
 by_cases he:(tokL (gap false (rest s p))).2.2≠0
 ·unfold tokAt at h;rw [if_pos he] at h;exact absurd h he
 ·have e:tokAt s p=(((tokL (gap false (rest s p))).1,skipP s p,(tokL (gap false (rest s p))).2.1),skipP s p+(tokL (gap false (rest s p))).2.1.length,0):=by unfold tokAt;rw [if_neg he]
  have he':(tokL (gap false (rest s p))).2.2=0:=Classical.not_not.1 he
  have ht:tokL (gap false (rest s p))=((tokL (gap false (rest s p))).1,(tokL (gap false (rest s p))).2.1,0):=by rw [←he']
  obtain ⟨t1,t2,t3⟩:=tok_head ht
  rw [e]
  refine ⟨rfl,rfl,f1,?_,t2,fun hk=>⟨(t3 hk).2,?_⟩,by rw [f3];exact t1⟩
  ·have:=t1.length_le
   rw [←f3,rest_len] at this
   simp only
   rw [←f3]
   omega
  ·have:=(t3 hk).1
   rw [←f3] at this
   have h5:=rest_len s (skipP s p)
   rw [this] at h5
   simp only [List.length_nil] at h5
   omega
theorem tokAt_in {s:ByteArray} {p:Nat} (hp:p≤s.size):(tokAt s p).2.1≤s.size:=by
 by_cases h:(tokAt s p).2.2=0
 ·exact (tokAt_facts hp h).2.2.2.1
 ·unfold tokAt
  split
  ·exact (skipP_facts hp).2.1
  ·rename_i h1;unfold tokAt at h;rw [if_neg h1] at h;exact absurd rfl h
end Go.Proofs.YtaojnljppcnhjaaGreatDoor
namespace Go.Proofs.YtaojnljppcnhjaaGreatDoor
open Go
mutual
def Tm.strip:Tm→Tm
 | .mk k n s _ _ a=>.mk k n s none 0 (stripL a)
def stripL:List Tm→List Tm
 | []=>[]
 | t :: r=>t.strip :: stripL r
end
theorem stripL_map (l:List Tm):stripL l=l.map Tm.strip:=by
 induction l with
 | nil=>rfl
 | cons t r ih=>simp [stripL,ih]
theorem stripL_len (l:List Tm):(stripL l).length=l.length:=by rw [stripL_map,List.length_map]
theorem stripL_append (l m:List Tm):stripL (l++m)=stripL l++stripL m:=by simp [stripL_map]
theorem strip_parts {t u:Tm} (h:t.strip=u.strip):t.kind=u.kind∧t.num=u.num∧t.name=u.name∧t.args.length=u.args.length∧stripL t.args=stripL u.args:=by
 obtain ⟨k,n,s,A,c,a⟩:=t
 obtain ⟨k',n',s',A',c',a'⟩:=u
 simp only [Tm.strip,Tm.mk.injEq,true_and] at h
 obtain ⟨h1,h2,h3,h4⟩:=h
 have h5:=congrArg List.length h4
 simp only [stripL_map,List.length_map] at h5
 exact ⟨h1,h2,h3,h5,h4⟩
theorem form_strip:(∀t:Tm,t.strip.form=t.form)∧(∀l,formL (stripL l)=formL l):=by
 refine Tm.induct2 (fun k n s A c a ih=>?_) rfl (fun t r h1 h2=>?_)
 ·simp only [Tm.strip,Tm.form,ih,stripL_len]
 ·simp only [stripL,formL,h1,h2]
theorem size_strip:(∀t:Tm,t.strip.size=t.size)∧(∀l,sizeL (stripL l)=sizeL l):=by
 refine Tm.induct2 (fun k n s A c a ih=>?_) rfl (fun t r h1 h2=>?_)
 ·simp only [Tm.strip,Tm.size,ih]
 ·simp only [stripL,sizeL,h1,h2]
theorem depth_strip:(∀t:Tm,t.strip.depth=t.depth)∧(∀l,depthL (stripL l)=depthL l):=by
 refine Tm.induct2 (fun k n s A c a ih=>?_) rfl (fun t r h1 h2=>?_)
 ·simp only [Tm.strip,Tm.depth,ih]
 ·simp only [stripL,depthL,h1,h2]
end Go.Proofs.YtaojnljppcnhjaaGreatDoor
namespace Go.Proofs.YtaojnljppcnhjaaGreatDoor
open Go.RowKit
structure Kp (R:Nat) (z z':Value) (w w':World):Prop where
 os:w'.os=w.os
 tape:w'.tape=w.tape
 output:w'.output=w.output
 size:w.heap.size≤w'.heap.size
 block:∀k,k < w.heap.size→k≠R→z.ownBlock≠some k→w'.heap[k]?=w.heap[k]?
 own:∀k,z'.ownBlock=some k→z.ownBlock=some k∨w.heap.size≤k
section
variable {R:Nat} {z z1 z2:Value} {a b c w w':World}
theorem Kp.refl (R:Nat) (z:Value) (w:World):Kp R z z w w:=⟨rfl,rfl,rfl,Nat.le_refl _,fun _ _ _ _=>rfl,fun _ h=>.inl h⟩
theorem Kp.trans (h:Kp R z z1 a b) (k:Kp R z1 z2 b c):Kp R z z2 a c:=by
 refine ⟨k.os.trans h.os,k.tape.trans h.tape,k.output.trans h.output,Nat.le_trans h.size k.size,fun i hi hr ho=>?_,fun i hi=>?_⟩
 ·refine (k.block i (Nat.lt_of_lt_of_le hi h.size) hr fun e=>?_).trans (h.block i hi hr ho)
  rcases h.own i e with h1|h1
  ·exact ho h1
  ·omega
 ·rcases k.own i hi with h1|h1
  ·exact h.own i h1
  ·exact .inr (Nat.le_trans h.size h1)
theorem Below.kp (h:Below w.heap.size w w') (R:Nat) (z:Value):Kp R z z w w':=⟨h.os,h.tape,h.output,h.size,fun k hk _ _=>h.block k hk,fun _ h=>.inl h⟩
theorem Kp.drewN (h:Kp R z z1 a w) (n:Nat):Kp R z z1 a (w.drewN n):=⟨h.os,h.tape,h.output,h.size,h.block,h.own⟩
theorem Kp.drew (h:Kp R z z1 a w):Kp R z z1 a w.drew:=⟨h.os,h.tape,h.output,h.size,h.block,h.own⟩
theorem Kp.alloc (h:Kp R z z1 a w) (o:Obj):Kp R z z1 a (w.alloc o):=h.trans (Below.kp ((Below.refl _ _).alloc (Nat.le_refl _) o) R z1)
theorem Kp.set (h:Kp R z z1 a w) (q:Nat) (sp:Option Nat) (v:Value):Kp R z z1 a (w.setCell ⟨R,q,sp⟩ v) :=
 h.trans ⟨rfl,rfl,rfl,by simp [World.setCell],fun k _ hr _=>Below.heap_setCell _ _ _ _ hr,fun _ h=>.inl h⟩
theorem Kp.put (h:Kp R z z1 a w) {p:Addr} (hp:a.heap.size≤p.block) (v:Value):Kp R z z1 a (w.setCell p v) :=
 ⟨h.os,h.tape,h.output,by simpa [World.setCell] using h.size,fun k hk hr ho=>(Below.heap_setCell _ _ _ _ (by omega)).trans (h.block k hk hr ho),h.own⟩
theorem Kp.grown {row:Option Nat} (h:Kp R z z1 a w) (hg:w.grownBy w' row) (hr:∀k,row=some k→a.heap.size≤k):Kp R z z1 a w' :=
 ⟨hg.os.trans h.os,hg.tape.trans h.tape,hg.output.trans h.output,Nat.le_trans h.size hg.size,fun k hk hR ho =>
  (hg.block k (Nat.lt_of_lt_of_le hk h.size) (fun e=>by have:=hr k e.symm;omega)).trans (h.block k hk hR ho),h.own⟩
theorem Kp.names {g n cap:Nat} (h:Kp R z z1 a w) (hg:w.grownBy w' z1.ownBlock) (hat:z1.ownBlock=some g∨g=w.heap.size):Kp R z (.slice (some ⟨g,0,none⟩) n cap) a w' :=
 h.trans ⟨hg.os,hg.tape,hg.output,hg.size,fun k hk _ ho=>hg.block k hk (fun e=>ho e.symm),fun k hk=>by
  have e:g=k:=by simpa [Value.ownBlock] using hk
  subst e
  rcases hat with h|h
  ·exact .inl h
  ·exact .inr (by omega)⟩
theorem Kp.cell (h:Kp R z z1 w w') {p:Addr} (hp:p.block < w.heap.size) (hr:p.block≠R) (ho:z.ownBlock≠some p.block):w'.cell? p=w.cell? p:=by
 have:=h.block p.block hp hr ho
 simp only [World.cell?,this]
end
def Agr (lo:Nat) (X:Nat→Prop) (w W:World):Prop:=∀b,lo≤b→b < w.heap.size→¬X b→W.heap[b]?=w.heap[b]?
theorem Agr.refl (lo:Nat) (X:Nat→Prop) (w:World):Agr lo X w w:=fun _ _ _ _=>rfl
theorem Agr.cell {lo:Nat} {X:Nat→Prop} {w W:World} (h:Agr lo X w W) {p:Addr} (h1:lo≤p.block) (h2:p.block < w.heap.size) (h3:¬X p.block):W.cell? p=w.cell? p:=by
 have:=h p.block h1 h2 h3
 simp only [World.cell?,this]
abbrev Own (z:Value):Nat→Prop:=fun k=>z.ownBlock=some k
abbrev Own2 (r z:Value):Nat→Prop:=fun k=>r.ownBlock=some k∨z.ownBlock=some k
def Liv (lo:Nat) (X:Nat→Prop) (w:World) (t:Tm):Prop:=∀W,Agr lo X w W→t.At W
def LivL (lo:Nat) (X:Nat→Prop) (w:World) (A:Option Addr) (l:List Tm) (c:Nat):Prop:=∀W,Agr lo X w W→Lst W A l c
section
variable {lo lo':Nat} {X Y:Nat→Prop} {w w':World} {t:Tm} {A:Option Addr} {l:List Tm} {c:Nat}
theorem Liv.at (h:Liv lo X w t):t.At w:=h w (Agr.refl _ _ _)
theorem LivL.lst (h:LivL lo X w A l c):Lst w A l c:=h w (Agr.refl _ _ _)
theorem Agr.less {W:World} (h:Agr lo X w' W) (hs:w.heap.size≤w'.heap.size) (hc:∀b,lo'≤b→b < w.heap.size→¬Y b→lo≤b∧¬X b∧w'.heap[b]?=w.heap[b]?):Agr lo' Y w W:=fun b h1 h2 h3 =>
 (h b (hc b h1 h2 h3).1 (Nat.lt_of_lt_of_le h2 hs) (hc b h1 h2 h3).2.1).trans (hc b h1 h2 h3).2.2
theorem Liv.less (h:Liv lo' Y w t) (hs:w.heap.size≤w'.heap.size) (hc:∀b,lo'≤b→b < w.heap.size→¬Y b→lo≤b∧¬X b∧w'.heap[b]?=w.heap[b]?):Liv lo X w' t:=fun W hW=>h W (hW.less hs hc)
theorem LivL.less (h:LivL lo' Y w A l c) (hs:w.heap.size≤w'.heap.size) (hc:∀b,lo'≤b→b < w.heap.size→¬Y b→lo≤b∧¬X b∧w'.heap[b]?=w.heap[b]?):LivL lo X w' A l c:=fun W hW=>h W (hW.less hs hc)
theorem Liv.below (h:Liv lo X w t) (k:Below w.heap.size w w'):Liv lo X w' t:=h.less k.size fun b h1 h2 h3=>⟨h1,h3,k.block b h2⟩
theorem LivL.below (h:LivL lo X w A l c) (k:Below w.heap.size w w'):LivL lo X w' A l c:=h.less k.size fun b h1 h2 h3=>⟨h1,h3,k.block b h2⟩
theorem Liv.alloc (h:Liv lo X w t) (o:Obj):Liv lo X (w.alloc o) t:=h.below ((Below.refl _ _).alloc (Nat.le_refl _) o)
theorem LivL.alloc (h:LivL lo X w A l c) (o:Obj):LivL lo X (w.alloc o) A l c:=h.below ((Below.refl _ _).alloc (Nat.le_refl _) o)
theorem Liv.drewN (h:Liv lo X w t) (n:Nat):Liv lo X (w.drewN n) t:=h
theorem LivL.drewN (h:LivL lo X w A l c) (n:Nat):LivL lo X (w.drewN n) A l c:=h
theorem Liv.low (h:Liv lo X w t) (hl:lo'≤lo):Liv lo' X w t:=h.less (Nat.le_refl _) fun b h1 _ h3=>⟨by omega,h3,rfl⟩
theorem LivL.low (h:LivL lo X w A l c) (hl:lo'≤lo):LivL lo' X w A l c:=h.less (Nat.le_refl _) fun b h1 _ h3=>⟨by omega,h3,rfl⟩
theorem Liv.out (h:Liv lo Y w t) (hY:∀b,lo≤b→b < w.heap.size→X b→Y b):Liv lo X w t:=h.less (Nat.le_refl _) fun b h1 h2 h3=>⟨h1,fun hx=>h3 (hY b h1 h2 hx),rfl⟩
theorem LivL.out (h:LivL lo Y w A l c) (hY:∀b,lo≤b→b < w.heap.size→X b→Y b):LivL lo X w A l c:=h.less (Nat.le_refl _) fun b h1 h2 h3=>⟨h1,fun hx=>h3 (hY b h1 h2 hx),rfl⟩
theorem Liv.set (h:Liv lo X w t) {p:Addr} (hp:p.block < lo∨X p.block) (v:Value):Liv lo X (w.setCell p v) t:=h.less (by simp [World.setCell]) fun b h1 _ h3=>⟨h1,h3,Below.heap_setCell _ _ _ _ (fun e=>hp.elim (fun h=>by omega) (fun h=>h3 (e ▸ h)))⟩
theorem LivL.set (h:LivL lo X w A l c) {p:Addr} (hp:p.block < lo∨X p.block) (v:Value):LivL lo X (w.setCell p v) A l c:=h.less (by simp [World.setCell]) fun b h1 _ h3=>⟨h1,h3,Below.heap_setCell _ _ _ _ (fun e=>hp.elim (fun h=>by omega) (fun h=>h3 (e ▸ h)))⟩
theorem Liv.any (ht:∀W,t.At W):Liv lo X w t:=fun W _=>ht W
variable {R:Nat} {z z':Value}
theorem Liv.kp (h:Liv lo (Own z) w t) (k:Kp R z z' w w') (hR:R < lo):Liv lo (Own z') w' t:=h.less k.size fun b h1 h2 h3=>⟨h1,fun e=>(k.own b e).elim h3 (fun h=>by omega),k.block b h2 (by omega) h3⟩
theorem LivL.kp (h:LivL lo (Own z) w A l c) (k:Kp R z z' w w') (hR:R < lo):LivL lo (Own z') w' A l c:=h.less k.size fun b h1 h2 h3=>⟨h1,fun e=>(k.own b e).elim h3 (fun h=>by omega),k.block b h2 (by omega) h3⟩
end
def pcells (l:List Tm):List Value:=l.flatMap Tm.cells
theorem pcell_len (t:Tm):t.cells.length=4:=rfl
theorem pcells_length (l:List Tm):(pcells l).length=l.length*4:=by
 induction l with
 | nil=>rfl
 | cons t r ih=>simp only [pcells,List.flatMap_cons,List.length_append,pcell_len,List.length_cons] at *;omega
theorem pcells_one (l:List Tm):∀u∈pcells l,u.oneCell'=true:=by
 intro u hu
 obtain ⟨t,_,ht⟩:=List.mem_flatMap.1 hu
 simp only [Tm.cells,List.mem_cons,List.not_mem_nil,or_false] at ht
 rcases ht with rfl|rfl|rfl|rfl<;>rfl
theorem pcells_get (l:List Tm) {i j:Nat} (hi:i < l.length) (hj:j < 4):(pcells l)[4*i+j]?=(l.getD i default).cells[j]?:=by
 induction l generalizing i with
 | nil=>simp at hi
 | cons t r ih =>
  simp only [pcells,List.flatMap_cons]
  cases i with
  | zero =>
   rw [List.getElem?_append_left (by rw [pcell_len];omega)]
   simp
  | succ i =>
   rw [List.getElem?_append_right (by rw [pcell_len];omega),pcell_len,show 4*(i+1)+j - 4=4*i+j by omega]
   simpa [pcells] using ih (by simpa using hi)
theorem own_of {w w':World} {base:Nat} {e:TypeId} {size:Nat} {v:Value} {n:Nat} {xs:List Value} (h:w.ownsRow base e size v n xs) (hb:∀k,v.ownBlock=some k→w'.heap[k]?=w.heap[k]?):w'.ownsRow base e size v n xs:=by
 refine ⟨h.1,?_⟩
 rcases h.2 with hn|⟨g,cap,cur,rfl,hb1,hgg,rest⟩
 ·exact .inl hn
 ·exact .inr ⟨g,cap,cur,rfl,hb1,by rw [hb g rfl];exact hgg,rest⟩
structure RowP (lo:Nat) (w:World) (z r:Value) (acc:List Tm):Prop where
 row:w.ownsRow lo 56 4 r acc.length (pcells acc)
 apart:∀k,r.ownBlock=some k→z.ownBlock≠some k
 each:∀x∈acc,Liv lo (Own2 r z) w x
theorem RowP.kp {lo R:Nat} {w w':World} {z z' r:Value} {acc:List Tm} (h:RowP lo w z r acc) (k:Kp R z z' w w') (hR:R < lo):RowP lo w' z' r acc:=by
 have hlt:=own_lt h.row
 refine ⟨own_of h.row fun j hj=>k.block j (hlt j hj).2 (by have:=(hlt j hj).1;omega) (h.apart j hj),fun j hj e=>?_,fun x hx=>(h.each x hx).less k.size fun b h1 h2 h3=>?_⟩
 ·rcases k.own j e with h1|h1
  ·exact h.apart j hj h1
  ·have:=(hlt j hj).2;omega
 ·refine ⟨h1,fun e=>?_,k.block b h2 (by omega) (fun e=>h3 (.inr e))⟩
  rcases e with e|e
  ·exact h3 (.inl e)
  ·rcases k.own b e with h4|h4
   ·exact h3 (.inr h4)
   ·omega
theorem RowP.nil (lo:Nat) (w:World) (z:Value):RowP lo w z (.slice none 0 0) []:=⟨⟨rfl,.inl ⟨rfl,rfl⟩⟩,fun k hk=>(by cases hk),fun x hx=>(by cases hx)⟩
theorem pcells_append (l m:List Tm):pcells (l++m)=pcells l++pcells m:=by simp [pcells]
theorem RowP.next {lo g cap:Nat} {w2 w3 w4:World} {z r:Value} {acc:List Tm} {u:Tm} (h:RowP lo w2 z r acc) (hz:∀k,z.ownBlock=some k→k < w2.heap.size) (hu:Liv lo (Own2 r z) w2 u) (hb:Below w2.heap.size w2 w3)
  (hown:w4.ownsRow lo 56 4 (.slice (some ⟨g,0,none⟩) (acc.length+1) cap) (acc.length+1) (pcells acc++u.cells)) (hg:w3.grownBy w4 r.ownBlock) (hat:r.ownBlock=some g∨g=w3.heap.size) :
  RowP lo w4 z (.slice (some ⟨g,0,none⟩) (acc.length+1) cap) (acc++[u]):=by
 refine ⟨by rw [List.length_append,pcells_append];simpa [pcells] using hown,fun k hk e=>?_,fun x hx=>?_⟩
 ·have e':g=k:=by simpa [Value.ownBlock] using hk
  subst e'
  rcases hat with h1|h1
  ·exact h.apart g h1 e
  ·have:=hz g e;have:=hb.size;omega
 have hx2:Liv lo (Own2 r z) w2 x:=by
  rcases List.mem_append.1 hx with hx|hx
  ·exact h.each x hx
  ·rw [List.mem_singleton.1 hx];exact hu
 refine (hx2.below hb).less hg.size fun b h1 h2 h3=>⟨h1,fun e=>?_,hg.block b h2 (fun e=>h3 (.inl e.symm))⟩
 rcases e with e|e
 ·have e':g=b:=by simpa [Value.ownBlock] using e
  rcases hat with h|h
  ·exact h3 (.inl (by rw [h,e']))
  ·omega
 ·exact h3 (.inr e)
theorem RowP.lst {lo:Nat} {w:World} {z r:Value} {acc:List Tm} (h:RowP lo w z r acc) (h0:0 < acc.length):∃g c,r=.slice (some ⟨g,0,none⟩) acc.length c∧LivL lo (Own z) w (some ⟨g,0,none⟩) acc c:=by
 rcases h.row.2 with ⟨_,h1⟩|⟨g,cap,cur,rfl,hb,hg,hle,hcap,hcs,hcur⟩
 ·omega
 ·have hlt:=own_lt h.row g rfl
  have hap:=h.apart g rfl
  have hl:=pcells_length acc
  refine ⟨g,cap,rfl,fun W hW=>⟨hle,hcap,fun _=>⟨g,0,rfl,RowAt.of fun i hi=>⟨fun j u hu=>?_,?_⟩⟩⟩⟩
  ·have hj:j < 4:=by
    have:=(List.getElem?_eq_some_iff.1 hu).1
    simpa [Tm.cells] using this
   rw [hW.cell (p:=⟨g,0+4*i+j,none⟩) hlt.1 hlt.2 hap]
   have hc:=World.ownsRow.cellAt h.row (4*i+j) (by omega)
   rw [Nat.zero_add,hc]
   exact (pcells_get acc hi hj).trans hu
  ·exact h.each _ (getD_mem hi) W fun b h1 h2 h3=>hW b h1 h2 (fun h=>h3 (.inr h))
def nmC (ns:List (List UInt8)):List Value:=ns.map fun x=>.string (S x)
structure Pr (w:World) (R:Nat) (A:Option Addr) (c:Nat) (l:List Tk) (i:Nat) (z:Value) (ns:List (List UInt8)) (at_:Nat) (er:Int):Prop where
 lt:R < w.heap.size
 l0:w.cell? ⟨R,0,none⟩=some (.slice A l.length c)
 l1:w.cell? ⟨R,1,none⟩=some (.int .i64 (i:Int))
 l2:w.cell? ⟨R,2,none⟩=some z
 l3:w.cell? ⟨R,3,none⟩=some (.int .i64 (at_:Int))
 l4:w.cell? ⟨R,4,none⟩=some (.int .i64 er)
 fr:∀j,w.frozen? ⟨R,j,none⟩=false
 toks:TLst w A l c
 low:∀g,A=some ⟨g,0,none⟩→g < R
 ilt:i < l.length
 own:w.ownsRow (R+1) 9 1 z ns.length (nmC ns)
section
variable {w w':World} {R:Nat} {A:Option Addr} {c:Nat} {l:List Tk} {i:Nat} {z:Value} {ns:List (List UInt8)} {at_:Nat} {er:Int}
theorem Pr.of (h:Pr w R A c l i z ns at_ er) (hs:w.heap.size≤w'.heap.size) (hb:∀k,k < w.heap.size→(k≤R∨z.ownBlock=some k)→w'.heap[k]?=w.heap[k]?):Pr w' R A c l i z ns at_ er:=by
 have hR:=hb R h.lt (.inl (Nat.le_refl _))
 have hc:∀j,w'.cell? ⟨R,j,none⟩=w.cell? ⟨R,j,none⟩:=fun j=>World.cell?_of_block hR
 refine ⟨Nat.lt_of_lt_of_le h.lt hs,by rw [hc,h.l0],by rw [hc,h.l1],by rw [hc,h.l2],by rw [hc,h.l3],by rw [hc,h.l4],fun j=>by rw [World.frozen?_of_block (a:=⟨R,j,none⟩) hR];exact h.fr j,?_,h.low,h.ilt,own_of h.own fun k hk=>hb k (own_lt h.own k hk).2 (.inr hk)⟩
 refine ⟨h.toks.1,h.toks.2.1,fun hn=>?_⟩
 obtain ⟨g,e,hr⟩:=h.toks.2.2 hn
 have hg:=h.low g e
 have hlt:=h.lt
 exact ⟨g,e,fun i hi j u hu=>by rw [World.cell?_of_block (a:=⟨g,i*3+j,none⟩) (hb g (by omega) (.inl (by omega)))];exact hr i hi j u hu⟩
theorem Pr.below (h:Pr w R A c l i z ns at_ er) (hb:Below w.heap.size w w'):Pr w' R A c l i z ns at_ er:=h.of hb.size fun k hk _=>hb.block k hk
theorem Pr.drewN (h:Pr w R A c l i z ns at_ er) (n:Nat):Pr (w.drewN n) R A c l i z ns at_ er:=h.of (Nat.le_refl _) fun _ _ _=>rfl
theorem Pr.drew (h:Pr w R A c l i z ns at_ er):Pr w.drew R A c l i z ns at_ er:=h.of (Nat.le_refl _) fun _ _ _=>rfl
theorem Pr.alloc (h:Pr w R A c l i z ns at_ er) (o:Obj):Pr (w.alloc o) R A c l i z ns at_ er:=h.below ((Below.refl _ _).alloc (Nat.le_refl _) o)
theorem Pr.put (h:Pr w R A c l i z ns at_ er) {p:Addr} (hp:R < p.block) (hz:z.ownBlock≠some p.block) (v:Value):Pr (w.setCell p v) R A c l i z ns at_ er :=
 h.of (by simp [World.setCell]) fun k _ hk=>Below.heap_setCell _ _ _ _ (fun e=>hk.elim (fun h=>by omega) (fun h=>hz (e ▸ h)))
theorem Pr.grown {row:Option Nat} (h:Pr w R A c l i z ns at_ er) (hg:w.grownBy w' row) (hr:∀k,row=some k→R < k∧z.ownBlock≠some k):Pr w' R A c l i z ns at_ er :=
 h.of hg.size fun k hk ho=>hg.block k hk fun e=>by
  obtain ⟨h1,h2⟩:=hr k e.symm
  exact ho.elim (fun h=>by omega) h2
theorem Pr.apart (h:Pr w R A c l i z ns at_ er):∀k,z.ownBlock=some k→R < k∧k < w.heap.size:=own_lt h.own
theorem Pr.setI (h:Pr w R A c l i z ns at_ er) {q:Nat} (hq:q < l.length):Pr (w.setCell ⟨R,1,none⟩ (.int .i64 (q:Int))) R A c l q z ns at_ er:=by
 have ho:∀j,j≠1→∀v,w.cell? ⟨R,j,none⟩=some v→(w.setCell ⟨R,1,none⟩ (.int .i64 (q:Int))).cell? ⟨R,j,none⟩=some v:=fun j hj v hv=>by
  rw [World.cell?_setCell_other _ _ _ _ (by simp only [ne_eq,Addr.mk.injEq,true_and,and_true];omega)];exact hv
 refine ⟨by simpa [World.setCell] using h.lt,ho 0 (by omega) _ h.l0,World.cell?_setCell_same _ _ _ (by rw [h.l1]),ho 2 (by omega) _ h.l2,ho 3 (by omega) _ h.l3,ho 4 (by omega) _ h.l4,fun j=>by rw [World.frozen?_setCell];exact h.fr j,?_,h.low,hq,own_of h.own fun k hk=>Below.heap_setCell _ _ _ _ (by have:=(h.apart k hk).1;simp only;omega)⟩
 refine ⟨h.toks.1,h.toks.2.1,fun hn=>?_⟩
 obtain ⟨g,e,hr⟩:=h.toks.2.2 hn
 have hg:=h.low g e
 exact ⟨g,e,fun i hi j u hu=>by rw [World.cell?_setCell_other _ _ _ _ (by simp only [ne_eq,Addr.mk.injEq];omega)];exact hr i hi j u hu⟩
theorem Pr.setE (h:Pr w R A c l i z ns at_ er) (p:Nat) (e:Int):Pr ((w.setCell ⟨R,3,none⟩ (.int .i64 (p:Int))).setCell ⟨R,4,none⟩ (.int .i64 e)) R A c l i z ns p e:=by
 have ho:∀j,j≠3→j≠4→∀v,w.cell? ⟨R,j,none⟩=some v→((w.setCell ⟨R,3,none⟩ (.int .i64 (p:Int))).setCell ⟨R,4,none⟩ (.int .i64 e)).cell? ⟨R,j,none⟩=some v:=fun j h3 h4 v hv=>by
  rw [World.cell?_setCell_other _ _ _ _ (by simp only [ne_eq,Addr.mk.injEq,true_and,and_true];omega),World.cell?_setCell_other _ _ _ _ (by simp only [ne_eq,Addr.mk.injEq,true_and,and_true];omega)];exact hv
 have h4':(w.setCell ⟨R,3,none⟩ (.int .i64 (p:Int))).cell? ⟨R,4,none⟩=some (.int .i64 er):=by rw [World.cell?_setCell_other _ _ _ _ (by simp)];exact h.l4
 refine ⟨by simpa [World.setCell] using h.lt,ho 0 (by omega) (by omega) _ h.l0,ho 1 (by omega) (by omega) _ h.l1,ho 2 (by omega) (by omega) _ h.l2,?_,World.cell?_setCell_same _ _ _ (by rw [h4']),fun j=>by rw [World.frozen?_setCell,World.frozen?_setCell];exact h.fr j,?_,h.low,h.ilt,own_of h.own fun k hk=>?_⟩
 ·rw [World.cell?_setCell_other _ _ _ _ (by simp)];exact World.cell?_setCell_same _ _ _ (by rw [h.l3])
 ·refine ⟨h.toks.1,h.toks.2.1,fun hn=>?_⟩
  obtain ⟨g,e,hr⟩:=h.toks.2.2 hn
  have hg:=h.low g e
  exact ⟨g,e,fun i hi j u hu=>by rw [World.cell?_setCell_other _ _ _ _ (by simp only [ne_eq,Addr.mk.injEq];omega),World.cell?_setCell_other _ _ _ _ (by simp only [ne_eq,Addr.mk.injEq];omega)];exact hr i hi j u hu⟩
 ·have:=(h.apart k hk).1
  rw [Below.heap_setCell _ _ _ _ (by simp only;omega),Below.heap_setCell _ _ _ _ (by simp only;omega)]
theorem Pr.tok (h:Pr w R A c l i z ns at_ er):∃g,A=some ⟨g,0,none⟩∧w.cell? ⟨g,i*3,none⟩=some (.int .i64 (l.getD i default).1)∧w.cell? ⟨g,i*3+1,none⟩=some (.int .i64 ((l.getD i default).2.1:Int))∧w.cell? ⟨g,i*3+2,none⟩=some (.string (S (l.getD i default).2.2)):=h.toks.get h.ilt
end
end Go.Proofs.YtaojnljppcnhjaaGreatDoor
namespace Go.Proofs.YtaojnljppcnhjaaGreatDoor
open Go
abbrev Tok:=Int×List UInt8×Bool
def scanG:Nat→List UInt8→List UInt8→Option (List Tok)
 | 0,_,_=>some []
 | n+1,prev,l =>
  let g:=gap false l
  let t:=tokL g
  if t.2.2≠0 then none
  else if t.1=0 then some [(0,[],false)]
  else (scanG n t.2.1 (g.drop t.2.1.length)).map fun r=>(t.1,t.2.1,(t.1==3&&(prev==[45]&&g.length==l.length))) :: r
theorem scanG_err {n:Nat} {prev l t:List UInt8} {k e:Int} (h:tokL (gap false l)=(k,t,e)) (he:e≠0):scanG (n+1) prev l=none:=by
 unfold scanG;simp [h,he]
theorem scanG_end {n:Nat} {prev l t:List UInt8} (h:tokL (gap false l)=(0,t,0)):scanG (n+1) prev l=some [(0,[],false)]:=by
 unfold scanG;simp [h]
theorem scanG_next {n:Nat} {prev l t:List UInt8} {k:Int} (h:tokL (gap false l)=(k,t,0)) (hk:k≠0) :
  scanG (n+1) prev l=(scanG n t ((gap false l).drop t.length)).map fun r=>(k,t,(k==3&&(prev==[45]&&(gap false l).length==l.length))) :: r:=by
 conv=>lhs;unfold scanG
 simp [h,hk]
theorem scanG_fuel:∀(n m:Nat) (prev l:List UInt8),l.length < n→l.length < m→scanG n prev l=scanG m prev l
 | 0,_,_,_,h,_=>by omega
 | _+1,0,_,_,_,h=>by omega
 | n+1,m+1,prev,l,hn,hm=>by
  rcases ht:tokL (gap false l) with ⟨k,t,e⟩
  have hg:=(gap_suffix false l).length_le
  by_cases he:e=0
  ·subst he
   by_cases hk:k=0
   ·subst hk;rw [scanG_end ht,scanG_end ht]
   ·have h1:=(tok_head ht).2.1 hk
    have h2:=(tok_head ht).1.length_le
    rw [scanG_next ht hk,scanG_next ht hk,scanG_fuel n m t _ (by rw [List.length_drop];omega) (by rw [List.length_drop];omega)]
  ·rw [scanG_err ht he,scanG_err ht he]
theorem gap_f (c:UInt8) (r:List UInt8):gap false (c :: r)=if spcB c=true then gap false r else if c=35 then gap true r else c :: r:=rfl
theorem gap_t (c:UInt8) (r:List UInt8):gap true (c :: r)=if c=10 then gap false r else gap true r:=rfl
theorem gap_line:∀(b:Bool) (l t:List UInt8),gap b l=[]→gap b (l++10 :: t)=gap false t
 | false,[],t,_=>by simp [gap,spcB]
 | true,[],t,_=>by simp [gap]
 | false,c :: l,t,h=>by
  rw [List.cons_append]
  rw [gap_f] at h ⊢
  split
  ·rename_i h1;rw [if_pos h1] at h;exact gap_line false l t h
  ·rename_i h1
   rw [if_neg h1] at h
   split
   ·rename_i h2;rw [if_pos h2] at h;exact gap_line true l t h
   ·rename_i h2;rw [if_neg h2] at h;cases h
 | true,c :: l,t,h=>by
  rw [List.cons_append]
  rw [gap_t] at h ⊢
  split
  ·rename_i h1;rw [if_pos h1] at h;exact gap_line false l t h
  ·rename_i h1;rw [if_neg h1] at h;exact gap_line true l t h
theorem gap_behind:∀(b:Bool) (l t:List UInt8),gap b l≠[]→gap b (l++t)=gap b l++t
 | false,[],t,h=>absurd rfl h
 | true,[],t,h=>absurd rfl h
 | false,c :: l,t,h=>by
  rw [List.cons_append]
  by_cases h1:spcB c=true
  ·rw [gap_f,if_pos h1] at h
   rw [gap_f c (l++t),gap_f c l,if_pos h1,if_pos h1]
   exact gap_behind false l t h
  ·by_cases h2:c=35
   ·rw [gap_f,if_neg h1,if_pos h2] at h
    rw [gap_f c (l++t),gap_f c l,if_neg h1,if_neg h1,if_pos h2,if_pos h2]
    exact gap_behind true l t h
   ·rw [gap_f c (l++t),gap_f c l,if_neg h1,if_neg h1,if_neg h2,if_neg h2];rfl
 | true,c :: l,t,h=>by
  rw [List.cons_append]
  by_cases h1:c=10
  ·rw [gap_t,if_pos h1] at h
   rw [gap_t c (l++t),gap_t c l,if_pos h1,if_pos h1]
   exact gap_behind false l t h
  ·rw [gap_t,if_neg h1] at h
   rw [gap_t c (l++t),gap_t c l,if_neg h1,if_neg h1]
   exact gap_behind true l t h
theorem while_sep {k:UInt8→Bool} {l r:List UInt8} {c:UInt8} (hc:k c=false):(l++c :: r).takeWhile k=l.takeWhile k:=by
 induction l with
 | nil=>simp [hc]
 | cons x l ih =>
  by_cases hx:k x=true
  ·simp [hx,ih]
  ·simp [hx]
theorem symP_line {l r:List UInt8} {c:UInt8} (hc:spcB c=true):symP (l++c :: r)=symP l:=by
 obtain ⟨h1,h2,h3⟩:=symP_facts l
 obtain ⟨g1,g2,g3⟩:=symP_facts (l++c :: r)
 have hno:∀y∈syms,c∉y:=fun y hy hm=>by
  have:=(sym_bytes y hy c hm).1
  rw [hc] at this;cases this
 have hp:symP (l++c :: r) <+: l:=by
  rcases g1 with g1|g1
  ·rw [g1];exact List.nil_prefix
  ·exact pre_of g2 (hno _ g1)
 rcases g1 with g1|g1
 ·rcases h1 with h1|h1
  ·rw [g1,h1]
  ·have:=g3 _ h1 (h2.trans (List.prefix_append _ _))
   rw [g1] at this
   have h5:=(show ∀y∈syms,0 < y.length by decide) _ h1
   simp only [List.length_nil] at this
   omega
 ·exact (symP_unique g1 hp fun y hy hyp=>g3 y hy (hyp.trans (List.prefix_append _ _))).symm
theorem tok_line {l r:List UInt8} {c:UInt8} (hl:l≠[]) (hc:spcB c=true):tokL (l++c :: r)=tokL l:=by
 obtain ⟨o1,o2⟩:=spc_out hc
 cases l with
 | nil=>exact absurd rfl hl
 | cons a l =>
  have w1:=while_sep (l:=a :: l) (r:=r) o1
  have w2:=while_sep (l:=a :: l) (r:=r) o2
  have w3:=symP_line (l:=a :: l) (r:=r) hc
  rw [List.cons_append] at w1 w2 w3 ⊢
  unfold tokL
  simp only [w1,w2,w3]
theorem scan_lines:∀(n:Nat) (prev l t:List UInt8) (A B:List Tok),l.length < n→scanG n prev l=some (A++[(0,[],false)])→scanG (t.length+1) [] t=some B→∀m,(l++10 :: t).length < m→scanG m prev (l++10 :: t)=some (A++B)
 | 0,_,_,_,_,_,h,_,_,_,_=>by omega
 | _+1,_,_,_,_,_,_,_,_,0,h=>by omega
 | n+1,prev,l,t,A,B,hn,hA,hB,m+1,hm=>by
  have hlen:(l++10 :: t).length=l.length+t.length+1:=by simp;omega
  by_cases hg:gap false l=[]
  ·have h0:tokL (gap false l)=(0,[],0):=by rw [hg];rfl
   rw [scanG_end h0] at hA
   have hA0:A=[]:=by
    cases A with
    | nil=>rfl
    | cons x A=>simp at hA
   subst hA0
   have hgt:=gap_line false l t hg
   have hgl:=(gap_suffix false t).length_le
   rcases ht:tokL (gap false t) with ⟨k,x,e⟩
   by_cases he:e=0
   ·subst he
    by_cases hk:k=0
    ·subst hk
     rw [scanG_end ht] at hB
     injection hB with hB
     subst hB
     rw [scanG_end (by rw [hgt];exact ht)];rfl
    ·have h1:=(tok_head ht).2.1 hk
     have h2:=(tok_head ht).1.length_le
     rw [scanG_next ht hk] at hB
     rw [scanG_next (by rw [hgt];exact ht) hk,hgt,scanG_fuel m t.length x _ (by rw [List.length_drop];omega) (by rw [List.length_drop];omega)]
     rw [show ((gap false t).length==(l++10 :: t).length)=false by simp only [beq_eq_false_iff_ne,ne_eq];omega]
     rw [show (([]:List UInt8)==[45])=false from rfl,Bool.false_and,Bool.and_false] at hB
     rw [Bool.and_false,Bool.and_false,hB];rfl
   ·rw [scanG_err ht he] at hB;cases hB
  ·have hgt:=gap_behind false l (10 :: t) hg
   have htl:=tok_line (l:=gap false l) (r:=t) hg (show spcB 10=true by decide)
   have hgl:=(gap_suffix false l).length_le
   rcases ht:tokL (gap false l) with ⟨k,x,e⟩
   rw [ht] at htl
   by_cases he:e=0
   ·subst he
    by_cases hk:k=0
    ·exact absurd ((tok_head ht).2.2 hk).1 hg
    ·have h1:=(tok_head ht).2.1 hk
     have h2:=(tok_head ht).1.length_le
     rw [scanG_next ht hk] at hA
     obtain ⟨r,hr,hrA⟩:=Option.map_eq_some_iff.1 hA
     cases A with
     | nil=>simp only [List.nil_append,List.cons.injEq,Prod.mk.injEq] at hrA;exact absurd hrA.1.1 hk
     | cons y A =>
      simp only [List.cons_append,List.cons.injEq] at hrA
      obtain ⟨rfl,rfl⟩:=hrA
      have ih:=scan_lines n x ((gap false l).drop x.length) t A B (by rw [List.length_drop];omega) hr hB m (by simp only [List.length_append,List.length_cons,List.length_drop] at hm ⊢;omega)
      rw [scanG_next (by rw [hgt];exact htl) hk,hgt,List.drop_append_of_le_length h2,ih]
      rw [show ((gap false l++10 :: t).length==(l++10 :: t).length)=((gap false l).length==l.length) by
       simp only [List.length_append,List.length_cons]
       rw [Bool.eq_iff_iff];simp]
      rfl
   ·rw [scanG_err ht he] at hA;cases hA
theorem sym_minus (y:List UInt8):symP (45 :: y)=[45]:=by
 refine symP_unique (by decide) (by simp) fun x hx hp=>?_
 have:∀x∈syms,x.head?=some 45→x.length≤1:=by decide
 refine this x hx ?_
 cases x with
 | nil=>exact absurd hx (by decide)
 | cons a x =>
  obtain ⟨z,hz⟩:=hp
  simp only [List.cons_append,List.cons.injEq] at hz
  rw [hz.1];rfl
theorem tok_minus (y:List UInt8):tokL (45 :: y)=(4,[45],0):=by
 unfold tokL
 simp only
 rw [sym_minus,if_neg (by decide),if_neg (by decide),if_neg (by simp)]
def SepIn (sep:List UInt8):Prop:=∀s,gap false (sep++s)=gap false s
theorem SepOk.sepIn {sep:List UInt8} (h:SepOk sep):SepIn sep:=by
 obtain ⟨c,q,rfl,hc,hq⟩:=h
 intro s
 rw [List.cons_append,gap_spc hc,hq]
def spreadT (l:List (List UInt8×Tok)):List UInt8:=l.flatMap fun x=>x.1++x.2.2.1
def Spread:List UInt8→List (List UInt8×Tok)→Prop
 | _,[]=>False
 | _,[(sep,k,t,f)]=>SepOk sep∧k=0∧t=[]∧f=false
 | prev,(sep,k,t,f) :: r=>k≠0∧(∃l,tokL l=(k,t,0))∧((f=false∧SepOk sep)∨(f=true∧sep=[]∧k=3∧prev=[45]))∧Spread t r
theorem tok_then {t:List UInt8} {k:Int} {r:List (List UInt8×Tok)} (hk:k≠0) (ht:∃l,tokL l=(k,t,0)) (hr:Spread t r):tokL (t++spreadT r)=(k,t,0)∧∃x s,t=x :: s∧spcB x=false∧x≠35:=by
 obtain ⟨l,hl⟩:=ht
 have hsep:∀(sep:List UInt8) (z:List UInt8),SepOk sep→tokL (t++(sep++z))=(k,t,0):=fun sep z h=>by
  obtain ⟨c,q,rfl,hc,_⟩:=h
  exact (tok_again hl hk hc).1
 have hx:=(tok_again (r:=[]) (c:=32) hl hk (by decide)).2
 refine ⟨?_,hx⟩
 match r,hr with
 | [(sep,k2,t2,f2)],h =>
  have:=hsep sep t2 h.1
  simpa [spreadT] using this
 | (sep,k2,t2,f2) :: y :: r,h =>
  obtain ⟨_,_,h3,_⟩:=h
  rcases h3 with ⟨_,h3⟩|⟨_,rfl,_,h4⟩
  ·have:=hsep sep (t2++spreadT (y :: r)) h3
   simpa [spreadT] using this
  ·subst h4
   have h5:tokL ([45]++spreadT (([],k2,t2,f2) :: y :: r))=(4,[45],0):=tok_minus _
   have h6:k=4:=by
    have:=(tok_again (r:=[]) (c:=32) hl hk (by decide)).1
    have h7:tokL ([45]++32 :: [])=(4,[45],0):=tok_minus _
    rw [h7] at this
    simp only [Prod.mk.injEq] at this
    exact this.1.symm
   rw [h5,h6]
theorem scan_spread:∀(L:List (List UInt8×Tok)) (prev:List UInt8),Spread prev L→∀n,(spreadT L).length < n→scanG n prev (spreadT L)=some (L.map Prod.snd)
 | [],_,h,_,_=>h.elim
 | _ :: _,_,_,0,hn=>by omega
 | [(sep,k,t,f)],prev,h,n+1,hn=>by
  obtain ⟨h1,rfl,rfl,rfl⟩:=h
  have e:spreadT [(sep,((0:Int),([]:List UInt8),false))]=sep:=by simp [spreadT]
  have h2:=h1.sepIn []
  rw [List.append_nil] at h2
  have h0:tokL (gap false sep)=(0,[],0):=by rw [h2];rfl
  rw [e,scanG_end h0];rfl
 | (sep,k,t,f) :: y :: r,prev,h,n+1,hn=>by
  obtain ⟨hk,ht,hs,hr⟩:=h
  obtain ⟨h1,x,s,hx,b1,b2⟩:=tok_then hk ht hr
  have e:spreadT ((sep,k,t,f) :: y :: r)=sep++(t++spreadT (y :: r)):=by simp [spreadT]
  have hin:SepIn sep:=by
   rcases hs with ⟨_,h⟩|⟨_,rfl,_⟩
   ·exact h.sepIn
   ·exact fun _=>rfl
  have hg:gap false (sep++(t++spreadT (y :: r)))=t++spreadT (y :: r):=by
   rw [hin,hx,List.cons_append,gap_stop b1 b2]
  rw [e] at hn ⊢
  simp only [List.length_append] at hn
  have htl:0 < t.length:=by rw [hx];simp
  rw [scanG_next (by rw [hg];exact h1) hk,hg,List.drop_left,scan_spread (y :: r) t hr n (by omega)]
  have hf:(k==3&&(prev==[45]&&(t++spreadT (y :: r)).length==(sep++(t++spreadT (y :: r))).length))=f:=by
   rcases hs with ⟨rfl,c,q,rfl,_⟩|⟨rfl,rfl,rfl,rfl⟩
   ·rw [show ((t++spreadT (y :: r)).length==(c :: q++(t++spreadT (y :: r))).length)=false by simp only [beq_eq_false_iff_ne,ne_eq,List.length_append,List.length_cons];omega,Bool.and_false,Bool.and_false]
   ·simp
  rw [hf];rfl
theorem scan_spread_first {k:Int} {t:List UInt8} {r:List (List UInt8×Tok)} (hk:k≠0) (ht:∃l,tokL l=(k,t,0)) (hr:Spread t r) {n:Nat} (hn:(t++spreadT r).length < n):scanG n [] (t++spreadT r)=some ((k,t,false) :: r.map Prod.snd):=by
 obtain ⟨n,rfl⟩:∃m,n=m+1:=⟨n - 1,by omega⟩
 obtain ⟨h1,x,s,hx,b1,b2⟩:=tok_then hk ht hr
 have hg:gap false (t++spreadT r)=t++spreadT r:=by rw [hx,List.cons_append,gap_stop b1 b2]
 have htl:0 < t.length:=by rw [hx];simp
 simp only [List.length_append] at hn
 rw [scanG_next (by rw [hg];exact h1) hk,hg,List.drop_left,scan_spread r t hr n (by omega)]
 simp
def TokOk:Tok→Prop:=fun t=>t.1=0∨∃l,tokL l=(t.1,t.2.1,0)
theorem scanG_ended:∀(n:Nat) (prev l:List UInt8) (L:List Tok),l.length < n→scanG n prev l=some L→∃A,L=A++[(0,[],false)]∧∀t∈A,t.1≠0∧(∃l,tokL l=(t.1,t.2.1,0))∧0 < t.2.1.length
 | 0,_,_,_,h,_=>by omega
 | n+1,prev,l,L,hn,h=>by
  have hg:=(gap_suffix false l).length_le
  rcases ht:tokL (gap false l) with ⟨k,t,e⟩
  by_cases he:e=0
  ·subst he
   by_cases hk:k=0
   ·subst hk
    rw [scanG_end ht] at h
    injection h with h
    exact ⟨[],h.symm,by simp⟩
   ·have h1:=(tok_head ht).2.1 hk
    have h2:=(tok_head ht).1.length_le
    rw [scanG_next ht hk] at h
    obtain ⟨r,hr,rfl⟩:=Option.map_eq_some_iff.1 h
    obtain ⟨A,rfl,hA⟩:=scanG_ended n t _ r (by rw [List.length_drop];omega) hr
    refine ⟨(k,t,_) :: A,rfl,fun x hx=>?_⟩
    rcases List.mem_cons.1 hx with rfl|hx
    ·exact ⟨hk,⟨_,ht⟩,h1⟩
    ·exact hA x hx
  ·rw [scanG_err ht he] at h;cases h
end Go.Proofs.YtaojnljppcnhjaaGreatDoor
namespace Go.Proofs.YtaojnljppcnhjaaGreatDoor
open Go
inductive PS (α:Type) where
 | ok (v:α) (ts:List Tok) (ns:List (List UInt8))
 | err (left:Nat) (e:Int)
abbrev Rd1 (α:Type):=List Tok→List (List UInt8)→PS α
def isS (s:List UInt8):List Tok→Bool
 | []=>false
 | (k,t,_) :: _=>k==4&&t==s
def isW (s:List UInt8):List Tok→Bool
 | []=>false
 | (k,t,_) :: _=>k==1&&t==s
def wantS (s:List UInt8) {α:Type} (v:α):Rd1 α:=fun ts ns=>if isS s ts then .ok v ts.tail ns else .err ts.length 16
def intS (n:Int):Tm:=.mk 0 n ⟨#[]⟩ none 0 []
def varS (n:Nat):Tm:=.mk 1 (n:Int) ⟨#[]⟩ none 0 []
def funS (s:List UInt8) (l:List Tm):Tm:=.mk 2 0 ⟨s.toArray⟩ none 0 l
def nameS (t:List UInt8) (ns:List (List UInt8)):Nat×List (List UInt8) :=
 if t≠[95]∧t∈ns then (ns.idxOf t,ns) else (ns.length,ns++[t])
def argsS (ex:Rd1 Tm) (acc:List Tm) (ts:List Tok) (ns:List (List UInt8)):PS (List Tm) :=
 match ex ts.tail ns with
 | .err l e=>.err l e
 | .ok x r ns2=>if isS [44] r then (if _h:r.length < ts.length then argsS ex (acc++[x]) r ns2 else .err 0 0) else wantS [41] (acc++[x]) r ns2
termination_by ts.length
def nmS:Rd1 (List UInt8):=fun ts ns =>
 match ts with
 | []=>.err 0 0
 | (k,t,_) :: r=>if k≠1 then .err ts.length 16 else if resB t then .err ts.length 7 else .ok t r ns
def atomS (ex:Rd1 Tm):Rd1 (List UInt8×List Tm):=fun ts ns =>
 match nmS ts ns with
 | .err l e=>.err l e
 | .ok t r ns1=>if isS [40] r then (match argsS ex [] r ns1 with
   | .ok l r2 ns2=>.ok (t,l) r2 ns2
   | .err l e=>.err l e) else .ok (t,[]) r ns1
def opndS (ex:Rd1 Tm):Rd1 Tm:=fun ts ns =>
 match ts with
 | []=>.err 0 0
 | (k,t,_) :: r =>
  if k=3 then .ok (intS (valD t)) r ns
  else if k=2 then .ok (varS (nameS t ns).1) r (nameS t ns).2
  else if k=1 then (match atomS ex ts ns with
   | .ok x r2 ns2=>.ok (funS x.1 x.2) r2 ns2
   | .err l e=>.err l e)
  else if isS [45] ts then (match r with
   | []=>.err 0 0
   | (k2,t2,g2) :: r2=>if k2=3∧g2=true then .ok (intS (-valD t2)) r2 ns else .err r.length 16)
  else if isS [40] ts then (match ex r ns with
   | .ok x r2 ns2=>wantS [41] x r2 ns2
   | .err l e=>.err l e)
  else .err ts.length 16
def chainS (ops:List (List UInt8)) (o:Rd1 Tm) (x:Tm) (ts:List Tok) (ns:List (List UInt8)):PS Tm :=
 match ts with
 | []=>.ok x [] ns
 | (k,t,g) :: r=>if k=4∧t∈ops then (match o r ns with
   | .ok y r2 ns2=>if _h:r2.length < ((k,t,g) :: r).length then chainS ops o (funS t [x,y]) r2 ns2 else .err 0 0
   | .err l e=>.err l e) else .ok x ((k,t,g) :: r) ns
termination_by ts.length
def levelS (ops:List (List UInt8)) (o:Rd1 Tm):Rd1 Tm:=fun ts ns =>
 match o ts ns with
 | .ok x r ns2=>chainS ops o x r ns2
 | .err l e=>.err l e
def mulS:List (List UInt8):=[[42],[47],[37]]
def addS:List (List UInt8):=[[43],[45]]
def exprS:Nat→Rd1 Tm
 | 0=>fun _ _=>.err 0 0
 | n+1=>levelS addS (levelS mulS (opndS (exprS n)))
abbrev Gs:=Int×List UInt8×List Tm
def cmpS:List Tok→Int×Bool
 | []=>(0,false)
 | (k,t,_) :: _ =>
  if k=1∧t=[105,115] then (4,false)
  else if k≠4 then (0,false)
  else if t=[61] then (3,false)
  else if t=[61,61] then (5,false)
  else if t=[92,61] then (6,false)
  else if t=[60] then (7,false)
  else if t=[61,60] then (8,false)
  else if t=[62] then (7,true)
  else if t=[62,61] then (8,true)
  else if t=[61,58,61] then (9,false)
  else if t=[61,92,61] then (10,false)
  else (0,false)
def goalS (ex:Rd1 Tm):Rd1 Gs:=fun ts ns =>
 match ts with
 | []=>.err 0 0
 | (k,t,_) :: r =>
  if k=1∧resB t=true then
   if t=[116,114,117,101] then .ok (1,[],[]) r ns
   else if t=[102,97,105,108] then .ok (2,[],[]) r ns
   else if t=[105,110,116]∨t=[103,114,111,117,110,100] then
    (if isS [40] r then (match ex r.tail ns with
     | .ok x r2 ns2=>wantS [41] (if t=[105,110,116] then 11 else 12,[],[x]) r2 ns2
     | .err l e=>.err l e) else .err r.length 16)
   else .err ts.length 7
  else (match ex ts ns with
   | .err l e=>.err l e
   | .ok x r2 ns2 =>
    if (cmpS r2).1=0 then (if k=1∧x.name.data.toList=t then .ok (0,t,x.args) r2 ns2 else .err r2.length 16)
    else (match ex r2.tail ns2 with
     | .ok y r3 ns3=>.ok ((cmpS r2).1,[],if (cmpS r2).2 then [y,x] else [x,y]) r3 ns3
     | .err l e=>.err l e))
def rightT (l:List Tm):Bool:=formL l&&(decide (sizeL l≤200)&&decide (depthL l≤20))
def rightA (s:List UInt8) (l:List Tm):Bool:=rightB s&&(decide (l.length≤6)&&rightT l)
def arityS (op:Int):Int:=if op=1∨op=2 then 0 else if op=11∨op=12 then 1 else if 2 < op∧op < 11 then 2 else -1
def rightG (g:Gs):Bool:=if g.1=0 then rightA g.2.1 g.2.2 else decide (g.2.1=[])&&(decide ((g.2.2.length:Int)=arityS g.1)&&rightT g.2.2)
def goalsS (ex:Rd1 Tm) (most:Nat) (acc:List Gs) (ts:List Tok) (ns:List (List UInt8)):PS (List Gs) :=
 if most≤acc.length then .err ts.length 6
 else match goalS ex ts ns with
  | .err l e=>.err l e
  | .ok g r ns2 =>
   if rightG g=false then .err ts.length 6
   else if isS [44] r then (if _h:r.tail.length < ts.length then goalsS ex most (acc++[g]) r.tail ns2 else .err 0 0)
   else .ok (acc++[g]) r ns2
termination_by ts.length
decreasing_by exact _h
abbrev As:=List UInt8×List Tm
def headsS (ex:Rd1 Tm) (before:Nat) (acc:List As) (ts:List Tok) (ns:List (List UInt8)):PS (List As) :=
 if 4≤before+acc.length then .err ts.length 6
 else match atomS ex ts ns with
  | .err l e=>.err l e
  | .ok a r ns2 =>
   if rightA a.1 a.2=false then .err ts.length 6
   else if isS [44] r then (if _h:r.tail.length < ts.length then headsS ex before (acc++[a]) r.tail ns2 else .err 0 0)
   else .ok (acc++[a]) r ns2
termination_by ts.length
decreasing_by exact _h
structure Rs where
 name:List UInt8
 keep:List As
 remove:List As
 guard:List Gs
 body:List Gs
 vars:Nat
def bothS (ex:Rd1 Tm):Rd1 (List As×List As):=fun ts ns =>
 match headsS ex 0 [] ts ns with
 | .err l e=>.err l e
 | .ok h r ns2 =>
  if isS [60,61,62] r then .ok ([],h) r.tail ns2
  else if isS [61,61,62] r then .ok (h,[]) r.tail ns2
  else if isS [92] r then (match headsS ex h.length [] r.tail ns2 with
   | .err l e=>.err l e
   | .ok h2 r2 ns3=>if isS [60,61,62] r2 then .ok (h,h2) r2.tail ns3 else .err r2.length 16)
  else .err r.length 16
def goals2S (ex:Rd1 Tm):Rd1 (List Gs×List Gs):=fun ts ns =>
 match goalsS ex 12 [] ts ns with
 | .err l e=>.err l e
 | .ok b r ns2 =>
  if isS [124] r then (match goalsS ex 12 [] r.tail ns2 with
   | .err l e=>.err l e
   | .ok b2 r2 ns3=>wantS [46] (b,b2) r2 ns3)
  else wantS [46] ([],b) r ns2
def labelS:Rd1 (List UInt8):=fun ts ns =>
 match ts with
 | []=>.ok [] ts ns
 | (k,_,_) :: r=>if k=1∧isS [64] r=true then (match nmS ts ns with
   | .ok t r2 ns2=>.ok t r2.tail ns2
   | .err l e=>.err l e) else .ok [] ts ns
def bodyS (b:List Gs):List Gs:=match b with
 | [g]=>if g.1=1 then [] else b
 | _=>b
def partsS (ex:Rd1 Tm):Rd1 Rs:=fun ts ns =>
 match labelS ts ns with
 | .err l e=>.err l e
 | .ok t r ns1=>match bothS ex r ns1 with
  | .err l e=>.err l e
  | .ok h r2 ns2=>match goals2S ex r2 ns2 with
   | .err l e=>.err l e
   | .ok g r3 ns3=>.ok ⟨t,h.1,h.2,g.1,bodyS g.2,0⟩ r3 ns3
def Rs.terms (r:Rs):List Tm:=r.keep.flatMap (·.2)++(r.remove.flatMap (·.2)++(r.guard.flatMap (·.2.2)++r.body.flatMap (·.2.2)))
mutual
def Tm.num2 (f:Int→Int):Tm→Tm
 | .mk k n s _ _ a=>.mk k (if k=1 then f n else n) s none 0 (numL2 f a)
def numL2 (f:Int→Int):List Tm→List Tm
 | []=>[]
 | t :: r=>t.num2 f :: numL2 f r
end
def placeS (vs:List Int) (n:Int):Int:=if n∈vs then (vs.idxOf n:Int) else -1
def As.num2 (f:Int→Int) (a:As):As:=(a.1,numL2 f a.2)
def Gs.num2 (f:Int→Int) (g:Gs):Gs:=(g.1,g.2.1,numL2 f g.2.2)
def putS (l:List Int) (x:Int):List Int:=if x∈l then l else l++[x]
def orderS (l:List Tm):List Int:=(occL l).foldl putS []
def numberS (r:Rs):Rs :=
 let f:=placeS (orderS r.terms)
 ⟨r.name,r.keep.map (As.num2 f),r.remove.map (As.num2 f),r.guard.map (Gs.num2 f),r.body.map (Gs.num2 f),(orderS r.terms).length⟩
def ruleS (ex:Rd1 Tm):List Tok→PS Rs:=fun ts =>
 match partsS ex ts [] with
 | .err l e=>.err l e
 | .ok r ts2 ns=>.ok (numberS r) ts2 ns
def declsS (acc:List (List UInt8×Int)) (ts:List Tok):PS (List (List UInt8×Int)) :=
 if 30≤acc.length then .err ts.tail.length 6
 else match nmS ts.tail [] with
  | .err l e=>.err l e
  | .ok t r _=>match wantS [47] t r [] with
   | .err l e=>.err l e
   | .ok _ r2 _=>match r2 with
    | []=>.err 0 0
    | (k,d,_) :: r3=>if k≠3 then .err r2.length 16 else if 6 < valD d then .err r2.length 6
      else if isS [44] r3 then (if _h:r3.length < ts.length then declsS (acc++[(t,valD d)]) r3 else .err 0 0) else wantS [46] (acc++[(t,valD d)]) r3 []
termination_by ts.length
def allDecls (acc:List (List UInt8×Int)) (ts:List Tok):PS (List (List UInt8×Int)) :=
 if isW [99,111,110,115,116,114,97,105,110,116] ts then
  match declsS acc ts with
  | .ok l r _=>if _h:r.length < ts.length then allDecls l r else .err 0 0
  | .err l e=>.err l e
 else .ok acc ts []
termination_by ts.length
def rulesS (ex:Rd1 Tm) (acc:List Rs) (ts:List Tok):PS (List Rs) :=
 match ts with
 | []=>.err 0 0
 | (k,t,g) :: r =>
  if k=0 then .ok acc ((k,t,g) :: r) []
  else if 40≤acc.length then .err ((k,t,g) :: r).length 6
  else match ruleS ex ((k,t,g) :: r) with
   | .ok x r2 _=>if _h:r2.length < ((k,t,g) :: r).length then rulesS ex (acc++[x]) r2 else .err 0 0
   | .err l e=>.err l e
termination_by ts.length
def programS (ex:Rd1 Tm) (ts:List Tok):PS (List (List UInt8×Int)×List Rs) :=
 match allDecls [] ts with
 | .err l e=>.err l e
 | .ok d r _=>match rulesS ex [] r with
  | .ok l r2 _=>.ok (d,l) r2 []
  | .err l e=>.err l e
def onlyS {α:Type}:PS α→PS α
 | .ok v ts ns=>if (ts.headD (0,[],false)).1=0 then .ok v ts ns else .err ts.length 16
 | .err l e=>.err l e
def queryS (ex:Rd1 Tm) (ts:List Tok):PS (List Gs×List (List UInt8)) :=
 match onlyS (goalsS ex 40 [] ts []) with
 | .ok l r ns=>.ok (l.map (Gs.num2 (placeS (orderS (l.flatMap (·.2.2))))),(orderS (l.flatMap (·.2.2))).map fun v=>ns.getD v.toNat []) r ns
 | .err l e=>.err l e
end Go.Proofs.YtaojnljppcnhjaaGreatDoor
