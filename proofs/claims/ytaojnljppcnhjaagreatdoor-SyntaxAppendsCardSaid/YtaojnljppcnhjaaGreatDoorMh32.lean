/-
  LwText.
  LwRead.
-/
import Derived.Test.YtaojnljppcnhjaaGreatDoorMh15
import Derived.Test.YtaojnljppcnhjaaGreatDoorMh28
import Derived.Test.YtaojnljppcnhjaaGreatDoorMh3
import Derived.Test.YtaojnljppcnhjaaGreatDoorMh31
namespace Go.Proofs.YtaojnljppcnhjaaGreatDoor
open Go.RowKit
theorem absP_absT (l:List Tk):∀(a:Nat) (p:List UInt8),absP a p l=absT a p l:=by
 induction l with
 | nil=>intro _ _;rfl
 | cons x r ih=>intro a p;rw [absP,absT,ih]
theorem toksOf_left (s:ByteArray) (hs:s.size≤16384):toksOf s.data.toList=if (scanP s).2.2≠0 then none else some (leftT (scanP s).1 0):=by
 rw [toksOf_scan s hs,← left_all,absP_absT]
theorem whole_of {α:Type} (f:List Tok→PS α) {s:ByteArray} {T:List Tok} (hs:s.size≤16384) (h:toksOf s.data.toList=some T) :
  wholeS f s=match onlyS (f T) with
   | .ok v _ _=>.ok v
   | .err n e=>.error (offT (scanP s).1 n,e):=by
 rw [toksOf_left s hs] at h
 split at h
 ·cases h
 ·rename_i h0
  injection h with h
  unfold wholeS
  rw [if_neg h0,h]
  cases onlyS (f T)<;>rfl
theorem toks_of_ok {α:Type} {f:List Tok→PS α} {s:ByteArray} {x:α} (hs:s.size≤16384) (h:wholeS f s=.ok x):∃T r ns,toksOf s.data.toList=some T∧onlyS (f T)=.ok x r ns:=by
 unfold wholeS at h
 split at h
 ·cases h
 ·rename_i h0
  rw [toksOf_left s hs,if_neg h0]
  split at h
  ·rename_i v r ns hv
   injection h with h
   subst h
   exact ⟨_,r,ns,rfl,hv⟩
  ·cases h
theorem whole_two {α:Type} (f:List Tok→PS α) {s t:ByteArray} {T:List Tok} (hs:s.size≤16384) (ht:t.size≤16384) (h1:toksOf s.data.toList=some T) (h2:toksOf t.data.toList=some T) :
  (∃x,wholeS f s=.ok x∧wholeS f t=.ok x)∨(∃p q e,wholeS f s=.error (p,e)∧wholeS f t=.error (q,e)):=by
 rw [whole_of f hs h1,whole_of f ht h2]
 cases onlyS (f T) with
 | ok v r ns=>exact .inl ⟨v,rfl,rfl⟩
 | err n e=>exact .inr ⟨_,_,e,rfl,rfl⟩
theorem whole_app {F:Nat} {s t u:ByteArray} {x:List Dl×List Rs} {q:Rs} (hs:s.size≤8000) (ht:t.size≤8000) (hu:u.data.toList=s.data.toList++10 :: t.data.toList) (h1:wholeS (programS (exprS F)) s=.ok x) (h2:wholeS (ruleS (exprS F)) t=.ok q) (hn:x.2.length < 40) :
  wholeS (programS (exprS F)) u=.ok (x.1,x.2++[q]):=by
 obtain ⟨T,r,ns,hT,hp⟩:=toks_of_ok (by omega) h1
 obtain ⟨U,r2,n2,hU,hq⟩:=toks_of_ok (by omega) h2
 have hp2:programS (exprS F) T=.ok (x.1,x.2) r ns:=by
  unfold onlyS at hp
  split at hp
  ·rename_i v ts ns2 hv
   split at hp
   ·injection hp with a1 a2 a3
    subst a1 a2 a3
    exact hv
   ·cases hp
  ·cases hp
 obtain ⟨V,hV,hr⟩:=appended hT hU hp2 hq hn
 have hz:u.size≤16384:=by
  have e:=congrArg List.length hu
  have e1:u.data.toList.length=u.size:=Array.length_toList
  have e2:s.data.toList.length=s.size:=Array.length_toList
  have e3:t.data.toList.length=t.size:=Array.length_toList
  rw [List.length_append,List.length_cons,e1,e2,e3] at e
  omega
 rw [whole_of _ hz (by rw [hu];exact hV),hr]
 rfl
theorem toks_offs (s:ByteArray):∀(n p:Nat),p≤s.size→∀x∈(toksAt s n p).1,x.2.1≤s.size
 | 0,p,_,x,hx=>by cases hx
 | n+1,p,hp,x,hx=>by
  by_cases he:(tokAt s p).2.2=0
  ·obtain ⟨t1,t2,t3,t4,t5,t6,_⟩:=tokAt_facts hp he
   by_cases hk:(tokAt s p).1.1=0
   ·rw [toks_end he hk] at hx
    rw [List.mem_singleton.1 hx]
    omega
   ·rw [toks_next he hk] at hx
    split at hx
    ·exact toks_offs s n _ t4 x hx
    ·rcases List.mem_cons.1 hx with rfl|hx
     ·omega
     ·exact toks_offs s n _ t4 x hx
  ·rw [toks_err he] at hx
   cases hx
theorem toks_at (s:ByteArray):∀(n p:Nat),p≤s.size→(toksAt s n p).2.1≤s.size
 | 0,p,_=>Nat.zero_le _
 | n+1,p,hp=>by
  by_cases he:(tokAt s p).2.2=0
  ·obtain ⟨t1,t2,t3,t4,t5,t6,_⟩:=tokAt_facts hp he
   by_cases hk:(tokAt s p).1.1=0
   ·rw [toks_end he hk]
    exact Nat.zero_le _
   ·rw [toks_next he hk]
    split
    ·exact toks_at s n _ t4
    ·exact Nat.zero_le _
  ·rw [toks_err he]
   exact tokAt_in hp
theorem whole_off {α:Type} {f:List Tok→PS α} {s:ByteArray} {p:Nat} {e:Int} (hs:s.size≤16384) (h:wholeS f s=.error (p,e)):p≤s.size:=by
 have hsc:scanP s=toksAt s (s.size+1) 0:=by unfold scanP;rw [if_neg (by omega)]
 unfold wholeS at h
 split at h
 ·injection h with h
  injection h with h1 h2
  rw [←h1,hsc]
  exact toks_at s _ 0 (Nat.zero_le _)
 ·split at h
  ·cases h
  ·injection h with h
   injection h with h1 h2
   rw [←h1]
   unfold offT
   rw [List.getD_eq_getElem?_getD]
   generalize ((scanP s).1.length - _)=k
   cases hk:(scanP s).1[k]? with
   | none=>exact Nat.zero_le _
   | some x =>
    have hm:=List.mem_of_getElem? hk
    rw [hsc] at hm
    exact toks_offs s _ 0 (Nat.zero_le _) x hm
def sepS (seed:Nat):List UInt8:=if seed % 5=0 then [32] else if seed % 5=1 then [9,10] else if seed % 5=2 then [13,32] else if seed % 5=3 then [32,35,120,10] else [32,32]
def nextSeed (seed i:Nat):Nat:=((seed / 5*7) % 18446744073709551616+i) % 18446744073709551616
def seedAt (l:List Tk) (seed:Nat):Nat→Nat
 | 0=>seed
 | 1=>seed
 | i+2=>if markT l (i+1) then seedAt l seed (i+1) else nextSeed (seedAt l seed (i+1)) (i+1)
def sepAt (l:List Tk) (seed i:Nat):List UInt8:=if i=0∨markT l i=true then [] else sepS (seedAt l seed i)
def sprT (l:List Tk) (seed:Nat):Nat→List UInt8
 | 0=>[]
 | i+1=>sprT l seed i++(sepAt l seed i++(l.getD i default).2.2)
def sprR (l:List Tk) (seed:Nat):Nat→List (List UInt8×Tok)
 | 0=>[]
 | i+1=>sprR l seed i++[(sepAt l seed (i+1),(l.getD (i+1) default).1,(l.getD (i+1) default).2.2,markT l (i+1))]
theorem sprT_R (l:List Tk) (seed:Nat):∀i,sprT l seed (i+1)=(l.getD 0 default).2.2++spreadT (sprR l seed i)
 | 0=>by simp [sprT,sprR,spreadT,sepAt]
 | i+1=>by
  rw [sprT,sprT_R l seed i,sprR,spreadT,spreadT,List.flatMap_append,List.append_assoc]
  simp
theorem sprR_toks (l:List Tk) (seed:Nat):∀i,i < l.length→(sprR l seed i).map Prod.snd++leftT l (i+1)=leftT l 1
 | 0,_=>rfl
 | i+1,h=>by
  rw [←sprR_toks l seed i (by omega),sprR,List.map_append,List.append_assoc,left_cons (i:=i+1) h]
  rfl
theorem sepS_ok (seed:Nat):SepOk (sepS seed):=by
 unfold sepS
 split
 ·exact sep_one
 ·split
  ·exact ⟨9,[10],rfl,by decide,fun s=>by simp [gap,show spcB 10=true by decide]⟩
  ·split
   ·exact ⟨13,[32],rfl,by decide,fun s=>by simp [gap,show spcB 32=true by decide]⟩
   ·split
    ·exact ⟨32,[35,120,10],rfl,by decide,fun s=>by simp [gap,show spcB 35=false by decide]⟩
    ·exact ⟨32,[32],rfl,by decide,fun s=>by simp [gap,show spcB 32=true by decide]⟩
theorem sprR_last (l:List Tk) (seed i:Nat):((sprR l seed i).getLast?.map fun y=>y.2.2.1).getD (l.getD 0 default).2.2=(l.getD i default).2.2:=by
 cases i with
 | zero=>rfl
 | succ i=>simp [sprR]
theorem mark_facts {l:List Tk} {i:Nat} (h:markT l (i+1)=true):(l.getD (i+1) default).1=3∧(l.getD i default).2.2=[45]:=by
 simp only [markT,Bool.and_eq_true,beq_iff_eq] at h
 exact ⟨h.1,h.2.1⟩
theorem sprR_ok {l:List Tk} (hx:∀i,i < l.length→((l.getD i default).1≠0∧∃y,tokL y=((l.getD i default).1,(l.getD i default).2.2,0))∨((l.getD i default).1=0∧(l.getD i default).2.2=[])) (seed:Nat):∀i,i < l.length→SpreadP (l.getD 0 default).2.2 (sprR l seed i)
 | 0,_=>trivial
 | i+1,h=>by
  rw [sprR]
  refine spreadP_snoc _ _ _ (sprR_ok hx seed i (by omega)) ?_
  rw [sprR_last]
  refine ⟨hx (i+1) h,?_,trivial⟩
  cases hm:markT l (i+1) with
  | false=>exact .inl ⟨rfl,by rw [sepAt,if_neg (by simp [hm])];exact sepS_ok _⟩
  | true=>exact .inr ⟨rfl,by rw [sepAt,if_pos (by simp [hm])],(mark_facts hm).1,(mark_facts hm).2⟩
theorem left_mem {l:List Tk}:∀(n i:Nat),l.length - i=n→∀k,i≤k→k < l.length→((l.getD k default).1,(l.getD k default).2.2,markT l k)∈leftT l i
 | 0,i,h,k,h1,h2=>by omega
 | n+1,i,h,k,h1,h2=>by
  rw [left_cons (by omega)]
  by_cases e:k=i
  ·subst e;exact List.mem_cons_self
  ·exact List.mem_cons_of_mem _ (left_mem n (i+1) (by omega) k (by omega) h2)
theorem spread_scan {s:ByteArray} (hs:s.size≤16384) (h0:(scanP s).2.2=0) (seed:Nat):0 < (scanP s).1.length∧toksOf (sprT (scanP s).1 seed (scanP s).1.length)=toksOf s.data.toList:=by
 have hT:toksOf s.data.toList=some (leftT (scanP s).1 0):=by rw [toksOf_left s hs,if_neg (by omega)]
 obtain ⟨A,hA,hn,hy⟩:=toksOf_ended hT
 generalize (scanP s).1=l at *
 have hlen:(leftT l 0).length=l.length:=by rw [left_length];omega
 have h1:0 < l.length:=by
  rw [←hlen,hA]
  simp [EndT]
 have hx:∀i,i < l.length→((l.getD i default).1≠0∧∃y,tokL y=((l.getD i default).1,(l.getD i default).2.2,0))∨((l.getD i default).1=0∧(l.getD i default).2.2=[]):=fun i hi=>by
  have hm:=left_mem (l:=l) _ 0 rfl i (Nat.zero_le _) hi
  rw [hA] at hm
  rcases List.mem_append.1 hm with hm|hm
  ·exact .inl ⟨hn _ hm,hy _ hm⟩
  ·right
   simp only [EndT,List.mem_singleton,Prod.mk.injEq] at hm
   exact ⟨hm.1,hm.2.1⟩
 refine ⟨h1,?_⟩
 obtain ⟨m,hm⟩:∃m,l.length=m+1:=⟨l.length - 1,by omega⟩
 rw [hm,sprT_R,hT,hA]
 refine spread_toks (k:=(l.getD 0 default).1) ?_ hn ?_ (sprR_ok hx seed m (by omega))
 ·have h2:=sprR_toks l seed m (by omega)
  rw [left_end (by omega),List.append_nil] at h2
  rw [h2,← hA,left_cons h1]
  rfl
 ·exact hx 0 h1
theorem toks_sum (s:ByteArray):∀(n p:Nat),p≤s.size→((toksAt s n p).1.flatMap fun t=>t.2.2).length+p≤s.size∧(toksAt s n p).1.length≤s.size - p+1
 | 0,p,hp=>by simp [toksAt];omega
 | n+1,p,hp=>by
  by_cases he:(tokAt s p).2.2=0
  ·obtain ⟨t1,t2,t3,t4,t5,t6,_⟩:=tokAt_facts hp he
   by_cases hk:(tokAt s p).1.1=0
   ·rw [toks_end he hk]
    simp only [List.flatMap_cons,List.flatMap_nil,List.append_nil,List.length_cons,List.length_nil]
    omega
   ·rw [toks_next he hk]
    obtain ⟨i1,i2⟩:=toks_sum s n (tokAt s p).2.1 t4
    have:=t5 hk
    split
    ·omega
    ·simp only [List.flatMap_cons,List.length_append,List.length_cons] at i1 i2 ⊢
     omega
  ·rw [toks_err he]
   simp;omega
theorem sepS_len (seed:Nat):(sepS seed).length≤4:=by
 unfold sepS
 split
 ·decide
 ·split
  ·decide
  ·split
   ·decide
   ·split<;>decide
theorem sepAt_len (l:List Tk) (seed i:Nat):(sepAt l seed i).length≤4:=by
 unfold sepAt
 split
 ·simp
 ·exact sepS_len _
theorem sprT_len (l:List Tk) (seed:Nat):∀i,i≤l.length→(sprT l seed i).length≤i*4+((l.take i).flatMap fun t=>t.2.2).length
 | 0,_=>Nat.zero_le _
 | i+1,h=>by
  have h1:=sprT_len l seed i (by omega)
  have h2:=sepAt_len l seed i
  have e:l.take (i+1)=l.take i++[l.getD i default]:=by
   rw [List.take_add_one]
   simp [List.getD,show i < l.length from h]
  rw [sprT,e,List.flatMap_append]
  simp only [List.length_append,List.flatMap_cons,List.flatMap_nil,List.append_nil]
  omega
theorem take_flat_le (l:List Tk) (i:Nat):((l.take i).flatMap fun t=>t.2.2).length≤(l.flatMap fun t=>t.2.2).length:=by
 conv=>rhs;rw [←List.take_append_drop i l,List.flatMap_append,List.length_append]
 omega
theorem spread_small {s:ByteArray} (hs:s.size≤2000) (seed i:Nat) (hi:i≤(scanP s).1.length):(sprT (scanP s).1 seed i).length≤11000∧(scanP s).1.length≤2001∧∀j,j < (scanP s).1.length→((scanP s).1.getD j default).2.2.length≤2000:=by
 have hsc:scanP s=toksAt s (s.size+1) 0:=by unfold scanP;rw [if_neg (by omega)]
 have h1:=toks_sum s (s.size+1) 0 (Nat.zero_le _)
 rw [←hsc] at h1
 have h2:=sprT_len (scanP s).1 seed i hi
 have h3:=take_flat_le (scanP s).1 i
 refine ⟨by omega,by omega,fun j hj=>?_⟩
 have e:(scanP s).1=(scanP s).1.take j++((scanP s).1.getD j default :: (scanP s).1.drop (j+1)):=by
  have hd:=List.drop_eq_getElem_cons hj
  rw [show (scanP s).1.getD j default=(scanP s).1[j] by simp [List.getD,hj],← hd,List.take_append_drop]
 have e2:=congrArg (fun x=>(x.flatMap fun t=>t.2.2).length) e
 simp only [List.flatMap_append,List.flatMap_cons,List.length_append] at e2
 omega
end Go.Proofs.YtaojnljppcnhjaaGreatDoor
namespace Go.Proofs.YtaojnljppcnhjaaGreatDoor
open Go.RowKit Go.Sort
abbrev PF:List Tok→PS (List Dl×List Rs):=programS (exprS (16384+1))
abbrev RF:List Tok→PS Rs:=ruleS (exprS (16384+1))
abbrev QF:List Tok→PS (List Gs×List (List UInt8)):=quS (exprS (16384+1))
def OutP (s:ByteArray) (w:World) (V:Array Value) (p:Nat) (er:Int):Prop :=
 (er=0∧p=0∧∃x,wholeS PF s=.ok x∧RdP w V x)∨(er≠0∧V=#[.slice none 0 0,.slice none 0 0]∧wholeS PF s=.error (p,er))
def OutR (s:ByteArray) (w:World) (u:Ru) (p:Nat) (er:Int):Prop :=
 (er=0∧p=0∧wholeS RF s=.ok u.p∧RuB w u)∨(er≠0∧u=⟨[],[],[],[],[],none,0,none,0,none,0,none,0,0⟩∧wholeS RF s=.error (p,er))
def OutQ (s:ByteArray) (w:World) (V:Array Value) (p:Nat) (er:Int):Prop :=
 (er=0∧p=0∧∃x,wholeS QF s=.ok x∧RdQ w V x)∨(er≠0∧V=#[.slice none 0 0,.slice none 0 0]∧wholeS QF s=.error (p,er))
def AnsP (s:ByteArray) (w:World) (e:Ending) (w':World):Prop:=∃(dA rA:Option Addr) (dn dc rn rc p:Nat) (er:Int),e=.returned (.tuple #[.agg #[.slice dA dn dc,.slice rA rn rc],.int .i64 (p:Int),.int .i64 er])∧RowKit.Below w.heap.size w w'∧OutP s w' #[.slice dA dn dc,.slice rA rn rc] p er
def AnsR (s:ByteArray) (w:World) (e:Ending) (w':World):Prop:=∃(u:Ru) (p:Nat) (er:Int),e=.returned (.tuple #[.agg u.cells.toArray,.int .i64 (p:Int),.int .i64 er])∧RowKit.Below w.heap.size w w'∧OutR s w' u p er
def AnsQ (s:ByteArray) (w:World) (e:Ending) (w':World):Prop:=∃(gA zA:Option Addr) (gn gc zn zc p:Nat) (er:Int),e=.returned (.tuple #[.slice gA gn gc,.slice zA zn zc,.int .i64 (p:Int),.int .i64 er])∧RowKit.Below w.heap.size w w'∧OutQ s w' #[.slice gA gn gc,.slice zA zn zc] p er
section
variable (s:ByteArray) (hs:s.size≤100000) (w:World)
include hs
theorem out_P:Calls Tryz.prog 10 #[.string s] w (AnsP s w):=by
 refine (parse_at (F:=16384) (Nat.le_refl _) s hs w).mono ?_
 rintro e w' ⟨V,p,er,rfl,hb,⟨rfl,rfl,x,hx,hm⟩|⟨h0,rfl,h⟩⟩
 ·obtain ⟨ds,rz,dA,rA,dc,rc,rfl,hx2,hm2⟩:=hm.rd
  exact ⟨_,_,_,_,_,_,_,_,rfl,hb,.inl ⟨rfl,rfl,x,hx,ds,rz,dA,rA,dc,rc,rfl,hx2,hm2⟩⟩
 ·exact ⟨_,_,_,_,_,_,_,_,rfl,hb,.inr ⟨h0,rfl,h⟩⟩
theorem out_Q:Calls Tryz.prog 16 #[.string s] w (AnsQ s w):=by
 refine (parse_goals_at (F:=16384) (Nat.le_refl _) s hs w).mono ?_
 rintro e w' ⟨gA,zA,gn,gc,zn,zc,p,er,rfl,hb,⟨rfl,rfl,x,hx,hm⟩|⟨h0,rfl,rfl,rfl,rfl,rfl,rfl,h⟩⟩
 ·exact ⟨_,_,_,_,_,_,_,_,rfl,hb,.inl ⟨rfl,rfl,x,hx,hm.rd⟩⟩
 ·exact ⟨_,_,_,_,_,_,_,_,rfl,hb,.inr ⟨h0,rfl,h⟩⟩
theorem out_Qz:Calls Tryz.prog 17 #[.string s] w (AnsQ s w):=by
 refine (parse_goals_z (F:=16384) (Nat.le_refl _) s hs w).mono ?_
 rintro e w' ⟨gA,zA,gn,gc,zn,zc,p,er,rfl,hb,⟨rfl,rfl,x,hx,hm⟩|⟨h0,rfl,rfl,rfl,rfl,rfl,rfl,h⟩⟩
 ·exact ⟨_,_,_,_,_,_,_,_,rfl,hb,.inl ⟨rfl,rfl,x,hx,hm.rd⟩⟩
 ·exact ⟨_,_,_,_,_,_,_,_,rfl,hb,.inr ⟨h0,rfl,h⟩⟩
end
def POk (x:List Dl×List Rs):Prop:=x.1.length≤1000∧x.2.length≤1000∧∀q∈x.2,RuleLen q
theorem pok_of {s:ByteArray} {x:List Dl×List Rs} (h:wholeS PF s=.ok x):POk x:=by
 obtain ⟨h1,h2,h3⟩:=whole_P_ok h
 exact ⟨by omega,by omega,fun q hq=>(h3 q hq).lens⟩
theorem pok_nil:POk ([],[]):=⟨by simp,by simp,fun _ h=>(by cases h)⟩
theorem rdp_nil (w:World):RdP w #[.slice none 0 0,.slice none 0 0] ([],[]):=⟨[],[],none,none,0,0,rfl,rfl,RdB.nil _ _,RdB.nil _ _⟩
theorem rdq_nil (w:World):RdQ w #[.slice none 0 0,.slice none 0 0] ([],[]):=⟨[],[],none,none,0,0,rfl,rfl,by simp,RdB.nil _ _,RdB.nil _ _⟩
section
variable {s:ByteArray} {w1 w2:World} {p1 p2:Nat} {e1 e2:Int}
theorem two_Q {V1 V2:Array Value} (h1:OutQ s w1 V1 p1 e1) (h2:OutQ s w2 V2 p2 e2):p2=p1∧e2=e1∧∃y,y.1.length≤1000∧RdQ w1 V1 y∧RdQ w2 V2 y:=by
 rcases h1 with ⟨rfl,rfl,x,hx,hm⟩|⟨_,rfl,hx⟩<;>rcases h2 with ⟨rfl,rfl,y,hy,hn⟩|⟨_,rfl,hy⟩<;>rw [hx] at hy
 ·injection hy with hy
  subst hy
  exact ⟨rfl,rfl,x,by have:=whole_Q_ok hx;omega,hm,hn⟩
 ·cases hy
 ·cases hy
 ·injection hy with hy
  injection hy with a b
  exact ⟨a.symm,b.symm,_,by simp,rdq_nil _,rdq_nil _⟩
end
end Go.Proofs.YtaojnljppcnhjaaGreatDoor
