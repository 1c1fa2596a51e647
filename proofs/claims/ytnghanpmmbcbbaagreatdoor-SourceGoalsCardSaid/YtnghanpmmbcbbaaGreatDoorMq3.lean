/-
  PaRest.
  SyExt.
  SySuf.
 SyApp.
 SyProg.
 SyValid.
 SyRule.
 SyNames.
 SiPlain.
 NmBytes.
 NmWord.
 NmRefWord.
 NmTables.
-/
import Derived.Test.YtnghanpmmbcbbaaGreatDoorMq2
import Derived.Test.YtnghanpmmbcbbaaGreatDoorProg
import Derived.Test.YtnghanpmmbcbbaaGreatDoorMq1
import Derived.WalkKit
import Derived.Below
import Derived.Lib.Hide
import Derived.Outline
namespace Go.Proofs.YtnghanpmmbcbbaaGreatDoor
open Go
def markT (l:List Tk) (i:Nat):Bool:=match i with
 | 0=>false
 | j+1=>(l.getD (j+1) default).1==3&&((l.getD j default).2.2==[45]&&(l.getD (j+1) default).2.1==(l.getD j default).2.1+1)
def leftT (l:List Tk) (i:Nat):List Tok:=if i < l.length then ((l.getD i default).1,(l.getD i default).2.2,markT l i) :: leftT l (i+1) else []
termination_by l.length - i
theorem left_cons {l:List Tk} {i:Nat} (h:i < l.length):leftT l i=((l.getD i default).1,(l.getD i default).2.2,markT l i) :: leftT l (i+1):=by rw [leftT,if_pos h]
theorem left_end {l:List Tk} {i:Nat} (h:l.length≤i):leftT l i=[]:=by rw [leftT,if_neg (by omega)]
theorem left_len (l:List Tk):∀(n i:Nat),l.length - i=n→(leftT l i).length=n
 | 0,i,h=>by rw [left_end (by omega)];rfl
 | n+1,i,h=>by rw [left_cons (by omega),List.length_cons,left_len l n (i+1) (by omega)]
theorem left_length (l:List Tk) (i:Nat):(leftT l i).length=l.length - i:=left_len l _ i rfl
theorem left_tail {l:List Tk} {i:Nat}:(leftT l i).tail=leftT l (i+1):=by
 by_cases h:i < l.length
 ·rw [left_cons h];rfl
 ·rw [left_end (by omega),left_end (by omega)];rfl
theorem left_isS {l:List Tk} {i:Nat} (h:i < l.length) (s:List UInt8):isS s (leftT l i)=isT 4 s (l.getD i default):=by rw [left_cons h];rfl
def Ended (l:List Tk):Prop:=0 < l.length∧∀i,i < l.length→((l.getD i default).1=0↔i+1=l.length)
theorem ended_step {l:List Tk} (h:Ended l) {i:Nat} (hi:i < l.length) (hk:(l.getD i default).1≠0):i+1 < l.length∧stepI l i=i+1:=by
 have h1:¬i+1=l.length:=fun e=>hk ((h.2 i hi).2 e)
 have h2:i+1 < l.length:=by omega
 exact ⟨h2,by rw [stepI,if_pos h2]⟩
def offT (l:List Tk) (left:Nat):Nat:=(l.getD (l.length - left) default).2.1
theorem off_here {l:List Tk} {i:Nat} (h:i < l.length):offT l (leftT l i).length=(l.getD i default).2.1:=by
 rw [offT,left_length,show l.length - (l.length - i)=i by omega]
def absP (at_:Nat) (prev:List UInt8):List Tk→List Tok
 | []=>[]
 | x :: r=>(x.1,x.2.2,(x.1==3&&(prev==[45]&&x.2.1==at_+1))) :: absP x.2.1 x.2.2 r
theorem left_abs (l:List Tk):∀(n j:Nat),l.length - (j+1)=n→absP (l.getD j default).2.1 (l.getD j default).2.2 (l.drop (j+1))=leftT l (j+1)
 | 0,j,h=>by rw [left_end (by omega),List.drop_eq_nil_of_le (by omega)];rfl
 | n+1,j,h=>by
  have hlt:j+1 < l.length:=by omega
  have hi:=left_abs l n (j+1) (by omega)
  have hg:l[j+1]=l.getD (j+1) default:=by simp [List.getD_eq_getElem?_getD,List.getElem?_eq_getElem hlt]
  rw [List.drop_eq_getElem_cons hlt,left_cons hlt,absP,hg,hi]
  rfl
theorem left_all (l:List Tk):absP 0 [] l=leftT l 0:=by
 cases l with
 | nil=>rw [left_end (by simp)];rfl
 | cons x r =>
  have h:=left_abs (x :: r) r.length 0 (by simp)
  rw [left_cons (by simp),← h]
  simp [absP,markT]
end Go.Proofs.YtnghanpmmbcbbaaGreatDoor
namespace Go.Proofs.YtnghanpmmbcbbaaGreatDoor
open Go
abbrev EndT:List Tok:=[(0,[],false)]
def ExtW {α:Type} (f:Rd1 α):Prop:=∀a ns v r ns2,f (a++EndT) ns=.ok v r ns2→∃b,r=b++EndT∧b.length < a.length∧∀x,b≠[]→f (a++x) ns=.ok v (b++x) ns2
def ExtS {α:Type} (f:Rd1 α):Prop:=∀a ns v r ns2,f (a++EndT) ns=.ok v r ns2→∃b,r=b++EndT∧b.length < a.length∧∀x,f (a++x) ns=.ok v (b++x) ns2
section
variable {ex:Rd1 Tm} (hex:ExtW ex)
include hex
end
section
variable {ex:Rd1 Tm} (hex:ExtW ex)
include hex
end
end Go.Proofs.YtnghanpmmbcbbaaGreatDoor
namespace Go.Proofs.YtnghanpmmbcbbaaGreatDoor
open Go
def Suf {α:Type} (f:Rd1 α):Prop:=∀ts ns v r ns2,f ts ns=.ok v r ns2→r <:+ ts
section
variable {ex:Rd1 Tm} (hex:Suf ex)
include hex
end
section
variable {ex:Rd1 Tm} (hex:Suf ex)
include hex
end
end Go.Proofs.YtnghanpmmbcbbaaGreatDoor
namespace Go.Proofs.YtnghanpmmbcbbaaGreatDoor
open Go
section
variable {ex:Rd1 Tm} (hex:ExtW ex)
include hex
end
def NoEnd (l:List Tok):Prop:=∀t∈l,t.1≠0
end Go.Proofs.YtnghanpmmbcbbaaGreatDoor
namespace Go.Proofs.YtnghanpmmbcbbaaGreatDoor
open Go
abbrev constraintW:List UInt8:=[99,111,110,115,116,114,97,105,110,116]
theorem rule_head {ex:Rd1 Tm} {ts:List Tok} {v:Rs} {r:List Tok} {ns2:List (List UInt8)} (h:ruleS ex ts=.ok v r ns2):∃t g d,ts=(1,t,g) :: d∧resB t=false:=by
 have hnm:∀{ts:List Tok} {ns:List (List UInt8)} {t:List UInt8} {r ns2},nmS ts ns=.ok t r ns2→∃t g d,ts=(1,t,g) :: d∧resB t=false:=by
  intro ts ns t r ns2 h
  unfold nmS at h
  split at h
  ·cases h
  ·rename_i k t g d
   split at h
   ·cases h
   ·rename_i hk
    split at h
    ·cases h
    ·rename_i hr
     have:k=1:=Classical.not_not.1 hk
     subst this
     exact ⟨t,g,d,rfl,by simpa using hr⟩
 unfold ruleS at h
 split at h
 ·cases h
 ·rename_i y r1 ns1 he
  unfold partsS at he
  split at he
  ·cases he
  ·rename_i lb r2 ns3 hl
   split at he
   ·cases he
   ·rename_i z r3 ns4 hb
    have hboth:∃t g d,r2=(1,t,g) :: d∧resB t=false:=by
     unfold bothS at hb
     split at hb
     ·cases hb
     ·rename_i w r4 ns5 hh
      rw [headsS] at hh
      split at hh
      ·cases hh
      ·split at hh
       ·cases hh
       ·rename_i a r5 ns6 ha
        unfold atomS at ha
        split at ha
        ·cases ha
        ·rename_i t r6 ns7 hn
         exact hnm hn
    unfold labelS at hl
    split at hl
    ·injection hl with _ h2 _;subst h2;exact hboth
    ·split at hl
     ·split at hl
      ·rename_i t r7 ns8 hn
       exact hnm hn
      ·cases hl
     ·injection hl with _ h2 _;subst h2;exact hboth
end Go.Proofs.YtnghanpmmbcbbaaGreatDoor
namespace Go.Proofs.YtnghanpmmbcbbaaGreatDoor
open Go
def dedS (l:List Int):List Int:=l.foldl putS []
theorem putS_mem (l:List Int) (x y:Int):y∈putS l x↔y∈l∨y=x:=by
 unfold putS
 split
 ·constructor
  ·exact .inl
  ·rintro (h|rfl)
   ·exact h
   ·assumption
 ·simp
theorem putS_nodup {l:List Int} (h:l.Nodup) (x:Int):(putS l x).Nodup:=by
 unfold putS
 split
 ·exact h
 ·rename_i hx
  rw [List.nodup_append]
  refine ⟨h,by simp,fun a ha b hb=>?_⟩
  rw [List.mem_singleton.1 hb]
  rintro rfl
  exact hx ha
theorem fold_mem (xs:List Int):∀(l:List Int) (y:Int),y∈xs.foldl putS l↔y∈l∨y∈xs:=by
 induction xs with
 | nil=>simp
 | cons x xs ih =>
  intro l y
  rw [List.foldl_cons,ih,putS_mem,List.mem_cons,or_assoc]
theorem fold_nodup (xs:List Int):∀(l:List Int),l.Nodup→(xs.foldl putS l).Nodup:=by
 induction xs with
 | nil=>exact fun _ h=>h
 | cons x xs ih=>exact fun l h=>ih _ (putS_nodup h x)
theorem fold_prefix (xs:List Int):∀(l:List Int),l <+: xs.foldl putS l:=by
 induction xs with
 | nil=>exact fun l=>List.prefix_refl l
 | cons x xs ih =>
  intro l
  refine List.IsPrefix.trans ?_ (ih (putS l x))
  unfold putS
  split
  ·exact List.prefix_refl l
  ·exact List.prefix_append _ _
theorem ded_append (a b:List Int):dedS (a++b)=b.foldl putS (dedS a):=by simp [dedS]
theorem ded_mem {l:List Int} {y:Int}:y∈dedS l↔y∈l:=by simp [dedS,fold_mem]
def stepC (n v:Int):Int:=if n < 0∨n < v∨v < 0 then -1 else max n (v+1)
def cntS (n:Int) (xs:List Int):Int:=xs.foldl stepC n
theorem place_in {vs:List Int} {v:Int} (h:v∈vs):placeS vs v=(vs.idxOf v:Int):=by unfold placeS;rw [if_pos h]
theorem num2_len (f:Int→Int) (l:List Tm):(numL2 f l).length=l.length:=by
 induction l with
 | nil=>rfl
 | cons t r ih=>simp [numL2,ih]
theorem num2_map (f:Int→Int) (l:List Tm):numL2 f l=l.map (Tm.num2 f):=by
 induction l with
 | nil=>rfl
 | cons t r ih=>simp [numL2,ih]
theorem num2_occ (f:Int→Int):(∀t:Tm,(t.num2 f).occ=t.occ.map f)∧(∀l,occL (numL2 f l)=(occL l).map f):=by
 refine Tm.induct2 (fun k n s A c a ih=>?_) rfl (fun t r h1 h2=>?_)
 ·simp only [Tm.num2,Tm.occ]
  by_cases h1:k=1
  ·simp [h1]
  ·by_cases h2:k=2
   ·simp [h2,ih]
   ·simp [h1,h2]
 ·simp only [numL2,occL,h1,h2,List.map_append]
theorem num2_size (f:Int→Int):(∀t:Tm,(t.num2 f).size=t.size)∧(∀l,sizeL (numL2 f l)=sizeL l):=by
 refine Tm.induct2 (fun k n s A c a ih=>?_) rfl (fun t r h1 h2=>?_)
 ·simp only [Tm.num2,Tm.size,ih]
 ·simp only [numL2,sizeL,h1,h2]
theorem num2_depth (f:Int→Int):(∀t:Tm,(t.num2 f).depth=t.depth)∧(∀l,depthL (numL2 f l)=depthL l):=by
 refine Tm.induct2 (fun k n s A c a ih=>?_) rfl (fun t r h1 h2=>?_)
 ·simp only [Tm.num2,Tm.depth,ih]
 ·simp only [numL2,depthL,h1,h2]
theorem num2_form (f:Int→Int):(∀t:Tm,t.form=true→(∀v∈t.occ,0≤f v∧f v≤1048576)→(t.num2 f).form=true)∧(∀l,formL l=true→(∀v∈occL l,0≤f v∧f v≤1048576)→formL (numL2 f l)=true):=by
 refine Tm.induct2 (fun k n s A c a ih=>?_) (fun _ _=>rfl) (fun t r h1 h2=>?_)
 ·intro h ho
  simp only [Tm.num2,Tm.form] at h ⊢
  by_cases k0:k=0
  ·simp only [k0,if_true] at h ⊢
   simpa [num2_len] using h
  ·rw [if_neg k0] at h ⊢
   by_cases k1:k=1
   ·subst k1
    simp only [if_true] at h ⊢
    have:=ho n (by simp [Tm.occ])
    simp only [Bool.and_eq_true,decide_eq_true_eq] at h ⊢
    exact ⟨this.1,this.2,h.2.2.1,by rw [num2_len];exact h.2.2.2⟩
   ·rw [if_neg k1] at h ⊢
    by_cases k2:k=2
    ·subst k2
     simp only [if_true,num2_len] at h ⊢
     simp only [Bool.and_eq_true] at h ⊢
     exact ⟨by simpa using h.1,h.2.1,ih h.2.2 (fun v hv=>ho v (by simpa [Tm.occ] using hv))⟩
    ·rw [if_neg k2] at h;cases h
 ·intro h ho
  simp only [formL,numL2,Bool.and_eq_true] at h ⊢
  exact ⟨h1 h.1 (fun v hv=>ho v (by simp [occL,hv])),h2 h.2 (fun v hv=>ho v (by simp [occL,hv]))⟩
theorem num2_rightT {f:Int→Int} {l:List Tm} (h:rightT l=true) (ho:∀v∈occL l,0≤f v∧f v≤1048576):rightT (numL2 f l)=true:=by
 unfold rightT at h ⊢
 simp only [Bool.and_eq_true] at h ⊢
 rw [(num2_size f).2,(num2_depth f).2]
 exact ⟨(num2_form f).2 l h.1 ho,h.2⟩
theorem num2_rightA {f:Int→Int} {a:As} (h:rightA a.1 a.2=true) (ho:∀v∈occL a.2,0≤f v∧f v≤1048576):rightA (a.num2 f).1 (a.num2 f).2=true:=by
 unfold rightA at h ⊢
 simp only [Bool.and_eq_true,As.num2,num2_len] at h ⊢
 exact ⟨h.1,h.2.1,num2_rightT h.2.2 ho⟩
theorem rightG_call (s:List UInt8) (l:List Tm):rightG (0,s,l)=rightA s l:=rfl
theorem rightG_op {op:Int} (h:op≠0) (s:List UInt8) (l:List Tm):rightG (op,s,l)=(decide (s=[])&&(decide ((l.length:Int)=arityS op)&&rightT l)):=by
 unfold rightG
 exact if_neg h
theorem num2_rightG {f:Int→Int} {g:Gs} (h:rightG g=true) (ho:∀v∈occL g.2.2,0≤f v∧f v≤1048576):rightG (g.num2 f)=true:=by
 obtain ⟨op,s,l⟩:=g
 show rightG (op,s,numL2 f l)=true
 by_cases h0:op=0
 ·subst h0
  rw [rightG_call] at h ⊢
  exact num2_rightA (a:=(s,l)) h ho
 ·rw [rightG_op h0] at h ⊢
  simp only [Bool.and_eq_true,num2_len] at h ⊢
  exact ⟨h.1,h.2.1,num2_rightT h.2.2 ho⟩
theorem ded_map {f:Int→Int} (o:List Int):∀(l:List Int),(∀x∈l++o,∀y∈l++o,f x=f y→x=y)→(o.map f).foldl putS (l.map f)=(o.foldl putS l).map f:=by
 induction o with
 | nil=>intro l _;rfl
 | cons x o ih =>
  intro l hi
  rw [List.map_cons,List.foldl_cons,List.foldl_cons]
  have e:putS (l.map f) (f x)=(putS l x).map f:=by
   unfold putS
   by_cases hx:x∈l
   ·rw [if_pos (List.mem_map_of_mem hx),if_pos hx]
   ·rw [if_neg hx,if_neg ?_]
    ·simp
    ·intro hm
     obtain ⟨y,hy,e⟩:=List.mem_map.1 hm
     have:=hi y (by simp [hy]) x (by simp) e
     exact hx (this ▸ hy)
  rw [e]
  refine ih _ fun a ha b hb hab=>hi a ?_ b ?_ hab
  ·rcases List.mem_append.1 ha with h|h
   ·rcases (putS_mem l x a).1 h with h|rfl
    ·simp [h]
    ·simp
   ·simp [h]
  ·rcases List.mem_append.1 hb with h|h
   ·rcases (putS_mem l x b).1 h with h|rfl
    ·simp [h]
    ·simp
   ·simp [h]
theorem place_inj {vs:List Int} {x y:Int} (hx:x∈vs) (hy:y∈vs) (h:placeS vs x=placeS vs y):x=y:=by
 rw [place_in hx,place_in hy] at h
 have h1:vs.idxOf x=vs.idxOf y:=by omega
 have h2:=List.getElem_idxOf (List.idxOf_lt_length_iff.2 hx)
 have h3:=List.getElem_idxOf (List.idxOf_lt_length_iff.2 hy)
 rw [←h2,← h3]
 simp only [h1]
def cntT (n:Int) (l:List Tm):Int:=l.foldl (fun n t=>cntS n (dedS t.occ)) n
end Go.Proofs.YtnghanpmmbcbbaaGreatDoor
namespace Go.Proofs.YtnghanpmmbcbbaaGreatDoor
open Go
theorem occ_size2:(∀t:Tm,t.occ.length≤t.size)∧(∀l,(occL l).length≤sizeL l):=by
 refine Tm.induct2 (fun k n s A c a ih=>?_) (Nat.le_refl _) (fun t r h1 h2=>?_)
 ·simp only [Tm.occ,Tm.size]
  by_cases h1:k=1
  ·simp [h1]
  ·by_cases h2:k=2
   ·simp [h2];omega
   ·simp [h1,h2]
 ·simp only [occL,sizeL,List.length_append];omega
theorem fold_length (xs:List Int):∀l:List Int,(xs.foldl putS l).length≤l.length+xs.length:=by
 induction xs with
 | nil=>simp
 | cons x xs ih =>
  intro l
  have:=ih (putS l x)
  have h2:(putS l x).length≤l.length+1:=by unfold putS;split<;>simp
  simp only [List.foldl_cons,List.length_cons]
  omega
def AllA (l:List As):Prop:=∀a∈l,rightA a.1 a.2=true
def AllG (l:List Gs):Prop:=∀g∈l,rightG g=true
theorem heads_facts {ex:Rd1 Tm} (before:Nat):∀(n:Nat) (ts:List Tok),ts.length≤n→∀acc ns v r ns2,headsS ex before acc ts ns=.ok v r ns2→AllA acc→AllA v∧before+v.length≤4∧acc.length < v.length
 | n,ts,hn,acc,ns,v,r,ns2,h,ha=>by
  rw [headsS] at h
  split at h
  ·cases h
  ·rename_i h4
   split at h
   ·cases h
   ·rename_i y r1 ns1 he
    split at h
    ·cases h
    ·rename_i hr
     have hall:AllA (acc++[y]):=fun a hm=>by
      rcases List.mem_append.1 hm with h|h
      ·exact ha a h
      ·rw [List.mem_singleton.1 h];simpa using hr
     split at h
     ·split at h
      ·rename_i hl
       match n,hn with
       | 0,hn=>omega
       | n+1,hn =>
        obtain ⟨i1,i2,i3⟩:=heads_facts before n r1.tail (by omega) _ _ _ _ _ h hall
        rw [List.length_append,List.length_singleton] at i3
        exact ⟨i1,i2,by omega⟩
      ·cases h
     ·injection h with h1 _ _;subst h1
      rw [List.length_append,List.length_singleton]
      exact ⟨hall,by omega,by omega⟩
theorem goals_facts {ex:Rd1 Tm} (most:Nat):∀(n:Nat) (ts:List Tok),ts.length≤n→∀acc ns v r ns2,goalsS ex most acc ts ns=.ok v r ns2→AllG acc→AllG v∧v.length≤most∧acc.length < v.length
 | n,ts,hn,acc,ns,v,r,ns2,h,ha=>by
  rw [goalsS] at h
  split at h
  ·cases h
  ·rename_i h4
   split at h
   ·cases h
   ·rename_i y r1 ns1 he
    split at h
    ·cases h
    ·rename_i hr
     have hall:AllG (acc++[y]):=fun a hm=>by
      rcases List.mem_append.1 hm with h|h
      ·exact ha a h
      ·rw [List.mem_singleton.1 h];simpa using hr
     split at h
     ·split at h
      ·rename_i hl
       match n,hn with
       | 0,hn=>omega
       | n+1,hn =>
        obtain ⟨i1,i2,i3⟩:=goals_facts most n r1.tail (by omega) _ _ _ _ _ h hall
        rw [List.length_append,List.length_singleton] at i3
        exact ⟨i1,i2,by omega⟩
      ·cases h
     ·injection h with h1 _ _;subst h1
      rw [List.length_append,List.length_singleton]
      exact ⟨hall,by omega,by omega⟩
theorem AllA.nil:AllA []:=fun _ h=>by cases h
theorem AllG.nil:AllG []:=fun _ h=>by cases h
theorem both_facts {ex:Rd1 Tm} {ts:List Tok} {ns:List (List UInt8)} {v:List As×List As} {r:List Tok} {ns2:List (List UInt8)} (h:bothS ex ts ns=.ok v r ns2):AllA v.1∧AllA v.2∧v.1.length+v.2.length≤4∧1≤v.1.length+v.2.length:=by
 unfold bothS at h
 split at h
 ·cases h
 ·rename_i y r1 ns1 he
  obtain ⟨i1,i2,i3⟩:=heads_facts 0 _ _ (Nat.le_refl _) _ _ _ _ _ he AllA.nil
  simp only [List.length_nil] at i3
  split at h
  ·injection h with h1 _ _;subst h1
   exact ⟨AllA.nil,i1,by simp only [List.length_nil];omega,by simp only [List.length_nil];omega⟩
  ·split at h
   ·injection h with h1 _ _;subst h1
    exact ⟨i1,AllA.nil,by simp only [List.length_nil];omega,by simp only [List.length_nil];omega⟩
   ·split at h
    ·split at h
     ·cases h
     ·rename_i z r2 ns3 he2
      obtain ⟨j1,j2,j3⟩:=heads_facts _ _ _ (Nat.le_refl _) _ _ _ _ _ he2 AllA.nil
      split at h
      ·injection h with h1 _ _;subst h1
       exact ⟨i1,j1,by simp only;omega,by simp only;omega⟩
      ·cases h
    ·cases h
theorem body_facts (b:List Gs) (h:AllG b):AllG (bodyS b)∧(bodyS b).length≤b.length:=by
 unfold bodyS
 split
 ·split
  ·exact ⟨AllG.nil,by simp⟩
  ·exact ⟨h,Nat.le_refl _⟩
 ·exact ⟨h,Nat.le_refl _⟩
structure RuleOk (q:Rs):Prop where
 some:1≤q.keep.length+q.remove.length
 heads:q.keep.length+q.remove.length≤4
 guards:q.guard.length≤12
 bodies:q.body.length≤12
 keepR:AllA q.keep
 removeR:AllA q.remove
 guardR:AllG q.guard
 bodyR:AllG q.body
 count:cntT 0 q.terms=(q.vars:Int)
theorem rightA_size {a:As} (h:rightA a.1 a.2=true):sizeL a.2≤200:=by
 simp only [rightA,rightT,Bool.and_eq_true,decide_eq_true_eq] at h
 exact h.2.2.2.1
theorem rightG_size {g:Gs} (h:rightG g=true):sizeL g.2.2≤200:=by
 obtain ⟨op,s,l⟩:=g
 by_cases h0:op=0
 ·subst h0;exact rightA_size (a:=(s,l)) h
 ·rw [rightG_op h0] at h
  simp only [rightT,Bool.and_eq_true,decide_eq_true_eq] at h
  exact h.2.2.2.1
theorem sizeA_le (l:List As) (h:AllA l):sizeL (l.flatMap (·.2))≤l.length*200:=by
 induction l with
 | nil=>simp [sizeL]
 | cons a l ih =>
  have h1:=rightA_size (h a (by simp))
  have h2:=ih (fun x hx=>h x (List.mem_cons_of_mem _ hx))
  simp only [List.flatMap_cons,sizeL_append,List.length_cons]
  omega
theorem sizeG_le (l:List Gs) (h:AllG l):sizeL (l.flatMap (·.2.2))≤l.length*200:=by
 induction l with
 | nil=>simp [sizeL]
 | cons a l ih =>
  have h1:=rightG_size (h a (by simp))
  have h2:=ih (fun x hx=>h x (List.mem_cons_of_mem _ hx))
  simp only [List.flatMap_cons,sizeL_append,List.length_cons]
  omega
theorem num2_flatA (f:Int→Int) (l:List As):(l.map (As.num2 f)).flatMap (·.2)=numL2 f (l.flatMap (·.2)):=by
 induction l with
 | nil=>rfl
 | cons a l ih=>simp only [List.map_cons,List.flatMap_cons,ih,num2_map,List.map_append];simp [As.num2,num2_map]
theorem num2_flatG (f:Int→Int) (l:List Gs):(l.map (Gs.num2 f)).flatMap (·.2.2)=numL2 f (l.flatMap (·.2.2)):=by
 induction l with
 | nil=>rfl
 | cons a l ih=>simp only [List.map_cons,List.flatMap_cons,ih,num2_map,List.map_append];simp [Gs.num2,num2_map]
theorem mem_occ {l m:List Tm} (h:∀t∈l,t∈m):∀v∈occL l,v∈occL m:=by
 have key:∀(m:List Tm) (v:Int),v∈occL m↔∃t∈m,v∈t.occ:=by
  intro m v
  induction m with
  | nil=>simp [occL]
  | cons t m ih=>simp [occL,ih]
 intro v hv
 obtain ⟨t,ht,hv⟩:=(key l v).1 hv
 exact (key m v).2 ⟨t,h t ht,hv⟩
end Go.Proofs.YtnghanpmmbcbbaaGreatDoor
namespace Go.Proofs.YtnghanpmmbcbbaaGreatDoor
open Go
def Named (ns:List (List UInt8)) (l:List Tm):Prop:=∀v∈occL l,0≤v∧v < (ns.length:Int)
theorem Named.more {ns n2:List (List UInt8)} {l:List Tm} (h:Named ns l) (hp:ns <+: n2):Named n2 l:=fun v hv=>by
 have h1:=h v hv
 have h2:=hp.length_le
 omega
theorem Named.nil (ns:List (List UInt8)):Named ns []:=fun _ h=>by cases h
theorem name_facts (t:List UInt8) (ns:List (List UInt8)):ns <+: (nameS t ns).2∧(nameS t ns).1 < (nameS t ns).2.length:=by
 unfold nameS
 split
 ·rename_i h
  exact ⟨List.prefix_refl _,List.idxOf_lt_length_iff.2 h.2⟩
 ·exact ⟨List.prefix_append _ _,by simp⟩
def Nms {α:Type} (tm:α→List Tm) (f:Rd1 α):Prop:=∀ts ns v r ns2,f ts ns=.ok v r ns2→ns <+: ns2∧Named ns2 (tm v)
abbrev one (t:Tm):List Tm:=[t]
section
variable {ex:Rd1 Tm} (hex:Nms one ex)
include hex
end
def Nrm (f:Rd1 Tm):Prop:=∀ts ns v r ns2,f ts ns=.ok v r ns2→v.kind=2∨v.args=[]
theorem place_map {g:Int→Int} {vs:List Int} (hg:∀x∈vs,∀y∈vs,g x=g y→x=y) {v:Int} (hv:v∈vs):placeS (vs.map g) (g v)=placeS vs v:=by
 rw [place_in hv,place_in (List.mem_map_of_mem hv)]
 congr 1
 induction vs with
 | nil=>cases hv
 | cons a vs ih =>
  rw [List.map_cons]
  by_cases h:a=v
  ·subst h;simp
  ·have hga:g a≠g v:=fun e=>h (hg a (by simp) v hv e)
   have hv2:v∈vs:=by
    rcases List.mem_cons.1 hv with e|h2
    ·exact absurd e.symm h
    ·exact h2
   have i:=ih (fun x hx y hy=>hg x (List.mem_cons_of_mem _ hx) y (List.mem_cons_of_mem _ hy)) hv2
   have e1:(g a==g v)=false:=by simpa using hga
   have e2:(a==v)=false:=by simpa using h
   rw [List.idxOf_cons,List.idxOf_cons,e1,e2,i]
theorem num2_num2 {f g:Int→Int}:(∀t:Tm,(t.num2 g).num2 f=t.num2 fun v=>f (g v))∧(∀l,numL2 f (numL2 g l)=numL2 (fun v=>f (g v)) l):=by
 refine Tm.induct2 (fun k n s A c a ih=>?_) rfl (fun t r h1 h2=>?_)
 ·simp only [Tm.num2,ih]
  by_cases h:k=1<;>simp [h]
 ·simp only [numL2,h1,h2]
theorem num2_same {f g:Int→Int}:(∀t:Tm,t.form=true→(∀v∈t.occ,f v=g v)→t.num2 f=t.num2 g)∧(∀l,formL l=true→(∀v∈occL l,f v=g v)→numL2 f l=numL2 g l):=by
 refine Tm.induct2 (fun k n s A c a ih=>?_) (fun _ _=>rfl) (fun t r h1 h2=>?_)
 ·intro hf h
  simp only [Tm.form] at hf
  simp only [Tm.num2]
  by_cases k0:k=0
  ·rw [if_pos k0] at hf
   simp only [Bool.and_eq_true,decide_eq_true_eq] at hf
   have:a=[]:=List.length_eq_zero_iff.1 hf.2.2.2
   subst this
   rw [if_neg (by omega),if_neg (by omega)];rfl
  ·rw [if_neg k0] at hf
   by_cases k1:k=1
   ·subst k1
    simp only [if_true,Bool.and_eq_true,decide_eq_true_eq] at hf
    have:a=[]:=List.length_eq_zero_iff.1 hf.2.2.2
    subst this
    rw [if_pos rfl,if_pos rfl,h n (by simp [Tm.occ])];rfl
   ·rw [if_neg k1] at hf
    by_cases k2:k=2
    ·subst k2
     simp only [if_true,Bool.and_eq_true] at hf
     rw [ih hf.2.2 (fun v hv=>h v (by simpa [Tm.occ] using hv)),if_neg k1,if_neg k1]
    ·rw [if_neg k2] at hf;cases hf
 ·intro hf h
  simp only [formL,Bool.and_eq_true] at hf
  simp only [numL2]
  rw [h1 hf.1 (fun v hv=>h v (by simp [occL,hv])),h2 hf.2 (fun v hv=>h v (by simp [occL,hv]))]
theorem order_map {g:Int→Int} {l:List Tm} (hg:∀x∈occL l,∀y∈occL l,g x=g y→x=y):orderS (numL2 g l)=(orderS l).map g:=by
 unfold orderS
 rw [(num2_occ g).2]
 exact ded_map (occL l) [] (fun x hx y hy=>hg x (by simpa using hx) y (by simpa using hy))
theorem numbers_same {g:Int→Int} {all l:List Tm} (hg:∀x∈occL all,∀y∈occL all,g x=g y→x=y) (hl:∀v∈occL l,v∈occL all) (hf:formL l=true):numL2 (placeS (orderS (numL2 g all))) (numL2 g l)=numL2 (placeS (orderS all)) l:=by
 have hm:∀v∈orderS all,v∈occL all:=fun v hv=>by
  unfold orderS at hv
  rcases (fold_mem _ _ _).1 hv with h|h
  ·cases h
  ·exact h
 rw [num2_num2.2,order_map hg]
 refine num2_same.2 l hf fun v hv=>?_
 exact place_map (fun x hx y hy=>hg x (hm x hx) y (hm y hy)) (by
  unfold orderS
  exact (fold_mem _ _ _).2 (.inr (hl v hv)))
end Go.Proofs.YtnghanpmmbcbbaaGreatDoor
namespace Go.Proofs.YtnghanpmmbcbbaaGreatDoor
open Go
section
variable (K:Nat→Bool) (X:Nat→List UInt8) (a:Nat)
def nsU:Nat→List (List UInt8)
 | 0=>[]
 | i+1=>if a≤i∧K i=true then (nameS (X i) (nsU i)).2 else nsU i
def gU (v:Int):Int:=((nameS (X v.toNat) (nsU K X a v.toNat)).1:Int)
end
section
variable {K:Nat→Bool} {X:Nat→List UInt8} {a:Nat}
theorem nsU_start:∀{i:Nat},i≤a→nsU K X a i=[]
 | 0,_=>rfl
 | i+1,h=>by rw [nsU,if_neg (by omega)];exact nsU_start (by omega)
theorem nsU_var {i:Nat} (h:a≤i) (hk:K i=true):nsU K X a (i+1)=(nameS (X i) (nsU K X a i)).2:=by rw [nsU,if_pos ⟨h,hk⟩]
theorem nsU_no {i:Nat} (hk:K i=false):nsU K X a (i+1)=nsU K X a i:=by rw [nsU,if_neg (by rw [hk];simp)]
theorem nsU_le:∀{i j:Nat},i≤j→nsU K X a i <+: nsU K X a j
 | i,0,h=>by rw [Nat.le_zero.1 h];exact List.prefix_refl _
 | i,j+1,h=>by
  rcases Nat.lt_or_ge i (j+1) with h1|h1
  ·refine (nsU_le (i:=i) (j:=j) (by omega)).trans ?_
   rw [nsU]
   split
   ·exact (name_facts _ _).1
   ·exact List.prefix_refl _
  ·rw [show i=j+1 by omega];exact List.prefix_refl _
theorem prefix_getD {l m:List (List UInt8)} (h:l <+: m) {k:Nat} (hk:k < l.length):m.getD k []=l.getD k []:=by
 obtain ⟨z,rfl⟩:=h
 simp [List.getD_eq_getElem?_getD,List.getElem?_append_left hk]
theorem nameS_getD (t:List UInt8) (ns:List (List UInt8)):(nameS t ns).2.getD (nameS t ns).1 []=t:=by
 unfold nameS
 split
 ·rename_i h
  have h1:=List.idxOf_lt_length_iff.2 h.2
  simp [List.getD_eq_getElem?_getD,List.getElem?_eq_getElem h1]
 ·simp [List.getD_eq_getElem?_getD]
theorem nameS_idx {t:List UInt8} (ns:List (List UInt8)) (ht:t≠[95]):(nameS t ns).1=(nameS t ns).2.idxOf t∧t∈(nameS t ns).2:=by
 unfold nameS
 split
 ·rename_i h
  exact ⟨rfl,h.2⟩
 ·rename_i h
  have h1:t∉ns:=fun h2=>h ⟨ht,h2⟩
  exact ⟨by simp [List.idxOf_append,h1],by simp⟩
theorem idx_prefix {l m:List (List UInt8)} {t:List UInt8} (h:l <+: m) (ht:t∈l):m.idxOf t=l.idxOf t:=by
 obtain ⟨z,rfl⟩:=h
 rw [List.idxOf_append,if_pos ht]
def VTok (K:Nat→Bool) (a:Nat) (i:Nat):Prop:=a≤i∧K i=true
theorem gU_lt {i:Nat} (h:VTok K a i):(nameS (X i) (nsU K X a i)).1 < (nsU K X a (i+1)).length:=by
 rw [nsU_var h.1 h.2];exact (name_facts _ _).2
theorem gU_name {i j:Nat} (h:VTok K a i) (hj:i < j):(nsU K X a j).getD (nameS (X i) (nsU K X a i)).1 []=X i:=by
 rw [prefix_getD (nsU_le (show i+1≤j from hj)) (gU_lt h),nsU_var h.1 h.2]
 exact nameS_getD _ _
theorem gU_idx {i j:Nat} (h:VTok K a i) (hj:i < j) (ht:X i≠[95]):(nameS (X i) (nsU K X a i)).1=(nsU K X a j).idxOf (X i)∧X i∈nsU K X a j:=by
 have h1:=nameS_idx (nsU K X a i) ht
 rw [←nsU_var h.1 h.2] at h1
 have h2:=nsU_le (K:=K) (X:=X) (a:=a) (show i+1≤j from hj)
 exact ⟨by rw [idx_prefix h2 h1.2];exact h1.1,h2.subset h1.2⟩
theorem gU_same_lt {i j:Nat} (hi:VTok K a i) (hlt:i < j):(nameS (X i) (nsU K X a i)).1=(nameS (X j) (nsU K X a j)).1↔(X i=X j∧X i≠[95]):=by
 have hl:(nsU K X a (i+1)).length≤(nsU K X a j).length:=(nsU_le (show i+1≤j from hlt)).length_le
 have hg:=gU_lt (X:=X) hi
 constructor
 ·intro h
  have h1:=gU_name (X:=X) hi hlt
  by_cases hn:X j≠[95]∧X j∈nsU K X a j
  ·have e:(nameS (X j) (nsU K X a j)).1=(nsU K X a j).idxOf (X j):=by unfold nameS;rw [if_pos hn]
   have h2:=List.idxOf_lt_length_iff.2 hn.2
   rw [h,e,List.getD_eq_getElem?_getD,List.getElem?_eq_getElem h2] at h1
   have h3:(nsU K X a j)[(nsU K X a j).idxOf (X j)]=X j:=List.getElem_idxOf h2
   rw [h3] at h1
   simp only [Option.getD_some] at h1
   exact ⟨h1.symm,by rw [←h1];exact hn.1⟩
  ·have e:(nameS (X j) (nsU K X a j)).1=(nsU K X a j).length:=by unfold nameS;rw [if_neg hn]
   omega
 ·rintro ⟨h1,h2⟩
  obtain ⟨e,hm⟩:=gU_idx (X:=X) hi hlt h2
  rw [e,h1]
  unfold nameS
  rw [if_pos ⟨by rw [←h1];exact h2,by rw [←h1];exact hm⟩]
theorem gU_same {i j:Nat} (hi:VTok K a i) (hj:VTok K a j):gU K X a (i:Int)=gU K X a (j:Int)↔(i=j∨X i=X j∧X i≠[95]):=by
 have e:∀k:Nat,gU K X a (k:Int)=((nameS (X k) (nsU K X a k)).1:Int):=fun k=>by rw [gU,Int.toNat_natCast]
 rw [e,e,Int.natCast_inj]
 rcases Nat.lt_trichotomy i j with h|h|h
 ·rw [gU_same_lt hi h]
  exact ⟨.inr,fun h1=>h1.elim (fun h2=>by omega) id⟩
 ·subst h;simp
 ·rw [eq_comm,gU_same_lt hj h]
  exact ⟨fun h1=>.inr ⟨h1.1.symm,by rw [←h1.1];exact h1.2⟩,fun h1=>h1.elim (fun h2=>by omega) fun h2=>⟨h2.1.symm,by rw [←h2.1];exact h2.2⟩⟩
def nsO (X:Nat→List UInt8) (P:List Int):List (List UInt8):=P.foldl (fun ns v=>(nameS (X v.toNat) ns).2) []
theorem nsO_snoc (X:Nat→List UInt8) (P:List Int) (v:Int):nsO X (P++[v])=(nameS (X v.toNat) (nsO X P)).2:=by simp [nsO]
def OkP (K:Nat→Bool) (a:Nat) (P:List Int):Prop:=P.Nodup∧∀v∈P,0≤v∧VTok K a v.toNat
theorem OkP.left {P Q:List Int} (h:OkP K a (P++Q)):OkP K a P:=⟨(List.nodup_append.1 h.1).1,fun v hv=>h.2 v (List.mem_append.2 (.inl hv))⟩
theorem ded_snoc (l:List Int) (x:Int):dedS (l++[x])=putS (dedS l) x:=by simp [dedS]
theorem nsO_ded (NM:Int→List UInt8) (hNM:∀i:Nat,VTok K a i→NM (gU K X a (i:Int))=X i):∀(P:List Int) (v:Int),OkP K a (P++[v]) →
  nsO X P=(dedS (P.map (gU K X a))).map NM→nsO X (P++[v])=(dedS ((P++[v]).map (gU K X a))).map NM∧(nameS (X v.toNat) (nsO X P)).1=(dedS ((P++[v]).map (gU K X a))).idxOf (gU K X a v):=by
 intro P v hP hn
 obtain ⟨h0,hv⟩:=hP.2 v (by simp)
 obtain ⟨i,rfl⟩:=Int.eq_ofNat_of_zero_le h0
 rw [Int.toNat_natCast] at hv ⊢
 have hmem:∀g∈dedS (P.map (gU K X a)),∃j:Nat,VTok K a j∧g=gU K X a (j:Int)∧j≠i:=by
  intro g hg
  obtain ⟨u,hu,rfl⟩:=List.mem_map.1 (ded_mem.1 hg)
  obtain ⟨k0,kv⟩:=hP.2 u (by simp [hu])
  obtain ⟨j,rfl⟩:=Int.eq_ofNat_of_zero_le k0
  refine ⟨j,by simpa using kv,rfl,?_⟩
  rintro rfl
  exact (List.nodup_append.1 hP.1).2.2 _ hu _ (List.mem_singleton.2 rfl) rfl
 have hNi:=hNM i hv
 rw [nsO_snoc,Int.toNat_natCast,List.map_append,List.map_cons,List.map_nil,ded_snoc]
 generalize hD:dedS (P.map (gU K X a))=D at hn hmem
 generalize hg:gU K X a (i:Int)=g at hNi
 by_cases ht:X i≠[95]∧X i∈nsO X P
 ·have hin:g∈D:=by
   have h1:=ht.2
   rw [hn] at h1
   obtain ⟨u,hu,e⟩:=List.mem_map.1 h1
   obtain ⟨j,hj,rfl,hne⟩:=hmem u hu
   rw [hNM j hj] at e
   rw [←hg,(gU_same hv hj).2 (.inr ⟨e.symm,ht.1⟩)]
   exact hu
  have e1:putS D g=D:=by unfold putS;rw [if_pos hin]
  rw [e1]
  have e2:nameS (X i) (nsO X P)=((nsO X P).idxOf (X i),nsO X P):=by unfold nameS;rw [if_pos ht]
  rw [e2]
  refine ⟨hn,?_⟩
  show (nsO X P).idxOf (X i)=_
  rw [hn]
  -- the place of a name is that of its number
  have hinj:∀u∈D,NM u=X i→u=g:=fun u hu e=>by
   obtain ⟨j,hj,rfl,hne⟩:=hmem u hu
   rw [hNM j hj] at e
   rw [←hg]
   exact ((gU_same hv hj).2 (.inr ⟨e.symm,ht.1⟩)).symm
  clear hn hmem e1 e2 ht hD
  induction D with
  | nil=>cases hin
  | cons u D ih =>
   rw [List.map_cons,List.idxOf_cons,List.idxOf_cons]
   by_cases hu:u=g
   ·rw [hu,hNi];simp
   ·have h1:NM u≠X i:=fun e=>hu (hinj u (by simp) e)
    have h2:g∈D:=by
     rcases List.mem_cons.1 hin with h|h
     ·exact absurd h.symm hu
     ·exact h
    rw [beq_eq_false_iff_ne.2 h1,beq_eq_false_iff_ne.2 hu]
    simp only [cond_false]
    rw [ih h2 fun w hw e=>hinj w (by simp [hw]) e]
 ·have hout:g∉D:=by
   intro h1
   obtain ⟨j,hj,e,hne⟩:=hmem g h1
   rw [←hg] at e
   rcases (gU_same hv hj).1 e with h2|⟨h2,h3⟩
   ·exact hne h2.symm
   ·refine ht ⟨h3,?_⟩
    rw [hn]
    exact List.mem_map.2 ⟨g,h1,hNi⟩
  have e1:putS D g=D++[g]:=by unfold putS;rw [if_neg hout]
  rw [e1]
  have e2:nameS (X i) (nsO X P)=((nsO X P).length,nsO X P++[X i]):=by unfold nameS;rw [if_neg ht]
  rw [e2]
  refine ⟨by rw [hn,List.map_append,List.map_cons,List.map_nil,hNi],?_⟩
  show (nsO X P).length=_
  rw [hn,List.length_map,List.idxOf_append,if_neg hout]
  simp
theorem nsO_all (NM:Int→List UInt8) (hNM:∀i:Nat,VTok K a i→NM (gU K X a (i:Int))=X i) (P:List Int):OkP K a P→nsO X P=(dedS (P.map (gU K X a))).map NM:=by
 suffices H:∀(n:Nat) (P:List Int),P.length=n→OkP K a P→nsO X P=(dedS (P.map (gU K X a))).map NM from H _ P rfl
 intro n
 induction n with
 | zero=>intro P hl _;rw [List.length_eq_zero_iff.1 hl];rfl
 | succ n ih =>
  intro P hl hP
  obtain ⟨Q,v,rfl⟩:∃Q v,P=Q++[v]:=⟨P.dropLast,P.getLast (by rintro rfl;simp at hl),(List.dropLast_concat_getLast _).symm⟩
  exact (nsO_ded NM hNM Q v hP (ih Q (by simpa using hl) hP.left)).1
mutual
def Tm.neat:Tm→Prop
 | .mk k n s _ _ a=>(k=0∧s.size=0∧a=[])∨(k=1∧s.size=0∧a=[])∨(k=2∧n=0∧neatL a)
def neatL:List Tm→Prop
 | []=>True
 | t :: r=>t.neat∧neatL r
end
theorem neatL_append (l m:List Tm):neatL (l++m)↔neatL l∧neatL m:=by
 induction l with
 | nil=>simp [neatL]
 | cons t r ih=>simp [neatL,ih,and_assoc]
theorem neatL_mem {l:List Tm} {t:Tm} (h:neatL l) (ht:t∈l):t.neat:=by
 induction l with
 | nil=>cases ht
 | cons x r ih =>
  rcases List.mem_cons.1 ht with rfl|h1
  ·exact h.1
  ·exact ih h.2 h1
mutual
def Tm.numP (X:Nat→List UInt8):Tm→List (List UInt8)→Tm×List (List UInt8)
 | .mk k n s A c a,ns=>if k=1 then (.mk k ((nameS (X n.toNat) ns).1:Int) s A c a,(nameS (X n.toNat) ns).2) else (.mk k n s A c (numPL X a ns).1,(numPL X a ns).2)
def numPL (X:Nat→List UInt8):List Tm→List (List UInt8)→List Tm×List (List UInt8)
 | [],ns=>([],ns)
 | t :: r,ns=>((t.numP X ns).1 :: (numPL X r (t.numP X ns).2).1,(numPL X r (t.numP X ns).2).2)
end
theorem numPL_append (X:Nat→List UInt8) (l m:List Tm) (ns:List (List UInt8)):numPL X (l++m) ns=((numPL X l ns).1++(numPL X m (numPL X l ns).2).1,(numPL X m (numPL X l ns).2).2):=by
 induction l generalizing ns with
 | nil=>rfl
 | cons t r ih=>simp only [List.cons_append,numPL,ih]
theorem numPL_len (X:Nat→List UInt8) (l:List Tm) (ns:List (List UInt8)):(numPL X l ns).1.length=l.length:=by
 induction l generalizing ns with
 | nil=>rfl
 | cons t r ih=>simp [numPL,ih]
theorem numP_ded (NM:Int→List UInt8) (hNM:∀i:Nat,VTok K a i→NM (gU K X a (i:Int))=X i) (V:List Int) :
  (∀t:Tm,t.neat→∀P,OkP K a (P++t.occ)→dedS ((P++t.occ).map (gU K X a)) <+: V→(t.numP X (nsO X P)).2=nsO X (P++t.occ)∧(t.numP X (nsO X P)).1.strip=t.num2 fun v=>placeS V (gU K X a v)) ∧
  (∀l,neatL l→∀P,OkP K a (P++occL l)→dedS ((P++occL l).map (gU K X a)) <+: V→(numPL X l (nsO X P)).2=nsO X (P++occL l)∧stripL (numPL X l (nsO X P)).1=numL2 (fun v=>placeS V (gU K X a v)) l):=by
 refine Tm.induct2 (fun k n s A c a' ih=>?_) (fun _ P _ _=>by simp [numPL,occL,stripL,numL2]) (fun t r h1 h2=>?_)
 ·intro h P hP hV
  rcases h with ⟨rfl,_,rfl⟩|⟨rfl,_,rfl⟩|⟨rfl,_,hn⟩
  ·simp [Tm.numP,numPL,Tm.occ,Tm.strip,stripL,Tm.num2,numL2]
  ·simp only [Tm.occ,if_true] at hP hV
   have hl:=nsO_all NM hNM P hP.left
   obtain ⟨e1,e2⟩:=nsO_ded NM hNM P n hP hl
   simp only [Tm.numP,if_true,Tm.strip,Tm.num2,stripL,numL2,Tm.occ]
   refine ⟨by rw [nsO_snoc],?_⟩
   have hin:gU K X a n∈dedS ((P++[n]).map (gU K X a)):=ded_mem.2 (by simp)
   rw [e2,place_in (hV.subset hin)]
   obtain ⟨z,rfl⟩:=hV
   rw [List.idxOf_append,if_pos hin]
  ·have e:Tm.occ (.mk 2 n s A c a')=occL a':=by simp [Tm.occ]
   rw [e] at hP hV ⊢
   obtain ⟨h1,h2⟩:=ih hn P hP hV
   simp only [Tm.numP,Tm.strip,Tm.num2,show ¬(2:Int)=1 by omega,if_false]
   exact ⟨h1,by rw [h2]⟩
 ·intro h P hP hV
  simp only [occL] at hP hV
  rw [←List.append_assoc] at hP hV
  have hV1:dedS ((P++t.occ).map (gU K X a)) <+: V:=by
   refine List.IsPrefix.trans ?_ hV
   rw [List.map_append (l₁:=P++t.occ),ded_append]
   exact fold_prefix _ _
  obtain ⟨e1,e2⟩:=h1 h.1 P hP.left hV1
  obtain ⟨e3,e4⟩:=h2 h.2 (P++t.occ) hP hV
  simp only [numPL,occL,stripL,numL2,e1,e2,e3,e4,List.append_assoc,and_self]
theorem num2_g_occ (g:Int→Int) (l:List Tm):(occL l).map g=occL (numL2 g l):=((num2_occ g).2 l).symm
theorem numPL_ref (NM:Int→List UInt8) (hNM:∀i:Nat,VTok K a i→NM (gU K X a (i:Int))=X i) (l:List Tm) (hn:neatL l) (ho:OkP K a (occL l)) :
  stripL (numPL X l []).1=numL2 (placeS (orderS (numL2 (gU K X a) l))) (numL2 (gU K X a) l)∧(numPL X l []).2=(orderS (numL2 (gU K X a) l)).map NM:=by
 have e:orderS (numL2 (gU K X a) l)=dedS ((occL l).map (gU K X a)):=by rw [num2_g_occ];rfl
 obtain ⟨h1,h2⟩:=(numP_ded NM hNM (orderS (numL2 (gU K X a) l))).2 l hn [] (by simpa using ho) (by rw [e];simp)
 rw [show nsO X []=[] from rfl,List.nil_append] at h1
 rw [show nsO X []=[] from rfl] at h2
 refine ⟨by rw [h2];exact (num2_num2.2 l).symm,by rw [h1,nsO_all NM hNM _ ho,e]⟩
end
end Go.Proofs.YtnghanpmmbcbbaaGreatDoor
namespace Go.Proofs.YtnghanpmmbcbbaaGreatDoor
open Go.RowKit
theorem ret_bool {a b:Bool} (h:a=b):Ending.returned (.bool a)=.returned (.bool b):=by rw [h]
theorem len_str (s:ByteArray):s.data.toList.length=s.size:=Array.length_toList
theorem low_at (x:UInt8) (w:World) {r:Bool} (h:lowB x=r) :
  Calls Tryz.prog 111 #[.int .u8 (x.toNat:Int)] w fun e w'=>e=.returned (.bool r)∧w=w':=by
 subst h
 by_cases h1:97≤x.toNat
 ·have h1':(97:Int)≤(x.toNat:Int):=by omega
  by_cases h2:x.toNat≤122
  ·have h2':(x.toNat:Int)≤122:=by omega
   have HV:=Lib.hid (show lowB x=true by simp only [lowB,h1,h2,and_self,decide_true])
   clear h1 h2
   go_enter Tryz.func111,Tryz.ntmps111
   go_wp2
   go_ret
   exact ⟨ret_bool (by rw [HV.out]),rfl⟩
  ·have h2':decide ((x.toNat:Int)≤122)=false:=by simp;omega
   have HV:=Lib.hid (show lowB x=false by simp only [lowB,h2,and_false,decide_false])
   clear h1 h2
   go_enter Tryz.func111,Tryz.ntmps111
   go_wp2
   go_ret
   exact ⟨ret_bool (by rw [HV.out]),rfl⟩
 ·have h1':decide ((97:Int)≤(x.toNat:Int))=false:=by simp;omega
  have HV:=Lib.hid (show lowB x=false by simp only [lowB,h1,false_and,decide_false])
  clear h1
  go_enter Tryz.func111,Tryz.ntmps111
  go_wp2
  go_ret
  exact ⟨ret_bool (by rw [HV.out]),rfl⟩
theorem upp_at (x:UInt8) (w:World) {r:Bool} (h:uppB x=r) :
  Calls Tryz.prog 149 #[.int .u8 (x.toNat:Int)] w fun e w'=>e=.returned (.bool r)∧w=w':=by
 subst h
 by_cases h1:65≤x.toNat
 ·have h1':(65:Int)≤(x.toNat:Int):=by omega
  by_cases h2:x.toNat≤90
  ·have h2':(x.toNat:Int)≤90:=by omega
   have HV:=Lib.hid (show uppB x=true by simp only [uppB,h1,h2,and_self,decide_true])
   clear h1 h2
   go_enter Tryz.func149,Tryz.ntmps149
   go_wp2
   go_ret
   exact ⟨ret_bool (by rw [HV.out]),rfl⟩
  ·have h2':decide ((x.toNat:Int)≤90)=false:=by simp;omega
   have HV:=Lib.hid (show uppB x=false by simp only [uppB,h2,and_false,decide_false])
   clear h1 h2
   go_enter Tryz.func149,Tryz.ntmps149
   go_wp2
   go_ret
   exact ⟨ret_bool (by rw [HV.out]),rfl⟩
 ·have h1':decide ((65:Int)≤(x.toNat:Int))=false:=by simp;omega
  have HV:=Lib.hid (show uppB x=false by simp only [uppB,h1,false_and,decide_false])
  clear h1
  go_enter Tryz.func149,Tryz.ntmps149
  go_wp2
  go_ret
  exact ⟨ret_bool (by rw [HV.out]),rfl⟩
theorem dig_at (x:UInt8) (w:World) {r:Bool} (h:digB x=r) :
  Calls Tryz.prog 150 #[.int .u8 (x.toNat:Int)] w fun e w'=>e=.returned (.bool r)∧w=w':=by
 subst h
 by_cases h1:48≤x.toNat
 ·have h1':(48:Int)≤(x.toNat:Int):=by omega
  by_cases h2:x.toNat≤57
  ·have h2':(x.toNat:Int)≤57:=by omega
   have HV:=Lib.hid (show digB x=true by simp only [digB,h1,h2,and_self,decide_true])
   clear h1 h2
   go_enter Tryz.func150,Tryz.ntmps150
   go_wp2
   go_ret
   exact ⟨ret_bool (by rw [HV.out]),rfl⟩
  ·have h2':decide ((x.toNat:Int)≤57)=false:=by simp;omega
   have HV:=Lib.hid (show digB x=false by simp only [digB,h2,and_false,decide_false])
   clear h1 h2
   go_enter Tryz.func150,Tryz.ntmps150
   go_wp2
   go_ret
   exact ⟨ret_bool (by rw [HV.out]),rfl⟩
 ·have h1':decide ((48:Int)≤(x.toNat:Int))=false:=by simp;omega
  have HV:=Lib.hid (show digB x=false by simp only [digB,h1,false_and,decide_false])
  clear h1
  go_enter Tryz.func150,Tryz.ntmps150
  go_wp2
  go_ret
  exact ⟨ret_bool (by rw [HV.out]),rfl⟩
end Go.Proofs.YtnghanpmmbcbbaaGreatDoor
namespace Go.Proofs.YtnghanpmmbcbbaaGreatDoor
open Go.RowKit
theorem take_next {s:ByteArray} {k:Nat} (h:k < s.size):s.data.toList.take (k+1)=s.data.toList.take k++[s[k]]:=by
 rw [List.take_succ_eq_append_getElem (by simpa using h)];rfl
theorem all_next {s:ByteArray} {k:Nat} (h:k < s.size) (ha:∀c∈s.data.toList.take k,inB c=true) (hc:inB s[k]=true):∀c∈s.data.toList.take (k+1),inB c=true:=by
 intro c hm
 rw [take_next h] at hm
 rcases List.mem_append.1 hm with h1|h1
 ·exact ha c h1
 ·obtain rfl:=List.mem_singleton.1 h1
  exact hc
theorem word_stop {s:ByteArray} {k:Nat} (h:k < s.size) (hc:inB s[k]=false):wordB s.data.toList=false:=by
 cases hw:wordB s.data.toList
 ·rfl
 ·have:=((wordB_iff _).1 hw).2.2 s[k] (List.getElem_mem (l:=s.data.toList) (n:=k) (by simpa using h))
  rw [this] at hc
  cases hc
theorem word_end {s:ByteArray} (h1:1≤s.size) (h2:s.size≤40) (ha:∀c∈s.data.toList.take s.size,inB c=true):wordB s.data.toList=true:=by
 rw [wordB_iff,len_str]
 refine ⟨h1,h2,fun c hc=>ha c ?_⟩
 rw [List.take_of_length_le (by rw [len_str];omega)]
 exact hc
theorem word_short {s:ByteArray} (h:s.size < 1):wordB s.data.toList=false:=by
 cases hw:wordB s.data.toList
 ·rfl
 ·have:=((wordB_iff _).1 hw).1
  rw [len_str] at this
  omega
theorem word_long {s:ByteArray} (h:40 < s.size):wordB s.data.toList=false:=by
 cases hw:wordB s.data.toList
 ·rfl
 ·have:=((wordB_iff _).1 hw).2.1
  rw [len_str] at this
  omega
set_option maxRecDepth 100000 in
set_option maxHeartbeats 1000000 in
theorem word_at (s:ByteArray) (w:World) (hs:s.size≤9223372036854775807) {r:Bool} (hr:wordB s.data.toList=r) :
  Calls Tryz.prog 110 #[.string s] w fun e w'=>e=.returned (.bool r)∧w=w':=by
 subst hr
 by_cases h1:s.size < 1
 ·have h1':((s.size:Nat):Int) < 1:=by omega
  have HV:=Lib.hid (word_short h1)
  clear h1
  go_enter Tryz.func110,Tryz.ntmps110
  go_wp2
  go_ret
  exact ⟨ret_bool (by rw [HV.out]),rfl⟩
 by_cases h2:40 < s.size
 ·have h1':decide (((s.size:Nat):Int) < 1)=false:=by simp;omega
  have h2':(40:Int) < ((s.size:Nat):Int):=by omega
  have HV:=Lib.hid (word_long h2)
  clear h1 h2
  go_enter Tryz.func110,Tryz.ntmps110
  go_wp2
  go_ret
  exact ⟨ret_bool (by rw [HV.out]),rfl⟩
 have h1':decide (((s.size:Nat):Int) < 1)=false:=by simp;omega
 have h2':decide ((40:Int) < ((s.size:Nat):Int))=false:=by simp;omega
 have H1:=Lib.hid (show 1≤s.size by omega)
 have H2:=Lib.hid (show s.size≤40 by omega)
 clear h1 h2
 go_enter Tryz.func110,Tryz.ntmps110
 go_wp2
 go_loop [14] (fun i=>∃k:Nat,k≤s.size∧i=.int .i64 (k:Int)∧Hid (∀c∈s.data.toList.take k,inB c=true)) (fun i=>s.size - (intOf i).toNat)
 case atStart=>exact ⟨0,Nat.zero_le _,rfl,fun c hc=>by simp at hc⟩
 case round =>
  obtain ⟨k,hk,rfl,ha⟩:=hrel
  by_cases hlt:k < s.size
  ·obtain ⟨b1,hb1⟩:∃b,lowB s[k]=b:=⟨_,rfl⟩
   obtain ⟨b2,hb2⟩:∃b,uppB s[k]=b:=⟨_,rfl⟩
   obtain ⟨b3,hb3⟩:∃b,digB s[k]=b:=⟨_,rfl⟩
   have HI:=Lib.hid (show inB s[k]=(b1||b2||b3||undB s[k]) by unfold inB;rw [hb1,hb2,hb3])
   have q1:=Lib.hid hb1
   have q2:=Lib.hid hb2
   have q3:=Lib.hid hb3
   clear hb1 hb2 hb3
   cases b1
   ·cases b2
    ·cases b3
     ·by_cases h4:s[k].toNat=95
      ·have h4':((s[k].toNat:Int) != 95)=false:=by simp;omega
       have HN:=Lib.hid (all_next hlt ha.out (by rw [HI.out];simp only [undB,h4,decide_true,Bool.or_true]))
       clear h4
       go_wp2_with (first|(go_at_call 111;refine (low_at _ _ q1).mono ?_;rintro e w' ⟨rfl,rfl⟩)|(go_at_call 149;refine (upp_at _ _ q2).mono ?_;rintro e w' ⟨rfl,rfl⟩)|(go_at_call 150;refine (dig_at _ _ q3).mono ?_;rintro e w' ⟨rfl,rfl⟩))
       go_round
       case rel=>exact ⟨k+1,by omega,by go_num,HN.out⟩
       case measure=>simp [intOf];omega
      ·have h4':((s[k].toNat:Int) != 95)=true:=by simp;omega
       have HN:=Lib.hid (word_stop hlt (by rw [HI.out];simp only [undB,h4,decide_false,Bool.or_false]))
       clear h4
       go_wp2_with (first|(go_at_call 111;refine (low_at _ _ q1).mono ?_;rintro e w' ⟨rfl,rfl⟩)|(go_at_call 149;refine (upp_at _ _ q2).mono ?_;rintro e w' ⟨rfl,rfl⟩)|(go_at_call 150;refine (dig_at _ _ q3).mono ?_;rintro e w' ⟨rfl,rfl⟩))
       go_ret
       exact ⟨ret_bool (by rw [HN.out]),rfl⟩
     ·have HN:=Lib.hid (all_next hlt ha.out (by rw [HI.out];simp))
      go_wp2_with (first|(go_at_call 111;refine (low_at _ _ q1).mono ?_;rintro e w' ⟨rfl,rfl⟩)|(go_at_call 149;refine (upp_at _ _ q2).mono ?_;rintro e w' ⟨rfl,rfl⟩)|(go_at_call 150;refine (dig_at _ _ q3).mono ?_;rintro e w' ⟨rfl,rfl⟩))
      go_round
      case rel=>exact ⟨k+1,by omega,by go_num,HN.out⟩
      case measure=>simp [intOf];omega
    ·have HN:=Lib.hid (all_next hlt ha.out (by rw [HI.out];simp))
     go_wp2_with (first|(go_at_call 111;refine (low_at _ _ q1).mono ?_;rintro e w' ⟨rfl,rfl⟩)|(go_at_call 149;refine (upp_at _ _ q2).mono ?_;rintro e w' ⟨rfl,rfl⟩)|(go_at_call 150;refine (dig_at _ _ q3).mono ?_;rintro e w' ⟨rfl,rfl⟩))
     go_round
     case rel=>exact ⟨k+1,by omega,by go_num,HN.out⟩
     case measure=>simp [intOf];omega
   ·have HN:=Lib.hid (all_next hlt ha.out (by rw [HI.out];simp))
    go_wp2_with (first|(go_at_call 111;refine (low_at _ _ q1).mono ?_;rintro e w' ⟨rfl,rfl⟩)|(go_at_call 149;refine (upp_at _ _ q2).mono ?_;rintro e w' ⟨rfl,rfl⟩)|(go_at_call 150;refine (dig_at _ _ q3).mono ?_;rintro e w' ⟨rfl,rfl⟩))
    go_round
    case rel=>exact ⟨k+1,by omega,by go_num,HN.out⟩
    case measure=>simp [intOf];omega
  ·obtain rfl:k=s.size:=by omega
   have HN:=Lib.hid (word_end H1.out H2.out ha.out)
   go_wp2
   go_ret
   exact ⟨ret_bool (by rw [HN.out]),rfl⟩
end Go.Proofs.YtnghanpmmbcbbaaGreatDoor
namespace Go.Proofs.YtnghanpmmbcbbaaGreatDoor
open Go.RowKit
end Go.Proofs.YtnghanpmmbcbbaaGreatDoor
namespace Go.Proofs.YtnghanpmmbcbbaaGreatDoor
open Go.RowKit
theorem raw_list (s:ByteArray):s.toList=s.data.toList:=ByteArray.toList_eq s
theorem str_of {s:ByteArray} {l:List UInt8} (h:s.data.toList=l):s=⟨l.toArray⟩:=by
 subst h
 rfl
theorem raw_ne {s:ByteArray} {l:List UInt8} (h:s.data.toList≠l):(s.toList==l)=false:=by
 rw [raw_list]
 simpa using h
set_option maxHeartbeats 1000000 in
theorem op_at (s:ByteArray) (w:World) {r:Bool} (hr:opB s.data.toList=r) :
  Calls Tryz.prog 167 #[.string s] w fun e w'=>e=.returned (.bool r)∧w=w':=by
 by_cases h0:s.data.toList=[43]
 ·obtain rfl:=str_of h0
  obtain rfl:true=r:=by rw [←hr];decide
  clear h0 hr
  go_enter Tryz.func167,Tryz.ntmps167
  go_wp2
  go_ret
  exact ⟨rfl,rfl⟩
 by_cases h1:s.data.toList=[45]
 ·obtain rfl:=str_of h1
  obtain rfl:true=r:=by rw [←hr];decide
  clear h0 h1 hr
  go_enter Tryz.func167,Tryz.ntmps167
  go_wp2
  go_ret
  exact ⟨rfl,rfl⟩
 by_cases h2:s.data.toList=[42]
 ·obtain rfl:=str_of h2
  obtain rfl:true=r:=by rw [←hr];decide
  clear h0 h1 h2 hr
  go_enter Tryz.func167,Tryz.ntmps167
  go_wp2
  go_ret
  exact ⟨rfl,rfl⟩
 by_cases h3:s.data.toList=[47]
 ·obtain rfl:=str_of h3
  obtain rfl:true=r:=by rw [←hr];decide
  clear h0 h1 h2 h3 hr
  go_enter Tryz.func167,Tryz.ntmps167
  go_wp2
  go_ret
  exact ⟨rfl,rfl⟩
 by_cases h4:s.data.toList=[37]
 ·obtain rfl:=str_of h4
  obtain rfl:true=r:=by rw [←hr];decide
  clear h0 h1 h2 h3 h4 hr
  go_enter Tryz.func167,Tryz.ntmps167
  go_wp2
  go_ret
  exact ⟨rfl,rfl⟩
 obtain rfl:false=r:=by
  rw [←hr]
  simp only [opB,operators,List.mem_cons,List.not_mem_nil,or_false,h0,h1,h2,h3,h4,decide_false]
 have n0:=raw_ne h0
 have n1:=raw_ne h1
 have n2:=raw_ne h2
 have n3:=raw_ne h3
 have n4:=raw_ne h4
 clear h0 h1 h2 h3 h4 hr
 go_enter Tryz.func167,Tryz.ntmps167
 go_wp2
 go_ret
 exact ⟨rfl,rfl⟩
set_option maxHeartbeats 1000000 in
theorem res_at (s:ByteArray) (w:World) {r:Bool} (hr:resB s.data.toList=r) :
  Calls Tryz.prog 112 #[.string s] w fun e w'=>e=.returned (.bool r)∧w=w':=by
 by_cases h0:s.data.toList=[99,111,110,115,116,114,97,105,110,116]
 ·obtain rfl:=str_of h0
  obtain rfl:true=r:=by rw [←hr];decide
  clear h0 hr
  go_enter Tryz.func112,Tryz.ntmps112
  go_wp2
  go_ret
  exact ⟨rfl,rfl⟩
 by_cases h1:s.data.toList=[116,114,117,101]
 ·obtain rfl:=str_of h1
  obtain rfl:true=r:=by rw [←hr];decide
  clear h0 h1 hr
  go_enter Tryz.func112,Tryz.ntmps112
  go_wp2
  go_ret
  exact ⟨rfl,rfl⟩
 by_cases h2:s.data.toList=[102,97,105,108]
 ·obtain rfl:=str_of h2
  obtain rfl:true=r:=by rw [←hr];decide
  clear h0 h1 h2 hr
  go_enter Tryz.func112,Tryz.ntmps112
  go_wp2
  go_ret
  exact ⟨rfl,rfl⟩
 by_cases h3:s.data.toList=[105,115]
 ·obtain rfl:=str_of h3
  obtain rfl:true=r:=by rw [←hr];decide
  clear h0 h1 h2 h3 hr
  go_enter Tryz.func112,Tryz.ntmps112
  go_wp2
  go_ret
  exact ⟨rfl,rfl⟩
 by_cases h4:s.data.toList=[105,110,116]
 ·obtain rfl:=str_of h4
  obtain rfl:true=r:=by rw [←hr];decide
  clear h0 h1 h2 h3 h4 hr
  go_enter Tryz.func112,Tryz.ntmps112
  go_wp2
  go_ret
  exact ⟨rfl,rfl⟩
 by_cases h5:s.data.toList=[103,114,111,117,110,100]
 ·obtain rfl:=str_of h5
  obtain rfl:true=r:=by rw [←hr];decide
  clear h0 h1 h2 h3 h4 h5 hr
  go_enter Tryz.func112,Tryz.ntmps112
  go_wp2
  go_ret
  exact ⟨rfl,rfl⟩
 obtain rfl:false=r:=by
  rw [←hr]
  simp only [resB,reserved,List.mem_cons,List.not_mem_nil,or_false,h0,h1,h2,h3,h4,h5,decide_false]
 have n0:=raw_ne h0
 have n1:=raw_ne h1
 have n2:=raw_ne h2
 have n3:=raw_ne h3
 have n4:=raw_ne h4
 have n5:=raw_ne h5
 clear h0 h1 h2 h3 h4 h5 hr
 go_enter Tryz.func112,Tryz.ntmps112
 go_wp2
 go_ret
 exact ⟨rfl,rfl⟩
end Go.Proofs.YtnghanpmmbcbbaaGreatDoor
