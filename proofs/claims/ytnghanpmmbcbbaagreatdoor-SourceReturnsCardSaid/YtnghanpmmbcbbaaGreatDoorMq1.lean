/-
  NmPlain.
  TkPlain.
  TkJoin.
 TkGap.
 TkRest.
 TmPlain.
-/
import Derived.Lib.ItoaNum
import Derived.Lib.AtoiAllCases
import Derived.Lib.Strings
namespace Go.Proofs.YtnghanpmmbcbbaaGreatDoor
open Go
def lowB (c:UInt8):Bool:=decide (97≤c.toNat∧c.toNat≤122)
def uppB (c:UInt8):Bool:=decide (65≤c.toNat∧c.toNat≤90)
def digB (c:UInt8):Bool:=decide (48≤c.toNat∧c.toNat≤57)
def undB (c:UInt8):Bool:=decide (c.toNat=95)
def inB (c:UInt8):Bool:=lowB c||uppB c||digB c||undB c
def wordB (l:List UInt8):Bool:=decide (1≤l.length)&&(decide (l.length≤40)&&l.all inB)
def reserved:List (List UInt8):=[[99,111,110,115,116,114,97,105,110,116],[116,114,117,101],[102,97,105,108],[105,115],[105,110,116],[103,114,111,117,110,100]]
def operators:List (List UInt8):=[[43],[45],[42],[47],[37]]
def resB (l:List UInt8):Bool:=decide (l∈reserved)
def opB (l:List UInt8):Bool:=decide (l∈operators)
def rightB (l:List UInt8):Bool:=wordB l&&(lowB (l.getD 0 0) && !resB l)
def varB (l:List UInt8):Bool:=wordB l&&(uppB (l.getD 0 0)||undB (l.getD 0 0))
theorem wordB_iff (l:List UInt8):wordB l=true↔1≤l.length∧l.length≤40∧∀c∈l,inB c=true:=by
 simp [wordB]
theorem right_res {l:List UInt8} (h:rightB l=true):resB l=false:=by
 simp only [rightB,Bool.and_eq_true,Bool.not_eq_true'] at h
 exact h.2.2
theorem op_word {l:List UInt8} (h:opB l=true):wordB l=false∧resB l=false:=by
 simp only [opB,operators,List.mem_cons,List.not_mem_nil,or_false,decide_eq_true_eq] at h
 rcases h with rfl|rfl|rfl|rfl|rfl<;>decide
theorem op_right {l:List UInt8} (h:opB l=true):rightB l=false∧varB l=false∧resB l=false:=by
 obtain ⟨h1,h2⟩:=op_word h
 simp [rightB,varB,h1,h2]
theorem right_op {l:List UInt8} (h:rightB l=true):opB l=false:=by
 cases ho:opB l
 ·rfl
 ·rw [(op_right ho).1] at h;cases h
theorem dec_small {n:Nat} (h:n < 10):Lib.decDigits n=[UInt8.ofNat (48+n)]:=by rw [Lib.decDigits,dif_pos h]
theorem dec_big {n:Nat} (h:¬n < 10):Lib.decDigits n=Lib.decDigits (n / 10)++[UInt8.ofNat (48+n % 10)]:=by rw [Lib.decDigits,dif_neg h]
theorem digit_nat {d:Nat} (h:d < 10):(UInt8.ofNat (48+d)).toNat=48+d:=by
 simp only [UInt8.toNat_ofNat'];omega
theorem dec_digit (n:Nat):∀c∈Lib.decDigits n,48≤c.toNat∧c.toNat≤57:=by
 induction n using Nat.strongRecOn with
 | _ n ih =>
  intro c hc
  by_cases h:n < 10
  ·rw [dec_small h] at hc
   obtain rfl:=List.mem_singleton.1 hc
   rw [digit_nat h];omega
  ·rw [dec_big h] at hc
   rcases List.mem_append.1 hc with h1|h1
   ·exact ih (n / 10) (by omega) c h1
   ·obtain rfl:=List.mem_singleton.1 h1
    rw [digit_nat (by omega)];omega
theorem dec_len (n:Nat):1≤(Lib.decDigits n).length:=by rw [Lib.decDigits_length];exact Lib.nDigits_pos n
theorem dec_len7 {n:Nat} (h:n≤1048576):(Lib.decDigits n).length≤7:=by
 rw [Lib.decDigits_length]
 suffices H:∀k m:Nat,m < 10 ^ (k+1)→Lib.nDigits m≤k+1 from H 6 n (by omega)
 intro k
 induction k with
 | zero=>intro m hm;rw [Lib.nDigits_small (by simpa using hm)];omega
 | succ k ih =>
  intro m hm
  by_cases h:m < 10
  ·rw [Lib.nDigits_small h];omega
  ·rw [Lib.nDigits_big h]
   have:=ih (m / 10) (by rw [Nat.pow_succ] at hm;omega)
   omega
def spell (l:List UInt8):Nat:=l.foldl (fun a c=>10*a+(c.toNat - 48)) 0
theorem spell_snoc (l:List UInt8) (c:UInt8):spell (l++[c])=10*spell l+(c.toNat - 48):=by simp [spell]
theorem spell_dec (n:Nat):spell (Lib.decDigits n)=n:=by
 induction n using Nat.strongRecOn with
 | _ n ih =>
  by_cases h:n < 10
  ·rw [dec_small h]
   show 10*0+((UInt8.ofNat (48+n)).toNat - 48)=n
   rw [digit_nat h];omega
  ·rw [dec_big h,spell_snoc,ih (n / 10) (by omega),digit_nat (by omega)];omega
def label (n:Nat):List UInt8:=86 :: Lib.decDigits n
theorem label_inj {n m:Nat} (h:label n=label m):n=m:=by
 unfold label at h
 injection h with _ h
 rw [←spell_dec n,h,spell_dec]
theorem label_len {n:Nat} (h:n≤1048576):2≤(label n).length∧(label n).length≤8:=by
 have h1:=dec_len n
 have h2:=dec_len7 h
 simp only [label,List.length_cons]
 omega
theorem label_var {n:Nat} (h:n≤1048576):varB (label n)=true:=by
 have h1:=label_len h
 have hw:wordB (label n)=true:=by
  rw [wordB_iff]
  refine ⟨by omega,by omega,fun c hc=>?_⟩
  rcases List.mem_cons.1 hc with rfl|hc
  ·decide
  ·have:=dec_digit n c hc
   simp only [inB,digB,this,and_self,decide_true,Bool.or_true,Bool.true_or]
 simp only [varB,hw,Bool.true_and]
 rfl
def IsLabel (l:List UInt8) (n:Nat):Prop:=n≤1048576∧l=label n
def NoLabel (l:List UInt8):Prop:=∀n,n≤1048576→l≠label n
end Go.Proofs.YtnghanpmmbcbbaaGreatDoor
namespace Go.Proofs.YtnghanpmmbcbbaaGreatDoor
open Go
def spcB (c:UInt8):Bool:=c==32||c==9||c==10||c==13
def gap:Bool→List UInt8→List UInt8
 | _,[]=>[]
 | false,c :: r=>if spcB c=true then gap false r else if c=35 then gap true r else c :: r
 | true,c :: r=>if c=10 then gap false r else gap true r
def syms:List (List UInt8):=[[64],[44],[46],[40],[41],[124],[47],[92],[43],[45],[42],[37],[61],[61,61],[92,61],[60],[61,60],[62],[62,61],[61,58,61],[61,92,61],[60,61,62],[61,61,62]]
def symStep (l b x:List UInt8):List UInt8:=if (x.isPrefixOf l&&decide (b.length < x.length))=true then x else b
def symP (l:List UInt8):List UInt8:=syms.foldl (symStep l) []
def valD (l:List UInt8):Int:=l.foldl (fun n c=>min (n*10+(c.toNat - 48:Int)) 2147483649) 0
def tokL (l:List UInt8):Int×List UInt8×Int :=
 match l with
 | []=>(0,[],0)
 | c :: _ =>
  if (lowB c||(uppB c||undB c))=true then
   if 40 < (l.takeWhile inB).length then (0,[],7) else (if lowB c=true then 1 else 2,l.takeWhile inB,0)
  else if digB c=true then
   if 2147483648 < valD (l.takeWhile digB) then (0,[],5) else (3,l.takeWhile digB,0)
  else if symP l=[] then (0,[],16) else (4,symP l,0)
def scanL:Nat→List UInt8→List (Int×Nat×List UInt8)×Nat×Int
 | 0,_=>([],0,0)
 | n+1,l =>
  let g:=gap false l
  let t:=tokL g
  if t.2.2≠0 then ([],g.length,t.2.2)
  else if t.1=0 then ([(0,g.length,[])],0,0)
  else
   let s:=scanL n (g.drop t.2.1.length)
   if s.2.2≠0 then s else ((t.1,g.length,t.2.1) :: s.1,0,0)
theorem symStep_cases (l b x:List UInt8):(symStep l b x=x∧x <+: l∧b.length < x.length)∨(symStep l b x=b∧¬(x <+: l∧b.length < x.length)):=by
 unfold symStep
 by_cases h:(x.isPrefixOf l&&decide (b.length < x.length))=true
 ·rw [if_pos h]
  simp only [Bool.and_eq_true,List.isPrefixOf_iff_prefix,decide_eq_true_eq] at h
  exact .inl ⟨rfl,h⟩
 ·rw [if_neg h]
  simp only [Bool.and_eq_true,List.isPrefixOf_iff_prefix,decide_eq_true_eq] at h
  exact .inr ⟨rfl,h⟩
theorem symF_facts (l:List UInt8):∀(L:List (List UInt8)) (b:List UInt8),(L.foldl (symStep l) b=b∨(L.foldl (symStep l) b∈L∧L.foldl (symStep l) b <+: l))∧b.length≤(L.foldl (symStep l) b).length∧∀x∈L,x <+: l→x.length≤(L.foldl (symStep l) b).length:=by
 intro L
 induction L with
 | nil=>intro b;simp
 | cons y L ih =>
  intro b
  obtain ⟨h1,h2,h3⟩:=ih (symStep l b y)
  rw [List.foldl_cons]
  rcases symStep_cases l b y with ⟨e,hp,hl⟩|⟨e,hn⟩
  ·rw [e] at h1 h2 h3 ⊢
   refine ⟨.inr ?_,by omega,fun x hx hxl=>?_⟩
   ·rcases h1 with h1|h1
    ·rw [h1];exact ⟨by simp,hp⟩
    ·exact ⟨List.mem_cons_of_mem _ h1.1,h1.2⟩
   ·rcases List.mem_cons.1 hx with rfl|hx
    ·exact h2
    ·exact h3 x hx hxl
  ·rw [e] at h1 h2 h3 ⊢
   refine ⟨?_,h2,fun x hx hxl=>?_⟩
   ·rcases h1 with h1|h1
    ·exact .inl h1
    ·exact .inr ⟨List.mem_cons_of_mem _ h1.1,h1.2⟩
   ·rcases List.mem_cons.1 hx with rfl|hx
    ·by_cases h:b.length < x.length
     ·exact absurd ⟨hxl,h⟩ hn
     ·omega
    ·exact h3 x hx hxl
theorem symP_facts (l:List UInt8):(symP l=[]∨symP l∈syms)∧symP l <+: l∧∀x∈syms,x <+: l→x.length≤(symP l).length:=by
 obtain ⟨h1,_,h3⟩:=symF_facts l syms []
 refine ⟨h1.imp id (·.1),?_,h3⟩
 rcases h1 with h1|h1
 ·unfold symP;rw [h1];exact List.nil_prefix
 ·exact h1.2
theorem symP_unique {l x:List UInt8} (hx:x∈syms) (hp:x <+: l) (hm:∀y∈syms,y <+: l→y.length≤x.length):symP l=x:=by
 obtain ⟨h1,h2,h3⟩:=symP_facts l
 have h4:=h3 x hx hp
 have hx0:0 < x.length:=(show ∀y∈syms,0 < y.length by decide) x hx
 have h5:symP l∈syms:=h1.resolve_left fun e=>by
  rw [e] at h4
  simp only [List.length_nil] at h4
  omega
 have h6:=hm _ h5 h2
 have h7:(symP l).length=x.length:=by omega
 rw [List.prefix_iff_eq_take] at h2 hp
 rw [h2,hp,h7]
def symByteB (c:UInt8):Bool := !spcB c&&(c != 35&&(!lowB c&&(!uppB c&&(!undB c && !digB c))))
theorem sym_bytes (x:List UInt8) (hx:x∈syms) (c:UInt8) (hc:c∈x):spcB c=false∧c≠35∧lowB c=false∧uppB c=false∧undB c=false∧digB c=false:=by
 have h:=List.all_eq_true.1 (List.all_eq_true.1 (show (syms.all fun x=>x.all symByteB)=true by decide) x hx) c hc
 simpa [symByteB] using h
theorem pre_of {x t r:List UInt8} {c:UInt8} (h:x <+: t++c :: r) (hc:c∉x):x <+: t:=by
 rcases Nat.lt_or_ge t.length x.length with h1|h1
 ·exact absurd (by
   obtain ⟨s,hs⟩:=h
   have h2:(x++s)[t.length]?=some c:=by rw [hs];simp
   rw [List.getElem?_append_left h1] at h2
   exact List.mem_of_getElem? h2) hc
 ·exact (List.prefix_append_right_inj []).1 (by simpa using List.prefix_of_prefix_length_le h (List.prefix_append t (c :: r)) h1)
theorem symP_sep {l r:List UInt8} {c:UInt8} (h:symP l≠[]) (hc:spcB c=true):symP (symP l++c :: r)=symP l:=by
 obtain ⟨h1,h2,h3⟩:=symP_facts l
 have h4:=h1.resolve_left h
 refine symP_unique h4 (List.prefix_append _ _) fun y hy hp=>?_
 have h5:y <+: symP l:=pre_of hp fun hm=>by
  have:=(sym_bytes y hy c hm).1
  rw [hc] at this;cases this
 exact h5.length_le
theorem take_sep {k:UInt8→Bool} {l r:List UInt8} {c:UInt8} (hc:k c=false):(l.takeWhile k++c :: r).takeWhile k=l.takeWhile k:=by
 induction l with
 | nil=>simp [hc]
 | cons x l ih =>
  by_cases hx:k x=true
  ·simp [hx,ih]
  ·simp [hx,hc]
theorem spc_out {c:UInt8} (h:spcB c=true):inB c=false∧digB c=false:=by
 simp only [spcB,Bool.or_eq_true,beq_iff_eq] at h
 rcases h with ((rfl|rfl)|rfl)|rfl<;>decide
theorem tok_again {l r t:List UInt8} {k:Int} {c:UInt8} (h:tokL l=(k,t,0)) (hk:k≠0) (hc:spcB c=true):tokL (t++c :: r)=(k,t,0)∧∃x s,t=x :: s∧spcB x=false∧x≠35:=by
 obtain ⟨o1,o2⟩:=spc_out hc
 cases l with
 | nil=>simp only [tokL,Prod.mk.injEq] at h;exact absurd h.1.symm hk
 | cons a l =>
  unfold tokL at h
  simp only at h
  by_cases hw:(lowB a||(uppB a||undB a))=true
  ·have hi:inB a=true:=by
    simp only [Bool.or_eq_true] at hw
    simp only [inB,Bool.or_eq_true]
    rcases hw with h|h|h
    ·exact .inl (.inl (.inl h))
    ·exact .inl (.inl (.inr h))
    ·exact .inr h
   rw [if_pos hw] at h
   by_cases hn:40 < ((a :: l).takeWhile inB).length
   ·rw [if_pos hn] at h;simp only [Prod.mk.injEq] at h;exact absurd h.2.2 (by decide)
   ·rw [if_neg hn] at h
    simp only [Prod.mk.injEq] at h
    obtain ⟨h1,rfl,_⟩:=h
    have e:(a :: l).takeWhile inB=a :: l.takeWhile inB:=by simp [hi]
    refine ⟨?_,a,l.takeWhile inB,e,?_⟩
    ·have h2:=take_sep (l:=a :: l) (r:=r) o1
     rw [e] at h2 hn ⊢
     unfold tokL
     simp only [List.cons_append] at h2 ⊢
     rw [if_pos hw,h2,if_neg hn,h1]
    ·refine ⟨?_,?_⟩
     ·cases hs:spcB a with
      | false=>rfl
      | true=>rw [(spc_out hs).1] at hi;cases hi
     ·rintro rfl;exact absurd hi (by decide)
  ·rw [if_neg hw] at h
   by_cases hd:digB a=true
   ·rw [if_pos hd] at h
    by_cases hn:2147483648 < valD ((a :: l).takeWhile digB)
    ·rw [if_pos hn] at h;simp only [Prod.mk.injEq] at h;exact absurd h.2.2 (by decide)
    ·rw [if_neg hn] at h
     simp only [Prod.mk.injEq] at h
     obtain ⟨h1,rfl,_⟩:=h
     have e:(a :: l).takeWhile digB=a :: l.takeWhile digB:=by simp [hd]
     refine ⟨?_,a,l.takeWhile digB,e,?_⟩
     ·have h2:=take_sep (l:=a :: l) (r:=r) o2
      rw [e] at h2 hn ⊢
      unfold tokL
      simp only [List.cons_append] at h2 ⊢
      rw [if_neg hw,if_pos hd,h2,if_neg hn,h1]
     ·refine ⟨?_,?_⟩
      ·cases hs:spcB a with
       | false=>rfl
       | true=>rw [(spc_out hs).2] at hd;cases hd
      ·rintro rfl;exact absurd hd (by decide)
   ·rw [if_neg hd] at h
    by_cases hs:symP (a :: l)=[]
    ·rw [if_pos hs] at h;simp only [Prod.mk.injEq] at h;exact absurd h.2.2 (by decide)
    ·rw [if_neg hs] at h
     simp only [Prod.mk.injEq] at h
     obtain ⟨h1,rfl,_⟩:=h
     have hm:=(symP_facts (a :: l)).1.resolve_left hs
     obtain ⟨x,s,e⟩:∃x s,symP (a :: l)=x :: s:=by
      cases he:symP (a :: l) with
      | nil=>exact absurd he hs
      | cons x s=>exact ⟨x,s,rfl⟩
     obtain ⟨b1,b2,b3,b4,b5,b6⟩:=sym_bytes _ hm x (by rw [e];simp)
     refine ⟨?_,x,s,e,b1,b2⟩
     have h2:=symP_sep (r:=r) hs hc
     rw [e] at h2 ⊢
     unfold tokL
     simp only [List.cons_append] at h2 ⊢
     rw [h2,if_neg (by rw [b3,b4,b5];decide),if_neg (by rw [b6];decide),if_neg (by simp),h1]
theorem gap_stop {x:UInt8} {s:List UInt8} (h1:spcB x=false) (h2:x≠35):gap false (x :: s)=x :: s:=by
 simp [gap,h1,h2]
theorem gap_spc {c:UInt8} {s:List UInt8} (h:spcB c=true):gap false (c :: s)=gap false s:=by
 simp [gap,h]
def SepOk (sep:List UInt8):Prop:=∃c q,sep=c :: q∧spcB c=true∧∀s,gap false (q++s)=gap false s
def Toks:List (Int×Nat×List UInt8)→Prop
 | []=>True
 | t :: ts=>(t.1≠0→∃l,tokL l=(t.1,t.2.2,0))∧(t.1=0→t.2.2=[])∧Toks ts
end Go.Proofs.YtnghanpmmbcbbaaGreatDoor
namespace Go.Proofs.YtnghanpmmbcbbaaGreatDoor
open Go
theorem gap_suffix:∀(b:Bool) (l:List UInt8),gap b l <:+ l
 | b,[]=>by cases b<;>simp [gap]
 | false,c :: r=>by
  unfold gap
  split
  ·exact (gap_suffix false r).trans (List.suffix_cons c r)
  ·split
   ·exact (gap_suffix true r).trans (List.suffix_cons c r)
   ·exact List.suffix_refl _
 | true,c :: r=>by
  unfold gap
  split
  ·exact (gap_suffix false r).trans (List.suffix_cons c r)
  ·exact (gap_suffix true r).trans (List.suffix_cons c r)
theorem tok_cons {a:UInt8} {l t:List UInt8} {k:Int} (h:tokL (a :: l)=(k,t,0)):k≠0∧t <+: a :: l:=by
 unfold tokL at h
 simp only at h
 by_cases hw:(lowB a||(uppB a||undB a))=true
 ·rw [if_pos hw] at h
  by_cases hn:40 < ((a :: l).takeWhile inB).length
  ·rw [if_pos hn] at h;simp only [Prod.mk.injEq] at h;exact absurd h.2.2 (by decide)
  ·rw [if_neg hn] at h
   simp only [Prod.mk.injEq] at h
   refine ⟨?_,by rw [←h.2.1];exact List.takeWhile_prefix _⟩
   rw [←h.1]
   split<;>decide
 ·rw [if_neg hw] at h
  by_cases hd:digB a=true
  ·rw [if_pos hd] at h
   by_cases hn:2147483648 < valD ((a :: l).takeWhile digB)
   ·rw [if_pos hn] at h;simp only [Prod.mk.injEq] at h;exact absurd h.2.2 (by decide)
   ·rw [if_neg hn] at h
    simp only [Prod.mk.injEq] at h
    exact ⟨by rw [←h.1];decide,by rw [←h.2.1];exact List.takeWhile_prefix _⟩
  ·rw [if_neg hd] at h
   by_cases hs:symP (a :: l)=[]
   ·rw [if_pos hs] at h;simp only [Prod.mk.injEq] at h;exact absurd h.2.2 (by decide)
   ·rw [if_neg hs] at h
    simp only [Prod.mk.injEq] at h
    exact ⟨by rw [←h.1];decide,by rw [←h.2.1];exact (symP_facts _).2.1⟩
theorem tok_head {l t:List UInt8} {k:Int} (h:tokL l=(k,t,0)):t <+: l∧(k≠0→0 < t.length)∧(k=0→l=[]∧t=[]):=by
 cases l with
 | nil =>
  simp only [tokL,Prod.mk.injEq] at h
  obtain ⟨rfl,rfl,_⟩:=h
  exact ⟨List.nil_prefix,fun h=>absurd rfl h,fun _=>⟨rfl,rfl⟩⟩
 | cons a l =>
  obtain ⟨h0,hp⟩:=tok_cons h
  obtain ⟨_,x,s,e,_⟩:=tok_again (r:=[]) (c:=32) h h0 (by decide)
  exact ⟨hp,fun _=>by rw [e];simp,fun e=>absurd e h0⟩
def joinT (sep:List UInt8) (ts:List (Int×Nat×List UInt8)):List UInt8:=ts.flatMap fun t=>t.2.2++sep
def words (ts:List (Int×Nat×List UInt8)):List (Int×List UInt8):=ts.map fun t=>(t.1,t.2.2)
end Go.Proofs.YtnghanpmmbcbbaaGreatDoor
namespace Go.Proofs.YtnghanpmmbcbbaaGreatDoor
open Go
end Go.Proofs.YtnghanpmmbcbbaaGreatDoor
namespace Go.Proofs.YtnghanpmmbcbbaaGreatDoor
open Go
abbrev S (l:List UInt8):ByteArray:=⟨l.toArray⟩
theorem S_of {s:ByteArray} {l:List UInt8} (h:s.data.toList=l):s=S l:=by
 obtain ⟨⟨a⟩⟩:=s
 subst h
 rfl
def rest (s:ByteArray) (p:Nat):List UInt8:=s.data.toList.drop p
theorem rest_len (s:ByteArray) (p:Nat):(rest s p).length=s.size - p:=by rw [rest,List.length_drop,Array.length_toList];rfl
theorem rest_cons {s:ByteArray} {p:Nat} (h:p < s.size):rest s p=s[p] :: rest s (p+1):=by
 have hl:p < s.data.toList.length:=by rw [Array.length_toList];exact h
 unfold rest
 rw [List.drop_eq_getElem_cons hl]
 rfl
theorem rest_end {s:ByteArray} {p:Nat} (h:s.size≤p):rest s p=[]:=by
 have:=rest_len s p
 exact List.length_eq_zero_iff.1 (by omega)
theorem rest_drop (s:ByteArray) (p k:Nat):rest s (p+k)=(rest s p).drop k:=by simp [rest,List.drop_drop]
theorem extract_list (s:ByteArray) (a b:Nat):(s.extract a b).data.toList=(rest s a).take (b - a):=by
 rw [ByteArray.data_extract,Array.toList_extract,List.extract_eq_take_drop];rfl
theorem rest_of_extract (s:ByteArray) (p:Nat):(s.extract p s.size).data.toList=rest s p:=by
 rw [extract_list,List.take_of_length_le (by rw [rest_len];exact Nat.le_refl _)]
theorem rest_suffix {s:ByteArray} {p:Nat} {g:List UInt8} (hp:p≤s.size) (h:g <:+ rest s p):p≤s.size - g.length∧g=rest s (s.size - g.length):=by
 have h1:=h.length_le
 rw [rest_len] at h1
 obtain ⟨k,hk⟩:∃k,s.size - g.length=p+k:=⟨s.size - g.length - p,by omega⟩
 refine ⟨by omega,?_⟩
 rw [hk,rest_drop]
 have h2:=List.suffix_iff_eq_drop.1 h
 rw [rest_len] at h2
 rw [show k=s.size - p - g.length by omega]
 exact h2
def skipP (s:ByteArray) (p:Nat):Nat:=s.size - (gap false (rest s p)).length
theorem skipP_facts {s:ByteArray} {p:Nat} (hp:p≤s.size):p≤skipP s p∧skipP s p≤s.size∧rest s (skipP s p)=gap false (rest s p):=by
 obtain ⟨h1,h2⟩:=rest_suffix hp (gap_suffix false (rest s p))
 exact ⟨h1,by unfold skipP;omega,h2.symm⟩
theorem skipP_same {s:ByteArray} {p q:Nat} (h:gap false (rest s q)=gap false (rest s p)):skipP s q=skipP s p:=by unfold skipP;rw [h]
theorem skipP_stop {s:ByteArray} {q:Nat} (hq:q≤s.size) (h:gap false (rest s q)=rest s q):skipP s q=q:=by
 unfold skipP;rw [h,rest_len];omega
theorem gap_cons_spc {s:ByteArray} {q:Nat} (hq:q < s.size) (h:spcB s[q]=true):gap false (rest s q)=gap false (rest s (q+1)):=by
 rw [rest_cons hq,gap_spc h]
theorem gap_note_at {s:ByteArray} {q:Nat} (hq:q < s.size) (h:s[q]=35):gap false (rest s q)=gap true (rest s q):=by
 rw [rest_cons hq,h];rfl
theorem gap_cons_stop {s:ByteArray} {q:Nat} (hq:q < s.size) (h1:spcB s[q]=false) (h2:s[q]≠35):gap false (rest s q)=rest s q:=by
 rw [rest_cons hq,gap_stop h1 h2]
theorem gap_at_end {s:ByteArray} {q:Nat} (hq:s.size≤q):gap false (rest s q)=rest s q:=by rw [rest_end hq];rfl
abbrev Tk:=Int×Nat×List UInt8
def tokAt (s:ByteArray) (p:Nat):Tk×Nat×Int :=
 if (tokL (gap false (rest s p))).2.2≠0 then ((0,0,[]),skipP s p,(tokL (gap false (rest s p))).2.2)
 else (((tokL (gap false (rest s p))).1,skipP s p,(tokL (gap false (rest s p))).2.1),skipP s p+(tokL (gap false (rest s p))).2.1.length,0)
def nextP (s:ByteArray) (a:Int):Tk×Nat×Int :=
 if a < 0∨(s.size:Int) < a then ((0,0,[]),0,2) else if 16384 < s.size then ((0,0,[]),0,6) else tokAt s a.toNat
def tokC (t:Tk):List Value:=[.int .i64 t.1,.int .i64 (t.2.1:Int),.string (S t.2.2)]
abbrev tokV (t:Tk):Value:=.agg #[.int .i64 t.1,.int .i64 (t.2.1:Int),.string (S t.2.2)]
abbrev nextV (x:Tk×Nat×Int):Value:=.tuple #[tokV x.1,.int .i64 (x.2.1:Int),.int .i64 x.2.2]
def toksAt (s:ByteArray):Nat→Nat→List Tk×Nat×Int
 | 0,_=>([],0,0)
 | n+1,p =>
  if (tokAt s p).2.2≠0 then ([],(tokAt s p).2.1,(tokAt s p).2.2)
  else if (tokAt s p).1.1=0 then ([(tokAt s p).1],0,0)
  else if (toksAt s n (tokAt s p).2.1).2.2≠0 then toksAt s n (tokAt s p).2.1
  else ((tokAt s p).1 :: (toksAt s n (tokAt s p).2.1).1,0,0)
def scanP (s:ByteArray):List Tk×Nat×Int:=if 16384 < s.size then ([],0,6) else toksAt s (s.size+1) 0
def symAt (s:ByteArray) (a:Int):List UInt8:=if a < 0∨(s.size:Int) < a then [] else symP (rest s a.toNat)
theorem tokAt_err {s:ByteArray} {p q:Nat} {t:List UInt8} {k e:Int} (hq:skipP s p=q) (ht:tokL (gap false (rest s p))=(k,t,e)) (he:e≠0):tokAt s p=((0,0,[]),q,e):=by
 unfold tokAt
 rw [ht,hq,if_pos he]
theorem tokAt_ok {s:ByteArray} {p q:Nat} {t:List UInt8} {k:Int} (hq:skipP s p=q) (ht:tokL (gap false (rest s p))=(k,t,0)):tokAt s p=((k,q,t),q+t.length,0):=by
 unfold tokAt
 rw [ht,hq,if_neg (by simp)]
def wordyB (c:UInt8):Bool:=lowB c||(uppB c||undB c)
theorem tok_word {c:UInt8} {l:List UInt8} (h:wordyB c=true):tokL (c :: l)=if 40 < ((c :: l).takeWhile inB).length then (0,[],7) else (if lowB c=true then 1 else 2,(c :: l).takeWhile inB,0):=by
 unfold tokL
 simp only
 rw [if_pos (show (lowB c||(uppB c||undB c))=true from h)]
theorem tok_dig {c:UInt8} {l:List UInt8} (h:wordyB c=false) (hd:digB c=true):tokL (c :: l)=if 2147483648 < valD ((c :: l).takeWhile digB) then (0,[],5) else (3,(c :: l).takeWhile digB,0):=by
 unfold tokL
 simp only
 rw [if_neg (by rw [show (lowB c||(uppB c||undB c))=false from h];decide),if_pos hd]
theorem tok_sym {c:UInt8} {l:List UInt8} (h:wordyB c=false) (hd:digB c=false):tokL (c :: l)=if symP (c :: l)=[] then (0,[],16) else (4,symP (c :: l),0):=by
 unfold tokL
 simp only
 rw [if_neg (by rw [show (lowB c||(uppB c||undB c))=false from h];decide),if_neg (by rw [hd];decide)]
def runP (k:UInt8→Bool) (s:ByteArray) (q:Nat):Nat:=((rest s q).takeWhile k).length
theorem runP_next {k:UInt8→Bool} {s:ByteArray} {q:Nat} (h:q < s.size) (hk:k s[q]=true):runP k s q=runP k s (q+1)+1:=by
 unfold runP
 rw [rest_cons h,List.takeWhile_cons_of_pos hk,List.length_cons]
theorem runP_stop {k:UInt8→Bool} {s:ByteArray} {q:Nat} (h:∀_:q < s.size,k s[q]=false):runP k s q=0:=by
 unfold runP
 by_cases hq:q < s.size
 ·rw [rest_cons hq,List.takeWhile_cons_of_neg (by rw [h hq];decide)];rfl
 ·rw [rest_end (by omega)];rfl
theorem runP_le {k:UInt8→Bool} {s:ByteArray} {q:Nat} (h:q≤s.size):q+runP k s q≤s.size:=by
 have:=(List.takeWhile_prefix (p:=k) (l:=rest s q)).length_le
 rw [rest_len] at this
 unfold runP
 omega
theorem runP_text (k:UInt8→Bool) (s:ByteArray) (q:Nat):s.extract q (q+runP k s q)=S ((rest s q).takeWhile k):=by
 refine S_of ?_
 rw [extract_list,Nat.add_sub_cancel_left]
 exact (List.prefix_iff_eq_take.1 (List.takeWhile_prefix (p:=k) (l:=rest s q))).symm
theorem symP_text (s:ByteArray) (q:Nat):s.extract q (q+(symP (rest s q)).length)=S (symP (rest s q)):=by
 refine S_of ?_
 rw [extract_list,Nat.add_sub_cancel_left]
 exact (List.prefix_iff_eq_take.1 (symP_facts (rest s q)).2.1).symm
theorem symP_le {s:ByteArray} {q:Nat} (h:q≤s.size):q+(symP (rest s q)).length≤s.size:=by
 have:=(symP_facts (rest s q)).2.1.length_le
 rw [rest_len] at this
 omega
end Go.Proofs.YtnghanpmmbcbbaaGreatDoor
namespace Go.Proofs.YtnghanpmmbcbbaaGreatDoor
open Go
inductive Tm where
 | mk (kind num:Int) (name:ByteArray) (A:Option Addr) (cap:Nat) (args:List Tm)
namespace Tm
def kind:Tm→Int|mk k _ _ _ _ _=>k
def num:Tm→Int|mk _ n _ _ _ _=>n
def name:Tm→ByteArray|mk _ _ s _ _ _=>s
def at_:Tm→Option Addr|mk _ _ _ A _ _=>A
def cap:Tm→Nat|mk _ _ _ _ c _=>c
def args:Tm→List Tm|mk _ _ _ _ _ a=>a
end Tm
instance:Inhabited Tm:=⟨.mk 0 0 ByteArray.empty none 0 []⟩
theorem Tm.induct {p:Tm→Prop} (h:∀k n s A c a,(∀t∈a,p t)→p (.mk k n s A c a)):∀t,p t:=fun t =>
 Tm.rec (motive_1:=p) (motive_2:=fun l=>∀t∈l,p t) (fun k n s A c a ih=>h k n s A c a ih) (fun _ h=>by cases h)
  (fun t r h1 h2 x hx=>by
   rcases List.mem_cons.1 hx with rfl|hx
   ·exact h1
   ·exact h2 x hx) t
theorem Tm.induct2 {p:Tm→Prop} {q:List Tm→Prop} (h:∀k n s A c a,q a→p (.mk k n s A c a)) (h0:q []) (h1:∀t r,p t→q r→q (t :: r)):(∀t,p t)∧(∀l,q l) :=
 have hp:∀t,p t:=fun t=>Tm.rec (motive_1:=p) (motive_2:=q) h h0 h1 t
 ⟨hp,fun l=>by
  induction l with
  | nil=>exact h0
  | cons t r ih=>exact h1 t r (hp t) ih⟩
theorem ttake_next {l:List Tm} {k:Nat} (h:k < l.length):l.take (k+1)=l.take k++[l.getD k default]:=by
 rw [List.take_succ_eq_append_getElem h]
 simp [List.getD,List.getElem?_eq_getElem h]
theorem getD_mem {l:List Tm} {k:Nat} (h:k < l.length):l.getD k default∈l:=by
 simp only [List.getD,List.getElem?_eq_getElem h,Option.getD_some]
 exact List.getElem_mem h
def Tm.used (t:Tm):List Tm:=if t.kind=2 then t.args else []
mutual
def Tm.size:Tm→Nat
 | .mk k _ _ _ _ a=>if k=2 then 1+sizeL a else 1
def sizeL:List Tm→Nat
 | []=>0
 | t :: r=>t.size+sizeL r
end
mutual
def Tm.depth:Tm→Nat
 | .mk k _ _ _ _ a=>if k=2 then depthL a+1 else 1
def depthL:List Tm→Nat
 | []=>0
 | t :: r=>max t.depth (depthL r)
end
mutual
def Tm.nodes:Tm→Nat
 | .mk _ _ _ _ _ a=>1+nodesL a
def nodesL:List Tm→Nat
 | []=>0
 | t :: r=>t.nodes+nodesL r
end
mutual
def Tm.occ:Tm→List Int
 | .mk k n _ _ _ a=>if k=1 then [n] else if k=2 then occL a else []
def occL:List Tm→List Int
 | []=>[]
 | t :: r=>t.occ++occL r
end
theorem size_used (t:Tm):t.size=1+sizeL t.used:=by
 cases t with
 | mk k n s A c a=>by_cases h:k=2<;>simp [Tm.size,Tm.used,Tm.kind,Tm.args,h,sizeL]
theorem occ_used (t:Tm):t.occ=(if t.kind=1 then [t.num] else occL t.used):=by
 cases t with
 | mk k n s A c a =>
  by_cases h1:k=1
  ·simp [Tm.occ,Tm.kind,Tm.num,h1]
  ·by_cases h:k=2<;>simp [Tm.occ,Tm.used,Tm.kind,Tm.args,h,h1,occL]
theorem sizeL_append (l m:List Tm):sizeL (l++m)=sizeL l+sizeL m:=by
 induction l with
 | nil=>simp [sizeL]
 | cons t r ih=>simp [sizeL,ih];omega
theorem nodesL_append (l m:List Tm):nodesL (l++m)=nodesL l+nodesL m:=by
 induction l with
 | nil=>simp [nodesL]
 | cons t r ih=>simp [nodesL,ih];omega
theorem occL_append (l m:List Tm):occL (l++m)=occL l++occL m:=by
 induction l with
 | nil=>simp [occL]
 | cons t r ih=>simp [occL,ih]
theorem sizeL_next {l:List Tm} {k:Nat} (h:k < l.length):sizeL (l.take (k+1))=sizeL (l.take k)+(l.getD k default).size:=by
 rw [ttake_next h,sizeL_append];simp [sizeL]
theorem occL_next {l:List Tm} {k:Nat} (h:k < l.length):occL (l.take (k+1))=occL (l.take k)++(l.getD k default).occ:=by
 rw [ttake_next h,occL_append];simp [occL]
theorem size_nodes:(∀t:Tm,t.size≤t.nodes∧1≤t.size)∧(∀l,sizeL l≤nodesL l):=by
 refine Tm.induct2 (fun k n s A c a ih=>?_) (Nat.le_refl _) (fun t r h1 h2=>?_)
 ·simp only [Tm.size,Tm.nodes];split<;>omega
 ·simp only [sizeL,nodesL];omega
theorem sizeL_take (l:List Tm) (k:Nat):sizeL (l.take k)≤sizeL l:=by
 have:=sizeL_append (l.take k) (l.drop k)
 rw [List.take_append_drop] at this
 omega
theorem size_mem {t:Tm} {l:List Tm} (h:t∈l):t.size≤sizeL l:=by
 induction l with
 | nil=>cases h
 | cons x r ih =>
  simp only [sizeL]
  rcases List.mem_cons.1 h with rfl|h
  ·omega
  ·have:=ih h;omega
theorem nodes_mem {t:Tm} {l:List Tm} (h:t∈l):t.nodes≤nodesL l:=by
 induction l with
 | nil=>cases h
 | cons x r ih =>
  simp only [nodesL]
  rcases List.mem_cons.1 h with rfl|h
  ·omega
  ·have:=ih h;omega
mutual
def weighT:Tm→Int→Int→Int
 | .mk _ _ _ _ _ a,left,deep=>if deep=0∨left < a.length then -1 else weighL a left deep
def weighL:List Tm→Int→Int→Int
 | [],left,_=>left
 | t :: r,left,deep=>if left < 0 then left else weighL r (weighT t (left - 1 - (t.name.size:Int) / 8) (deep - 1)) deep
end
def weigh (l:List Tm) (left deep:Int):Int:=if deep=0∨left < l.length then -1 else weighL l left deep
theorem weighT_eq (t:Tm) (left deep:Int):weighT t left deep=weigh t.args left deep:=by
 cases t with
 | mk k n s A c a=>rfl
theorem weighL_neg (l:List Tm) (left deep:Int) (h:left < 0):weighL l left deep=left:=by
 cases l with
 | nil=>rfl
 | cons t r=>simp [weighL,h]
theorem weighL_append (l m:List Tm) (left deep:Int):weighL (l++m) left deep=weighL m (weighL l left deep) deep:=by
 induction l generalizing left with
 | nil=>simp [weighL]
 | cons t r ih =>
  by_cases h:left < 0
  ·rw [weighL_neg _ _ _ h,weighL_neg _ _ _ h,weighL_neg _ _ _ h]
  ·simp [weighL,h,ih]
theorem weighL_next {l:List Tm} {k:Nat} (h:k < l.length) (left deep:Int) (h0:0≤weighL (l.take k) left deep) :
  weighL (l.take (k+1)) left deep=weigh (l.getD k default).args (weighL (l.take k) left deep - 1 - ((l.getD k default).name.size:Int) / 8) (deep - 1):=by
 rw [ttake_next h,weighL_append,weighL,weighL,if_neg (by omega),weighT_eq]
theorem weighL_stop {l:List Tm} {k:Nat} (left deep:Int) (h0:weighL (l.take k) left deep < 0):weighL l left deep=weighL (l.take k) left deep:=by
 have:=weighL_append (l.take k) (l.drop k) left deep
 rw [List.take_append_drop] at this
 rw [this,weighL_neg _ _ _ h0]
theorem weigh_facts:(∀(t:Tm) (left deep:Int),(0≤weighT t left deep→weighT t left deep+nodesL t.args≤left)∧(weighT t left deep = -1∨weighT t left deep≤left)∧(left < 0→weighT t left deep = -1)) ∧
  (∀(l:List Tm) (left deep:Int),(0≤weighL l left deep→weighL l left deep+nodesL l≤left)∧(weighL l left deep = -1∨weighL l left deep≤left)):=by
 refine Tm.induct2 (fun k n s A c a ih=>?_) ?_ (fun t r h1 h2=>?_)
 ·intro left deep
  simp only [weighT,Tm.args]
  split
  ·exact ⟨fun h=>by omega,.inl rfl,fun _=>rfl⟩
  ·refine ⟨(ih left deep).1,(ih left deep).2,fun h=>by omega⟩
 ·intro left deep
  simp [weighL,nodesL]
 ·intro left deep
  simp only [weighL,nodesL]
  by_cases h:left < 0
  ·rw [if_pos h];exact ⟨fun h'=>by omega,.inr (Int.le_refl _)⟩
  ·rw [if_neg h]
   have hn:t.nodes=1+nodesL t.args:=by cases t;simp [Tm.nodes,Tm.args]
   have a1:=h1 (left - 1 - (t.name.size:Int) / 8) (deep - 1)
   have a2:=h2 (weighT t (left - 1 - (t.name.size:Int) / 8) (deep - 1)) deep
   generalize weighT t (left - 1 - (t.name.size:Int) / 8) (deep - 1)=x at *
   generalize weighL r x deep=y at *
   have h8:0≤(t.name.size:Int) / 8:=by omega
   omega
theorem weigh_lo:(∀(t:Tm) (left deep:Int),-1≤weighT t left deep)∧(∀(l:List Tm) (left deep:Int),-1≤left → -1≤weighL l left deep):=by
 refine Tm.induct2 (fun k n s A c a ih=>?_) ?_ (fun t r h1 h2=>?_)
 ·intro left deep
  simp only [weighT]
  split
  ·omega
  ·exact ih _ _ (by omega)
 ·intro left deep h
  simpa [weighL] using h
 ·intro left deep h
  simp only [weighL]
  split
  ·exact h
  ·exact h2 _ _ (h1 _ _)
theorem weighL_hi (l:List Tm) (left deep:Int) (h : -1≤left):weighL l left deep≤left:=by
 rcases (weigh_facts.2 l left deep).2 with h'|h'<;>omega
theorem weigh_nodes {l:List Tm} {left deep:Int} (h:0≤weigh l left deep):(nodesL l:Int)≤left:=by
 unfold weigh at h
 split at h
 ·omega
 ·have:=(weigh_facts.2 l left deep).1 h
  omega
mutual
def Tm.form:Tm→Bool
 | .mk k n s _ _ a =>
  if k=0 then decide (-2147483648≤n)&&(decide (n≤2147483648)&&(decide (s.size=0)&&decide (a.length=0)))
  else if k=1 then decide (0≤n)&&(decide (n≤1048576)&&(decide (s.size=0)&&decide (a.length=0)))
  else if k=2 then decide (n=0)&&(((opB s.data.toList&&decide (a.length=2))||(rightB s.data.toList&&decide (a.length≤6)))&&formL a)
  else false
def formL:List Tm→Bool
 | []=>true
 | t :: r=>t.form&&formL r
end
def Tm.right (t:Tm):Bool:=t.form&&(decide (t.size≤200)&&decide (t.depth≤20))
theorem formL_append (l m:List Tm):formL (l++m)=(formL l&&formL m):=by
 induction l with
 | nil=>simp [formL]
 | cons t r ih=>simp [formL,ih,Bool.and_assoc]
theorem formL_mem {l:List Tm} {t:Tm} (h:t∈l) (hf:formL l=true):t.form=true:=by
 induction l with
 | nil=>cases h
 | cons x r ih =>
  simp only [formL,Bool.and_eq_true] at hf
  rcases List.mem_cons.1 h with rfl|h
  ·exact hf.1
  ·exact ih h hf.2
def funcB (s:List UInt8) (n:Nat):Bool:=if opB s then decide (n=2) else decide (n≤6)&&rightB s
theorem funcB_eq (s:List UInt8) (n:Nat):funcB s n=((opB s&&decide (n=2))||(rightB s&&decide (n≤6))):=by
 unfold funcB
 cases h:opB s
 ·simp [Bool.and_comm]
 ·simp [(op_right h).1]
def plainB (t:Tm):Bool:=decide (t.name.size=0)&&decide (t.args.length=0)
mutual
def Tm.fit:Tm→Int→Int→Int×Bool
 | .mk k n s A c a,nodes,depth =>
  if nodes=0∨depth=0 then (0,false)
  else if k=0 then (nodes - 1,plainB (.mk k n s A c a)&&(decide (-2147483648≤n)&&decide (n≤2147483648)))
  else if k=1 then (nodes - 1,plainB (.mk k n s A c a)&&(decide (0≤n)&&decide (n≤1048576)))
  else if k=2 then (if n≠0∨funcB s.data.toList a.length=false then (0,false) else fitL a (nodes - 1) (depth - 1))
  else (0,false)
def fitL:List Tm→Int→Int→Int×Bool
 | [],nodes,_=>(nodes,true)
 | t :: r,nodes,depth=>if (t.fit nodes depth).2 then fitL r (t.fit nodes depth).1 depth else (0,false)
end
theorem fitL_append (l m:List Tm) (nodes depth:Int):fitL (l++m) nodes depth=if (fitL l nodes depth).2 then fitL m (fitL l nodes depth).1 depth else (0,false):=by
 induction l generalizing nodes with
 | nil=>simp [fitL]
 | cons t r ih =>
  simp only [List.cons_append,fitL]
  by_cases h:(t.fit nodes depth).2=true
  ·simp [h,ih]
  ·simp [h]
theorem fitL_next {l:List Tm} {k:Nat} (h:k < l.length) (nodes depth:Int) (hk:(fitL (l.take k) nodes depth).2=true) :
  fitL (l.take (k+1)) nodes depth=if ((l.getD k default).fit (fitL (l.take k) nodes depth).1 depth).2 then (l.getD k default).fit (fitL (l.take k) nodes depth).1 depth else (0,false):=by
 rw [ttake_next h,fitL_append,if_pos hk]
 simp only [fitL]
 by_cases hx:((l.getD k default).fit (fitL (l.take k) nodes depth).1 depth).2=true
 ·rw [if_pos hx,if_pos hx,← hx]
 ·rw [if_neg hx,if_neg hx]
theorem fitL_stop {l:List Tm} {k:Nat} (h:k < l.length) (nodes depth:Int) (hk:(fitL (l.take k) nodes depth).2=true) (hx:((l.getD k default).fit (fitL (l.take k) nodes depth).1 depth).2=false) :
  fitL l nodes depth=(0,false):=by
 have h1:=fitL_next h nodes depth hk
 rw [hx] at h1
 have h2:=fitL_append (l.take (k+1)) (l.drop (k+1)) nodes depth
 rw [List.take_append_drop,h1] at h2
 rw [h2];rfl
theorem and4 (a b c d:Bool):(c&&d&&(a&&b))=(a&&(b&&(c&&d))):=by cases a<;>cases b<;>cases c<;>cases d<;>rfl
theorem fit_form:(∀(t:Tm) (nodes depth:Nat),(t.fit nodes depth).2=(t.form&&(decide (t.size≤nodes)&&decide (t.depth≤depth)))∧((t.fit nodes depth).2=true→(t.fit nodes depth).1=(nodes:Int) - t.size)) ∧
  (∀(l:List Tm) (nodes depth:Nat),(fitL l nodes depth).2=(formL l&&(decide (sizeL l≤nodes)&&decide (depthL l≤depth)))∧((fitL l nodes depth).2=true→(fitL l nodes depth).1=(nodes:Int) - sizeL l)):=by
 refine Tm.induct2 (fun k n s A c a ih=>?_) ?_ (fun t r h1 h2=>?_)
 ·intro nodes depth
  simp only [Tm.fit,Tm.form,Tm.size,Tm.depth]
  by_cases h0:(nodes:Int)=0∨(depth:Int)=0
  ·rw [if_pos h0]
   refine ⟨?_,fun h=>by simp at h⟩
   by_cases h2:k=2
   ·simp only [h2,if_true]
    rcases h0 with h0|h0
    ·have:¬(1+sizeL a≤nodes):=by omega
     simp [this]
    ·have:¬(depthL a+1≤depth):=by omega
     simp [this]
   ·simp only [h2,if_false]
    rcases h0 with h0|h0
    ·have:nodes=0:=by omega
     simp [this]
    ·have:depth=0:=by omega
     simp [this]
  ·rw [if_neg h0]
   have hn1:1≤nodes:=by omega
   have hd1:1≤depth:=by omega
   by_cases hk0:k=0
   ·subst hk0
    simp only [plainB,Tm.name,Tm.args]
    refine ⟨?_,fun _=>by simp⟩
    have d1:decide (1≤nodes)=true:=by simpa using hn1
    have d2:decide (1≤depth)=true:=by simpa using hd1
    simp only [if_true,show ¬((0:Int)=2) by omega,if_false,d1,d2,Bool.and_true]
    exact and4 _ _ _ _
   ·by_cases hk1:k=1
    ·subst hk1
     simp only [plainB,Tm.name,Tm.args]
     refine ⟨?_,fun _=>by simp⟩
     have d1:decide (1≤nodes)=true:=by simpa using hn1
     have d2:decide (1≤depth)=true:=by simpa using hd1
     simp only [if_true,show ¬((1:Int)=2) by omega,show ¬((1:Int)=0) by omega,if_false,d1,d2,Bool.and_true]
     exact and4 _ _ _ _
    ·by_cases hk2:k=2
     ·subst hk2
      have e1:(nodes:Int) - 1=((nodes - 1:Nat):Int):=by omega
      have e2:(depth:Int) - 1=((depth - 1:Nat):Int):=by omega
      have hi:=ih (nodes - 1) (depth - 1)
      simp only [hk0,hk1,if_false,if_true,← funcB_eq]
      by_cases hf:n≠0∨funcB s.data.toList a.length=false
      ·rw [if_pos hf]
       refine ⟨?_,fun h=>by simp at h⟩
       rcases hf with hf|hf
       ·simp [hf]
       ·simp [hf]
      ·rw [if_neg hf,e1,e2]
       have hf1:n=0:=by
        by_cases h:n=0
        ·exact h
        ·exact absurd (Or.inl h) hf
       have hf2:funcB s.data.toList a.length=true:=by
        cases h:funcB s.data.toList a.length
        ·exact absurd (Or.inr h) hf
        ·rfl
       rw [hf2,hf1]
       have d1:decide (sizeL a≤nodes - 1)=decide (1+sizeL a≤nodes):=by rw [decide_eq_decide];omega
       have d2:decide (depthL a≤depth - 1)=decide (depthL a+1≤depth):=by rw [decide_eq_decide];omega
       refine ⟨by rw [hi.1,d1,d2];simp,fun h=>?_⟩
       rw [hi.2 h]
       omega
     ·simp [hk0,hk1,hk2]
 ·intro nodes depth
  simp [fitL,formL,sizeL,depthL]
 ·intro nodes depth
  have a1:=h1 nodes depth
  simp only [fitL,formL,sizeL,depthL]
  by_cases hb:(t.fit nodes depth).2=true
  ·rw [if_pos hb,a1.2 hb]
   rw [a1.1] at hb
   simp only [Bool.and_eq_true,decide_eq_true_eq] at hb
   have e1:(nodes:Int) - t.size=((nodes - t.size:Nat):Int):=by omega
   rw [e1]
   have a2:=h2 (nodes - t.size) depth
   have d1:decide (sizeL r≤nodes - t.size)=decide (t.size+sizeL r≤nodes):=by rw [decide_eq_decide];omega
   have d2:decide (depthL r≤depth)=decide (max t.depth (depthL r)≤depth):=by rw [decide_eq_decide];omega
   refine ⟨by rw [a2.1,d1,d2,hb.1,Bool.true_and];rfl,fun h=>?_⟩
   rw [a2.2 h]
   omega
  ·rw [if_neg hb]
   refine ⟨?_,fun h=>by simp at h⟩
   have hb':(t.fit nodes depth).2=false:=by simpa using hb
   rw [a1.1] at hb'
   cases hf:t.form
   ·simp
   ·rw [hf] at hb'
    simp only [Bool.true_and] at hb' ⊢
    have:¬(t.size≤nodes∧t.depth≤depth):=by
     intro h
     simp [h.1,h.2] at hb'
    by_cases h3:t.size+sizeL r≤nodes
    ·have h4:¬(max t.depth (depthL r)≤depth):=by omega
     simp [h4]
    ·simp [h3]
theorem fit_nat {t:Tm} {nodes depth:Nat} (h:(t.fit nodes depth).2=true):∃m:Nat,(t.fit nodes depth).1=(m:Int)∧m≤nodes:=by
 have h1:=(fit_form.1 t nodes depth).2 h
 rw [(fit_form.1 t nodes depth).1] at h
 simp only [Bool.and_eq_true,decide_eq_true_eq] at h
 exact ⟨nodes - t.size,by rw [h1];omega,by omega⟩
def ints (a b:Int):Int:=if a < b then -1 else if b < a then 1 else 0
def texts (a b:List UInt8):Int:=if Op.bytesLess a b then -1 else if Op.bytesLess b a then 1 else 0
def cls (k:Int):Int:=if k=1 then 0 else if k=0 then 1 else if k=2 then 2 else 3
def lex (x y:Int):Int:=if x=0 then y else x
mutual
def cmpT:Tm→Tm→Int
 | .mk k n s _ _ a,u=>lex (ints (cls k) (cls u.kind))
   (if k = 1 ∨ k = 0 then ints n u.num
    else if k = 2 then lex (ints a.length u.args.length) (lex (texts s.data.toList u.name.data.toList) (cmpL a u.args))
    else lex (ints k u.kind) (lex (ints n u.num) (texts s.data.toList u.name.data.toList)))
def cmpL:List Tm→List Tm→Int
 | [],[]=>0
 | [],_ :: _ => -1
 | _ :: _,[]=>1
 | t :: r,u :: q=>lex (cmpT t u) (cmpL r q)
end
def Tri (x y z:Int):Prop :=
 (x = -1∨x=0∨x=1)∧(y = -1∨y=0∨y=1)∧(z = -1∨z=0∨z=1)∧(x≤0→y≤0→z≤0∧(z=0→x=0∧y=0))∧(0≤x→0≤y→0≤z∧(z=0→x=0∧y=0))
theorem Tri.lex {x y z x' y' z':Int} (h:Tri x y z) (h':x=0→y=0→Tri x' y' z') (d1:x' = -1∨x'=0∨x'=1) (d2:y' = -1∨y'=0∨y'=1) (d3:z' = -1∨z'=0∨z'=1):Tri (lex x x') (lex y y') (lex z z'):=by
 have lz:∀q:Int,Go.Proofs.YtnghanpmmbcbbaaGreatDoor.lex 0 q=q:=fun q=>by simp [Go.Proofs.YtnghanpmmbcbbaaGreatDoor.lex]
 have ln:∀p q:Int,p≠0→Go.Proofs.YtnghanpmmbcbbaaGreatDoor.lex p q=p:=fun p q h=>by simp [Go.Proofs.YtnghanpmmbcbbaaGreatDoor.lex,h]
 unfold Tri at *
 by_cases hx:x=0
 ·by_cases hy:y=0
  ·have:=h' hx hy
   have hz:z=0:=by omega
   rw [hx,hy,hz,lz,lz,lz]
   exact this
  ·have hz:z≠0:=by omega
   rw [hx,lz,ln y _ hy,ln z _ hz]
   omega
 ·by_cases hy:y=0
  ·have hz:z≠0:=by omega
   rw [hy,lz,ln x _ hx,ln z _ hz]
   omega
  ·by_cases hz:z=0
   ·rw [hz,lz,ln x _ hx,ln y _ hy]
    omega
   ·rw [ln x _ hx,ln y _ hy,ln z _ hz]
    omega
theorem ints_lt {a b:Int} (h:a < b):ints a b = -1:=by unfold ints;rw [if_pos h]
theorem ints_gt {a b:Int} (h:b < a):ints a b=1:=by unfold ints;rw [if_neg (by omega),if_pos h]
theorem ints_self (a:Int):ints a a=0:=by unfold ints;simp
theorem ints_tri (a b c:Int):Tri (ints a b) (ints b c) (ints a c):=by
 unfold Tri
 rcases Int.lt_trichotomy a b with h1|h1|h1
 ·rw [ints_lt h1]
  rcases Int.lt_trichotomy b c with h2|h2|h2
  ·rw [ints_lt h2,ints_lt (show a < c by omega)];omega
  ·subst h2;rw [ints_self,ints_lt h1];omega
  ·rw [ints_gt h2]
   rcases Int.lt_trichotomy a c with h3|h3|h3
   ·rw [ints_lt h3];omega
   ·subst h3;rw [ints_self];omega
   ·rw [ints_gt h3];omega
 ·subst h1
  rw [ints_self]
  rcases Int.lt_trichotomy a c with h3|h3|h3
  ·rw [ints_lt h3];omega
  ·subst h3;rw [ints_self];omega
  ·rw [ints_gt h3];omega
 ·rw [ints_gt h1]
  rcases Int.lt_trichotomy b c with h2|h2|h2
  ·rw [ints_lt h2]
   rcases Int.lt_trichotomy a c with h3|h3|h3
   ·rw [ints_lt h3];omega
   ·subst h3;rw [ints_self];omega
   ·rw [ints_gt h3];omega
  ·subst h2;rw [ints_self,ints_gt h1];omega
  ·rw [ints_gt h2,ints_gt (show c < a by omega)];omega
theorem ints_val (a b : Int) : ints a b = -1 ∨ ints a b = 0 ∨ ints a b = 1 := by unfold ints; repeat' split
                                                                                 all_goals simp
theorem texts_val (a b : List UInt8) : texts a b = -1 ∨ texts a b = 0 ∨ texts a b = 1 := by unfold texts; repeat' split
                                                                                            all_goals simp
theorem lex_val {x y:Int} (h1:x = -1∨x=0∨x=1) (h2:y = -1∨y=0∨y=1):lex x y = -1∨lex x y=0∨lex x y=1:=by unfold lex;split<;>assumption
theorem texts_cons (a b:UInt8) (x y:List UInt8):texts (a :: x) (b :: y)=lex (ints a.toNat b.toNat) (texts x y):=by
 rcases Nat.lt_trichotomy a.toNat b.toNat with h|h|h
 ·have h1:Op.bytesLess (a :: x) (b :: y)=true:=by simp [Op.bytesLess,UInt8.lt_iff_toNat_lt,h]
  rw [ints_lt (show (a.toNat:Int) < b.toNat by omega)]
  unfold texts lex
  rw [h1];rfl
 ·obtain rfl:=UInt8.toNat_inj.1 h
  rw [ints_self]
  unfold texts lex
  simp [Op.bytesLess]
 ·have h1:Op.bytesLess (a :: x) (b :: y)=false:=by
   have h2:¬a < b:=by rw [UInt8.lt_iff_toNat_lt];omega
   have h3:¬a=b:=fun e=>by rw [e] at h;omega
   simp [Op.bytesLess,h2,h3]
  have h4:Op.bytesLess (b :: y) (a :: x)=true:=by simp [Op.bytesLess,UInt8.lt_iff_toNat_lt,h]
  rw [ints_gt (show (b.toNat:Int) < a.toNat by omega)]
  unfold texts lex
  rw [h1,h4];rfl
theorem texts_tri (a b c:List UInt8):Tri (texts a b) (texts b c) (texts a c):=by
 have nn:texts [] []=0:=by simp [texts,Op.bytesLess]
 have nc:∀x l,texts [] (x :: l) = -1:=fun x l=>by simp [texts,Op.bytesLess]
 have cn:∀x l,texts (x :: l) []=1:=fun x l=>by simp [texts,Op.bytesLess]
 induction a generalizing b c with
 | nil =>
  cases b with
  | nil =>
   cases c with
   | nil=>rw [nn];unfold Tri;omega
   | cons z c=>rw [nn,nc];unfold Tri;omega
  | cons y b =>
   cases c with
   | nil=>rw [nn,nc,cn];unfold Tri;omega
   | cons z c =>
    have:=texts_val (y :: b) (z :: c)
    rw [nc,nc];unfold Tri;omega
 | cons x a ih =>
  cases b with
  | nil =>
   cases c with
   | nil=>rw [nn,cn];unfold Tri;omega
   | cons z c =>
    have:=texts_val (x :: a) (z :: c)
    rw [nc,cn];unfold Tri;omega
  | cons y b =>
   cases c with
   | nil =>
    have:=texts_val (x :: a) (y :: b)
    rw [cn,cn];unfold Tri;omega
   | cons z c =>
    rw [texts_cons,texts_cons,texts_cons]
    exact (ints_tri _ _ _).lex (fun _ _=>ih b c) (texts_val _ _) (texts_val _ _) (texts_val _ _)
theorem cmp_val:(∀t u:Tm,cmpT t u = -1∨cmpT t u=0∨cmpT t u=1)∧(∀l m:List Tm,cmpL l m = -1∨cmpL l m=0∨cmpL l m=1):=by
 refine Tm.induct2 (fun k n s A c a ih=>?_) ?_ (fun t r h1 h2=>?_)
 ·intro u
  simp only [cmpT]
  refine lex_val (ints_val _ _) ?_
  split
  ·exact ints_val _ _
  ·split
   ·exact lex_val (ints_val _ _) (lex_val (texts_val _ _) (ih _))
   ·exact lex_val (ints_val _ _) (lex_val (ints_val _ _) (texts_val _ _))
 ·intro m
  cases m<;>simp [cmpL]
 ·intro m
  cases m with
  | nil=>simp [cmpL]
  | cons u q=>simp only [cmpL];exact lex_val (h1 u) (h2 q)
theorem cls_eq {j k:Int} (h:ints (cls j) (cls k)=0):cls j=cls k:=by
 unfold ints at h
 split at h
 ·omega
 ·split at h<;>omega
theorem cmp_tri:(∀t u v:Tm,Tri (cmpT t u) (cmpT u v) (cmpT t v))∧(∀l m n:List Tm,Tri (cmpL l m) (cmpL m n) (cmpL l n)):=by
 refine Tm.induct2 (fun k n s A c a ih=>?_) ?_ (fun t r h1 h2=>?_)
 ·intro u v
  have d1:=cmp_val.2
  cases u with
  | mk k2 n2 s2 A2 c2 a2 =>
   cases v with
   | mk k3 n3 s3 A3 c3 a3 =>
    simp only [cmpT,Tm.kind,Tm.num,Tm.name,Tm.args]
    have vv:∀(k:Int) (n n':Int) (s s':List UInt8) (a a':List Tm) (k':Int),(if k=1∨k=0 then ints n n' else if k=2 then lex (ints a.length a'.length) (lex (texts s s') (cmpL a a')) else lex (ints k k') (lex (ints n n') (texts s s'))) = -1 ∨
      (if k=1∨k=0 then ints n n' else if k=2 then lex (ints a.length a'.length) (lex (texts s s') (cmpL a a')) else lex (ints k k') (lex (ints n n') (texts s s')))=0 ∨
      (if k=1∨k=0 then ints n n' else if k=2 then lex (ints a.length a'.length) (lex (texts s s') (cmpL a a')) else lex (ints k k') (lex (ints n n') (texts s s')))=1:=by
     intro k n n' s s' a a' k'
     split
     ·exact ints_val _ _
     ·split
      ·exact lex_val (ints_val _ _) (lex_val (texts_val _ _) (d1 _ _))
      ·exact lex_val (ints_val _ _) (lex_val (ints_val _ _) (texts_val _ _))
    refine (ints_tri _ _ _).lex (fun e1 e2=>?_) (vv _ _ _ _ _ _ _ _) (vv _ _ _ _ _ _ _ _) (vv _ _ _ _ _ _ _ _)
    have q1:=cls_eq e1
    have q2:=cls_eq e2
    unfold cls at q1 q2
    by_cases hk:k=1∨k=0
    ·have hk2:k2=1∨k2=0:=by
      rcases hk with rfl|rfl
      ·simp only [if_true] at q1
       split at q1
       ·exact .inl ‹_›
       ·split at q1
        ·exact .inr ‹_›
        ·split at q1<;>omega
      ·simp only [if_true,show ¬((0:Int)=1) by omega,if_false] at q1
       split at q1
       ·exact .inl ‹_›
       ·split at q1
        ·exact .inr ‹_›
        ·split at q1<;>omega
     rw [if_pos hk,if_pos hk2,if_pos hk]
     exact ints_tri _ _ _
    ·have hk1:¬k=1:=fun h=>hk (.inl h)
     have hk0:¬k=0:=fun h=>hk (.inr h)
     rw [if_neg hk1,if_neg hk0] at q1
     by_cases h2:k=2
     ·rw [if_pos h2] at q1
      have hk2:k2=2:=by
       split at q1
       ·omega
       ·split at q1
        ·omega
        ·split at q1
         ·assumption
         ·omega
      have hk2':¬(k2=1∨k2=0):=by omega
      rw [if_neg hk,if_pos h2,if_neg hk2',if_pos hk2,if_neg hk,if_pos h2]
      have dl:=fun x y=>d1 x y
      refine (ints_tri _ _ _).lex (fun _ _=>(texts_tri _ _ _).lex (fun _ _=>ih a2 a3) (d1 _ _) (d1 _ _) (d1 _ _)) ?_ ?_ ?_
      all_goals exact lex_val (texts_val _ _) (d1 _ _)
     ·rw [if_neg h2] at q1
      have hk2:¬(k2=1∨k2=0)∧¬k2=2:=by
       split at q1
       ·omega
       ·split at q1
        ·omega
        ·split at q1
         ·omega
         ·omega
      rw [if_neg hk,if_neg h2,if_neg hk2.1,if_neg hk2.2,if_neg hk,if_neg h2]
      refine (ints_tri _ _ _).lex (fun _ _=>(ints_tri _ _ _).lex (fun _ _=>texts_tri _ _ _) (texts_val _ _) (texts_val _ _) (texts_val _ _)) ?_ ?_ ?_
      all_goals exact lex_val (ints_val _ _) (texts_val _ _)
 ·intro m n
  have hv:=cmp_val.2
  cases m with
  | nil=>cases n<;>(simp only [cmpL];unfold Tri;omega)
  | cons u q =>
   cases n with
   | nil=>simp only [cmpL];unfold Tri;omega
   | cons v p =>
    have:=hv (u :: q) (v :: p)
    rw [show cmpL [] (u :: q) = -1 from rfl,show cmpL [] (v :: p) = -1 from rfl]
    unfold Tri;omega
 ·intro m n
  have hv:=cmp_val.2
  cases m with
  | nil =>
   cases n with
   | nil=>simp only [cmpL];unfold Tri;omega
   | cons v p =>
    have:=hv (t :: r) (v :: p)
    rw [show cmpL (t :: r) []=1 from rfl,show cmpL [] (v :: p) = -1 from rfl]
    unfold Tri;omega
  | cons u q =>
   cases n with
   | nil =>
    have:=hv (t :: r) (u :: q)
    rw [show cmpL (t :: r) []=1 from rfl,show cmpL (u :: q) []=1 from rfl]
    unfold Tri;omega
   | cons v p =>
    simp only [cmpL]
    exact (h1 u v).lex (fun _ _=>h2 q p) (hv _ _) (hv _ _) (hv _ _)
theorem bytesLess_self (l:List UInt8):Op.bytesLess l l=false:=by
 induction l with
 | nil=>rfl
 | cons a r ih=>simp [Op.bytesLess,ih]
theorem texts_self (l:List UInt8):texts l l=0:=by unfold texts;simp [bytesLess_self]
theorem cmp_self:(∀t:Tm,cmpT t t=0)∧(∀l:List Tm,cmpL l l=0):=by
 refine Tm.induct2 (fun k n s A c a ih=>?_) rfl (fun t r h1 h2=>?_)
 ·simp only [cmpT,Tm.kind,Tm.num,Tm.name,Tm.args,ints_self,texts_self,ih,lex,if_true]
  split
  ·rfl
  ·split<;>rfl
 ·simp only [cmpL,h1,h2,lex,if_true]
theorem cmpT_flip (t u:Tm):cmpT u t = - cmpT t u:=by
 have h:=cmp_tri.1 t u t
 have h':=cmp_tri.1 u t u
 rw [cmp_self.1] at h h'
 unfold Tri at h h'
 omega
theorem cmpT_congr {t u:Tm} (h:cmpT t u=0) (v:Tm):cmpT v t=cmpT v u:=by
 have h1:=cmp_tri.1 v t u
 have h2:=cmp_tri.1 v u t
 have h3:=cmpT_flip t u
 rw [h] at h1 h3
 rw [h3] at h2
 unfold Tri at h1 h2
 omega
end Go.Proofs.YtnghanpmmbcbbaaGreatDoor
