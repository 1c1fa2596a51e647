/-
  SoTok.
  SoGoal.
  SoRule.
-/
import Derived.Test.YtnghanpmmbcbbaaGreatDoorMq9
import Derived.Test.YtnghanpmmbcbbaaGreatDoorMq3
namespace Go.Proofs.YtnghanpmmbcbbaaGreatDoor
open Go
theorem val_spell (l:List UInt8) (h:∀c∈l,digB c=true):∀a:Nat,l.foldl (fun (n:Int) c=>min (n*10+(c.toNat - 48:Int)) 2147483649) (min (a:Int) 2147483649)=min ((l.foldl (fun a c=>10*a+(c.toNat - 48)) a:Nat):Int) 2147483649:=by
 induction l with
 | nil=>intro a;rfl
 | cons c l ih =>
  intro a
  have hc:=h c (by simp)
  simp only [digB,decide_eq_true_eq] at hc
  rw [List.foldl_cons,List.foldl_cons,← ih (fun x hx=>h x (List.mem_cons_of_mem _ hx)) (10*a+(c.toNat - 48))]
  congr 1
  omega
theorem val_dec {n:Nat} (h:n≤2147483648):valD (Lib.decDigits n)=(n:Int):=by
 have h1:=val_spell (Lib.decDigits n) (dec_dig n) 0
 have h2:spell (Lib.decDigits n)=n:=spell_dec n
 unfold spell at h2
 rw [h2] at h1
 unfold valD
 rw [show (0:Int)=min ((0:Nat):Int) 2147483649 by decide,h1]
 omega
abbrev tkS (s:List UInt8):Tok:=(4,s,false)
def parenK (b:Bool) (x:List Tok):List Tok:=if b then tkS [40] :: (x++[tkS [41]]) else x
def restK:List (List Tok)→List Tok
 | []=>[tkS [41]]
 | x :: r=>tkS [44] :: (x++restK r)
def callK (s:List UInt8):List (List Tok)→List Tok
 | []=>[(1,s,false)]
 | x :: r=>(1,s,false) :: tkS [40] :: (x++restK r)
mutual
def Tm.tok:Tm→List Tok
 | .mk k n s _ _ a=>if k=0 then (if n < 0 then [tkS [45],(3,Lib.decDigits n.natAbs,true)] else [(3,Lib.decDigits n.toNat,false)])
   else if k=1 then [(2,label n.toNat,false)]
   else if opB s.data.toList then parenK (decide ((a.getD 0 default).pw < ostr s.data.toList)) ((tokL2 a).getD 0 [])++tkS s.data.toList :: parenK (decide ((a.getD 1 default).pw≤ostr s.data.toList)) ((tokL2 a).getD 1 [])
   else callK s.data.toList (tokL2 a)
def tokL2:List Tm→List (List Tok)
 | []=>[]
 | t :: r=>t.tok :: tokL2 r
end
def labs (vs:List Int):List (List UInt8):=vs.map fun v=>label v.toNat
def NN (vs:List Int):Prop:=∀v∈vs,0≤v
theorem labs_mem {vs:List Int} (h:NN vs) {n:Nat}:label n∈labs vs↔(n:Int)∈vs:=by
 unfold labs
 rw [List.mem_map]
 constructor
 ·rintro ⟨v,hv,e⟩
  have h1:=label_inj e
  have h2:=h v hv
  have:v=(n:Int):=by omega
  exact this ▸ hv
 ·exact fun hv=>⟨_,hv,by simp⟩
theorem labs_idx {vs:List Int} (h:NN vs) {n:Nat} (hn:(n:Int)∈vs):(labs vs).idxOf (label n)=vs.idxOf (n:Int):=by
 induction vs with
 | nil=>cases hn
 | cons a vs ih =>
  have ha:=h a (by simp)
  unfold labs at ih ⊢
  rw [List.map_cons,List.idxOf_cons,List.idxOf_cons]
  by_cases e:a=(n:Int)
  ·subst e;simp
  ·have e1:(label a.toNat==label n)=false:=by
    rw [beq_eq_false_iff_ne]
    intro e2
    have:=label_inj e2
    omega
   have e2:(a==(n:Int))=false:=by simpa using e
   rw [e1,e2]
   have hn2:(n:Int)∈vs:=by
    rcases List.mem_cons.1 hn with h|h
    ·exact absurd h.symm e
    ·exact h
   rw [ih (fun v hv=>h v (List.mem_cons_of_mem _ hv)) hn2]
theorem name_label {vs W:List Int} (h:NN vs) (n:Nat) (hW:putS vs (n:Int) <+: W):((nameS (label n) (labs vs)).1:Int)=placeS W (n:Int)∧(nameS (label n) (labs vs)).2=labs (putS vs (n:Int)):=by
 have h95:label n≠[95]:=by unfold label;simp
 have hin:(n:Int)∈W:=hW.subset ((putS_mem vs n n).2 (.inr rfl))
 rw [place_in hin]
 unfold nameS
 by_cases hm:(n:Int)∈vs
 ·rw [if_pos ⟨h95,(labs_mem h).2 hm⟩]
  have e:putS vs (n:Int)=vs:=by unfold putS;rw [if_pos hm]
  rw [e] at hW ⊢
  refine ⟨?_,rfl⟩
  rw [labs_idx h hm]
  obtain ⟨z,rfl⟩:=hW
  rw [List.idxOf_append,if_pos hm]
 ·rw [if_neg fun hh=>hm ((labs_mem h).1 hh.2)]
  have e:putS vs (n:Int)=vs++[(n:Int)]:=by unfold putS;rw [if_neg hm]
  rw [e] at hW ⊢
  refine ⟨?_,by simp [labs]⟩
  obtain ⟨z,rfl⟩:=hW
  rw [List.append_assoc,List.idxOf_append,if_neg hm]
  simp [labs]
theorem NN.put {vs:List Int} (h:NN vs) {v:Int} (hv:0≤v):NN (putS vs v):=fun x hx=>by
 rcases (putS_mem vs v x).1 hx with h1|rfl
 ·exact h x h1
 ·exact hv
theorem NN.fold {vs:List Int} (h:NN vs) {o:List Int} (ho:∀v∈o,0≤v):NN (o.foldl putS vs):=fun x hx=>by
 rcases (fold_mem o vs x).1 hx with h1|h1
 ·exact h x h1
 ·exact ho x h1
theorem occ_nn:(∀t:Tm,t.form=true→∀v∈t.occ,0≤v)∧(∀l,formL l=true→∀v∈occL l,0≤v):=by
 refine Tm.induct2 (fun k n s A c a ih=>?_) (fun _ v hv=>by cases hv) (fun t r h1 h2=>?_)
 ·intro hf v hv
  simp only [Tm.form] at hf
  simp only [Tm.occ] at hv
  by_cases k1:k=1
  ·subst k1
   simp only [if_true,show ¬((1:Int)=0) by omega,if_false,Bool.and_eq_true,decide_eq_true_eq] at hf hv
   rw [List.mem_singleton.1 hv];exact hf.1
  ·rw [if_neg k1] at hv
   by_cases k2:k=2
   ·subst k2
    simp only [if_true,show ¬((2:Int)=0) by omega,show ¬((2:Int)=1) by omega,if_false,Bool.and_eq_true] at hf hv
    exact ih hf.2.2 v hv
   ·rw [if_neg k2] at hv;cases hv
 ·intro hf v hv
  simp only [formL,Bool.and_eq_true] at hf
  simp only [occL] at hv
  rcases List.mem_append.1 hv with h|h
  ·exact h1 hf.1 v h
  ·exact h2 hf.2 v h
def hop:List Tok→Nat
 | (4,t,_) :: _=>ostr t
 | _=>2
theorem mul_ops (t:List UInt8):t∈mulS↔ostr t=1:=by
 simp only [mulS,List.mem_cons,List.not_mem_nil,or_false,ostr]
 constructor
 ·rintro (rfl|rfl|rfl)<;>decide
 ·intro h
  split at h
  ·cases h
  ·split at h
   ·assumption
   ·cases h
theorem add_ops (t:List UInt8):t∈addS↔ostr t=0:=by
 simp only [addS,List.mem_cons,List.not_mem_nil,or_false,ostr]
 constructor
 ·rintro (rfl|rfl)<;>decide
 ·intro h
  split at h
  ·assumption
  ·split at h<;>cases h
theorem stop_mul {o:Rd1 Tm} {x:Tm} {k:List Tok} {ns:List (List UInt8)} (h:hop k≠1):chainS mulS o x k ns=.ok x k ns:=by
 cases k with
 | nil=>rw [chainS]
 | cons c r =>
  obtain ⟨q,t,g⟩:=c
  rw [chainS,if_neg]
  rintro ⟨rfl,ht⟩
  exact h ((mul_ops t).1 ht)
theorem stop_add {o:Rd1 Tm} {x:Tm} {k:List Tok} {ns:List (List UInt8)} (h:hop k≠0):chainS addS o x k ns=.ok x k ns:=by
 cases k with
 | nil=>rw [chainS]
 | cons c r =>
  obtain ⟨q,t,g⟩:=c
  rw [chainS,if_neg]
  rintro ⟨rfl,ht⟩
  exact h ((add_ops t).1 ht)
section
variable (W:List Int)
def KA (t:Tm):Prop:=∀n vs k,(t.tok++k).length≤n→isS [40] k=false→NN vs→t.occ.foldl putS vs <+: W→t.pw=2→opndS (exprS n) (t.tok++k) (labs vs)=.ok (t.num2 (placeS W)) k (labs (t.occ.foldl putS vs))
def KB (t:Tm):Prop:=∀n vs k,(t.tok++k).length≤n→isS [40] k=false→NN vs→t.occ.foldl putS vs <+: W→1≤t.pw→levelS mulS (opndS (exprS n)) (t.tok++k) (labs vs)=chainS mulS (opndS (exprS n)) (t.num2 (placeS W)) k (labs (t.occ.foldl putS vs))
def KC (t:Tm):Prop:=∀n vs k,(t.tok++k).length≤n→isS [40] k=false→NN vs→t.occ.foldl putS vs <+: W→hop k≠1→levelS addS (levelS mulS (opndS (exprS n))) (t.tok++k) (labs vs)=chainS addS (levelS mulS (opndS (exprS n))) (t.num2 (placeS W)) k (labs (t.occ.foldl putS vs))
def KD (t:Tm):Prop:=∀n vs k,(t.tok++k).length≤n→isS [40] k=false→NN vs→t.occ.foldl putS vs <+: W→hop k=2→exprS (n+1) (t.tok++k) (labs vs)=.ok (t.num2 (placeS W)) k (labs (t.occ.foldl putS vs))
variable {W}
theorem KA.b {t:Tm} (h:KA W t) (h2:t.pw=2):KB W t:=fun n vs k hn hk hv hw _=>by unfold levelS;rw [h n vs k hn hk hv hw h2]
theorem KB.c {t:Tm} (h:KB W t) (h1:1≤t.pw):KC W t:=fun n vs k hn hk hv hw h3=>by rw [levelS,h n vs k hn hk hv hw h1,stop_mul h3]
theorem KC.d {t:Tm} (h:KC W t):KD W t:=fun n vs k hn hk hv hw h3=>by
 show levelS addS (levelS mulS (opndS (exprS n))) (t.tok++k) (labs vs)=_
 rw [h n vs k hn hk hv hw (by omega),stop_add (by omega)]
theorem group_kead {x:Tm} (h:KD W x) (n:Nat) (vs:List Int) (k:List Tok) (hn:(parenK true x.tok++k).length≤n) (hv:NN vs) (hw:x.occ.foldl putS vs <+: W) :
  opndS (exprS n) (parenK true x.tok++k) (labs vs)=.ok (x.num2 (placeS W)) k (labs (x.occ.foldl putS vs)):=by
 have e:parenK true x.tok++k=tkS [40] :: (x.tok++(tkS [41] :: k)):=by simp [parenK]
 rw [e] at hn ⊢
 simp only [List.length_cons] at hn
 cases n with
 | zero=>omega
 | succ n =>
  have hr:=h n vs (tkS [41] :: k) (by omega) rfl hv hw rfl
  simp only [opndS]
  rw [if_neg (by decide),if_neg (by decide),if_neg (by decide),show isS [45] (tkS [40] :: (x.tok++(tkS [41] :: k)))=false from rfl,if_neg (by decide),show isS [40] (tkS [40] :: (x.tok++(tkS [41] :: k)))=true from rfl,if_pos rfl,hr]
  rfl
theorem operand_kead {x:Tm} (hA:KA W x) (hD:KD W x) (b:Bool) (hb:b=false→x.pw=2) (n:Nat) (vs:List Int) (k:List Tok) (hn:(parenK b x.tok++k).length≤n) (hk:isS [40] k=false) (hv:NN vs) (hw:x.occ.foldl putS vs <+: W) :
  opndS (exprS n) (parenK b x.tok++k) (labs vs)=.ok (x.num2 (placeS W)) k (labs (x.occ.foldl putS vs)):=by
 cases b with
 | false=>exact hA n vs k hn hk hv hw (hb rfl)
 | true=>exact group_kead hD n vs k hn hv hw
theorem args_kead (x:Tm) (r:List Tm) (h:∀y∈x :: r,KD W y∧∀v∈y.occ,0≤v) (n:Nat) (acc:List Tm) (c:Tok) (vs:List Int) (k:List Tok) (hn:(x.tok++(restK (tokL2 r)++k)).length≤n) (hv:NN vs) (hw:(occL (x :: r)).foldl putS vs <+: W) :
  argsS (exprS (n+1)) acc (c :: (x.tok++(restK (tokL2 r)++k))) (labs vs)=.ok (acc++numL2 (placeS W) (x :: r)) k (labs ((occL (x :: r)).foldl putS vs)):=by
 induction r generalizing x acc c vs with
 | nil =>
  simp only [occL,List.append_nil] at hw ⊢
  have hr:=(h x List.mem_cons_self).1 n vs (tkS [41] :: k) (by simpa [tokL2,restK] using hn) rfl hv hw rfl
  simp only [tokL2,restK,List.cons_append,List.nil_append]
  rw [argsS,List.tail_cons,hr]
  rfl
 | cons y r ih =>
  simp only [occL,List.foldl_append] at hw ⊢
  obtain ⟨hx,hxn⟩:=h x List.mem_cons_self
  have hw1:x.occ.foldl putS vs <+: W:=((fold_prefix y.occ _).trans (fold_prefix (occL r) _)).trans hw
  have hr:=hx n vs (tkS [44] :: (y.tok++(restK (tokL2 r)++k))) (by simpa [tokL2,restK] using hn) rfl hv hw1 rfl
  have hv1:NN (x.occ.foldl putS vs):=hv.fold hxn
  have hi:=ih y (fun z hz=>h z (List.mem_cons_of_mem _ hz)) (acc++[x.num2 (placeS W)]) (tkS [44]) (x.occ.foldl putS vs) (by
   simp only [tokL2,restK,List.cons_append,List.length_append,List.length_cons] at hn ⊢;omega) hv1 (by simpa only [occL,List.foldl_append] using hw)
  simp only [tokL2,restK,List.cons_append,List.append_assoc]
  rw [argsS,List.tail_cons,hr]
  simp only
  rw [show isS [44] (tkS [44] :: (y.tok++(restK (tokL2 r)++k)))=true from rfl,if_pos rfl,dif_pos (by simp only [List.length_cons,List.length_append];omega),hi]
  simp [numL2,occL]
theorem atom_kead {s:List UInt8} (hs:resB s=false) (l:List Tm) (h:∀y∈l,KD W y∧∀v∈y.occ,0≤v) (n:Nat) (vs:List Int) (k:List Tok) (hn:(callK s (tokL2 l)++k).length≤n) (hk:isS [40] k=false) (hv:NN vs) (hw:(occL l).foldl putS vs <+: W) :
  atomS (exprS n) (callK s (tokL2 l)++k) (labs vs)=.ok (s,numL2 (placeS W) l) k (labs ((occL l).foldl putS vs)):=by
 cases l with
 | nil =>
  simp only [tokL2,callK,List.cons_append,List.nil_append]
  unfold atomS
  simp only [nmS]
  rw [if_neg (by decide),hs,if_neg (by decide)]
  simp only
  rw [hk,if_neg (by decide)]
  rfl
 | cons x r =>
  simp only [tokL2,callK,List.cons_append,List.append_assoc] at hn ⊢
  simp only [List.length_cons] at hn
  cases n with
  | zero=>omega
  | succ n =>
   have ha:=args_kead x r h n [] (tkS [40]) vs k (by omega) hv hw
   unfold atomS
   simp only [nmS]
   rw [if_neg (by decide),hs,if_neg (by decide)]
   simp only
   rw [show isS [40] (tkS [40] :: (x.tok++(restK (tokL2 r)++k)))=true from rfl,if_pos rfl,ha]
   rfl
theorem kead (t:Tm) (hf:t.form=true):KA W t∧KB W t∧KC W t∧KD W t:=by
 induction t using Tm.induct with
 | h k0 m s A c a ih =>
  suffices H:(KA W (.mk k0 m s A c a)∧(Tm.mk k0 m s A c a).pw=2)∨((Tm.mk k0 m s A c a).pw < 2∧(1≤(Tm.mk k0 m s A c a).pw→KB W (.mk k0 m s A c a))∧((Tm.mk k0 m s A c a).pw=0→KC W (.mk k0 m s A c a))) by
   rcases H with ⟨h1,h2⟩|⟨h1,h2,h3⟩
   ·have hb:=h1.b h2
    have hc:=hb.c (by omega)
    exact ⟨h1,hb,hc,hc.d⟩
   ·have hA:KA W (.mk k0 m s A c a):=fun _ _ _ _ _ _ _ h=>by omega
    by_cases hp:(Tm.mk k0 m s A c a).pw=0
    ·exact ⟨hA,fun _ _ _ _ _ _ _ h=>by omega,h3 hp,(h3 hp).d⟩
    ·have hb:=h2 (by omega)
     have hc:=hb.c (by omega)
     exact ⟨hA,hb,hc,hc.d⟩
  have hnn:=occ_nn.1 (.mk k0 m s A c a) hf
  simp only [Tm.form] at hf
  by_cases hk0:k0=0
  ·subst hk0
   simp only [if_true,Bool.and_eq_true,decide_eq_true_eq] at hf
   obtain ⟨h1,h2,h3,h4⟩:=hf
   obtain rfl:a=[]:=List.length_eq_zero_iff.1 h4
   have hs:s=⟨#[]⟩:=WideShapes.bytes_inj (by rw [show s.data=#[] from Array.eq_empty_of_size_eq_zero h3])
   subst hs
   refine .inl ⟨fun n vs k hn hk hv hw _=>?_,(by decide:ostr []=2)⟩
   have ho:(Tm.mk 0 m ⟨#[]⟩ A c []).occ=[]:=rfl
   have hnum:(Tm.mk 0 m ⟨#[]⟩ A c []).num2 (placeS W)=intS m:=rfl
   rw [ho,hnum]
   by_cases hm:m < 0
   ·have e:(Tm.mk 0 m ⟨#[]⟩ A c []).tok=[tkS [45],(3,Lib.decDigits m.natAbs,true)]:=by simp [Tm.tok,hm]
    rw [e]
    simp only [List.cons_append,List.nil_append,opndS]
    rw [if_neg (by decide),if_neg (by decide),if_neg (by decide),show isS [45] (tkS [45] :: (3,Lib.decDigits m.natAbs,true) :: k)=true from rfl,if_pos rfl,if_pos (by simp),val_dec (by omega)]
    rw [show -((m.natAbs:Nat):Int)=m by omega]
    rfl
   ·have e:(Tm.mk 0 m ⟨#[]⟩ A c []).tok=[(3,Lib.decDigits m.toNat,false)]:=by simp [Tm.tok,hm]
    rw [e]
    simp only [List.cons_append,List.nil_append,opndS]
    rw [if_pos (by simp),val_dec (by omega),show ((m.toNat:Nat):Int)=m by omega]
    rfl
  ·by_cases hk1:k0=1
   ·subst hk1
    simp only [if_true,show ¬((1:Int)=0) by omega,if_false,Bool.and_eq_true,decide_eq_true_eq] at hf
    obtain ⟨h1,h2,h3,h4⟩:=hf
    obtain rfl:a=[]:=List.length_eq_zero_iff.1 h4
    have hs:s=⟨#[]⟩:=WideShapes.bytes_inj (by rw [show s.data=#[] from Array.eq_empty_of_size_eq_zero h3])
    subst hs
    obtain ⟨q,rfl⟩:∃q:Nat,m=(q:Int):=⟨m.toNat,by omega⟩
    refine .inl ⟨fun n vs k hn hk hv hw _=>?_,(by decide:ostr []=2)⟩
    have e:(Tm.mk 1 (q:Int) ⟨#[]⟩ A c []).tok=[(2,label q,false)]:=by simp [Tm.tok]
    have ho:(Tm.mk 1 (q:Int) ⟨#[]⟩ A c []).occ=[(q:Int)]:=rfl
    rw [ho] at hw ⊢
    obtain ⟨n1,n2⟩:=name_label hv q hw
    rw [e]
    simp only [List.cons_append,List.nil_append,opndS]
    rw [if_neg (by decide),if_pos (by simp)]
    have hx:varS (nameS (label q) (labs vs)).1=(Tm.mk 1 (q:Int) ⟨#[]⟩ A c []).num2 (placeS W):=by
     simp only [varS,Tm.num2,if_true,n1];rfl
    rw [hx,n2];rfl
   ·by_cases hk2:k0=2
    ·subst hk2
     simp only [show ¬((2:Int)=0) by omega,show ¬((2:Int)=1) by omega,if_false,if_true,Bool.and_eq_true,Bool.or_eq_true,decide_eq_true_eq] at hf
     obtain ⟨rfl,hs,hfl⟩:=hf
     have ih':∀x∈a,KA W x∧KB W x∧KC W x∧KD W x:=fun x hx=>ih x hx (formL_mem hx hfl)
     have hocc:(Tm.mk 2 0 s A c a).occ=occL a:=by simp [Tm.occ]
     rw [hocc] at hnn
     by_cases ho:opB s.data.toList=true
     ·have ha2:a.length=2:=by
       rcases hs with hs|hs
       ·exact hs.2
       ·rw [(op_right ho).1] at hs;cases hs.1
      obtain ⟨x,y,rfl⟩:∃x y,a=[x,y]:=by
       match a,ha2 with
       | [x,y],_=>exact ⟨x,y,rfl⟩
      obtain ⟨xA,xB,xC,xD⟩:=ih' x (by simp)
      obtain ⟨yA,yB,yC,yD⟩:=ih' y (by simp)
      have hpw:ostr s.data.toList < 2:=(ostr_op _).1 ho
      have h40:∀r,isS [40] (tkS s.data.toList :: r)=false:=fun r=>by
       have:s.data.toList≠[40]:=fun e=>by rw [e] at hpw;exact absurd hpw (by decide)
       simpa [isS] using this
      have htx:∀k,(Tm.mk 2 0 s A c [x,y]).tok++k=parenK (decide (x.pw < ostr s.data.toList)) x.tok++(tkS s.data.toList :: (parenK (decide (y.pw≤ostr s.data.toList)) y.tok++k)):=fun k=>by
       simp only [Tm.tok,show ¬((2:Int)=0) by omega,show ¬((2:Int)=1) by omega,if_false,tokL2]
       rw [if_pos ho]
       simp
      have hnum:(Tm.mk 2 0 s A c [x,y]).num2 (placeS W)=funS s.data.toList [x.num2 (placeS W),y.num2 (placeS W)]:=by
       simp [Tm.num2,numL2,funS]
      have hoc2:∀vs,(Tm.mk 2 0 s A c [x,y]).occ.foldl putS vs=y.occ.foldl putS (x.occ.foldl putS vs):=fun vs=>by
       rw [hocc];simp [occL,List.foldl_append]
      have hxn:∀v∈x.occ,0≤v:=fun v hv=>hnn v (by simp [occL,hv])
      refine .inr ⟨hpw,fun hp n vs k hn hk hv hw _=>?_,fun hp n vs k hn hk hv hw hns=>?_⟩
      ·have hp:ostr s.data.toList=1:=by have:ostr s.data.toList ≥ 1:=hp;omega
       rw [htx] at hn ⊢
       rw [hoc2] at hw ⊢
       rw [hnum]
       have hw1:x.occ.foldl putS vs <+: W:=(fold_prefix y.occ _).trans hw
       have step:chainS mulS (opndS (exprS n)) (x.num2 (placeS W)) (tkS s.data.toList :: (parenK (decide (y.pw≤ostr s.data.toList)) y.tok++k)) (labs (x.occ.foldl putS vs))=chainS mulS (opndS (exprS n)) (funS s.data.toList [x.num2 (placeS W),y.num2 (placeS W)]) k (labs (y.occ.foldl putS (x.occ.foldl putS vs))):=by
        have hy:=operand_kead yA yD (decide (y.pw≤ostr s.data.toList)) (fun h=>by have:=pw_hi y;simp at h;omega) n (x.occ.foldl putS vs) k (by simp only [List.length_append,List.length_cons] at hn ⊢;omega) hk (hv.fold hxn) hw
        rw [chainS,if_pos ⟨rfl,(mul_ops _).2 hp⟩,hy]
        simp only
        rw [dif_pos (by simp only [List.length_cons,List.length_append];omega)]
       by_cases hx:x.pw < ostr s.data.toList
       ·have hx1:=operand_kead xA xD (decide (x.pw < ostr s.data.toList)) (fun h=>by simp at h;omega) n vs _ hn (h40 _) hv hw1
        unfold levelS
        rw [hx1]
        exact step
       ·have hd:decide (x.pw < ostr s.data.toList)=false:=by simpa using hx
        rw [hd] at hn ⊢
        rw [show parenK false x.tok=x.tok from rfl,xB n vs _ hn (h40 _) hv hw1 (by omega)]
        exact step
      ·have hp:ostr s.data.toList=0:=hp
       rw [htx] at hn ⊢
       rw [hoc2] at hw ⊢
       rw [hnum]
       have hw1:x.occ.foldl putS vs <+: W:=(fold_prefix y.occ _).trans hw
       have hd:decide (x.pw < ostr s.data.toList)=false:=by simp;omega
       rw [hd] at hn ⊢
       have hh:hop (tkS s.data.toList :: (parenK (decide (y.pw≤ostr s.data.toList)) y.tok++k))=0:=hp
       rw [show parenK false x.tok=x.tok from rfl,xC n vs _ hn (h40 _) hv hw1 (by omega)]
       have hny:(parenK (decide (y.pw≤ostr s.data.toList)) y.tok++k).length≤n:=by simp only [List.length_append,List.length_cons] at hn ⊢;omega
       have hy:levelS mulS (opndS (exprS n)) (parenK (decide (y.pw≤ostr s.data.toList)) y.tok++k) (labs (x.occ.foldl putS vs))=.ok (y.num2 (placeS W)) k (labs (y.occ.foldl putS (x.occ.foldl putS vs))):=by
        by_cases hyp:y.pw≤ostr s.data.toList
        ·have:=operand_kead yA yD (decide (y.pw≤ostr s.data.toList)) (fun h=>by simp at h;omega) n _ k hny hk (hv.fold hxn) hw
         unfold levelS
         rw [this]
         exact stop_mul hns
        ·have hd:decide (y.pw≤ostr s.data.toList)=false:=by simpa using hyp
         rw [hd] at hny ⊢
         rw [show parenK false y.tok=y.tok from rfl,yB n _ k hny hk (hv.fold hxn) hw (by omega)]
         exact stop_mul hns
       rw [chainS,if_pos ⟨rfl,(add_ops _).2 hp⟩,hy]
       simp only
       rw [dif_pos (by simp only [List.length_cons,List.length_append];omega)]
     ·have ho':opB s.data.toList=false:=by simpa using ho
      have hr:rightB s.data.toList=true:=by
       rcases hs with hs|hs
       ·exact absurd hs.1 ho
       ·exact hs.1
      have hp2:(Tm.mk 2 0 s A c a).pw=2:=by
       have h1:=ostr_hi s.data.toList
       have h2:=(ostr_op s.data.toList).2
       show ostr s.data.toList=2
       by_cases h:ostr s.data.toList < 2
       ·exact absurd (h2 h) ho
       ·omega
      refine .inl ⟨fun n vs k hn hk hv hw _=>?_,hp2⟩
      have htx:(Tm.mk 2 0 s A c a).tok=callK s.data.toList (tokL2 a):=by
       simp only [Tm.tok,show ¬((2:Int)=0) by omega,show ¬((2:Int)=1) by omega,if_false,ho',Bool.false_eq_true]
      rw [htx] at hn ⊢
      rw [hocc] at hw ⊢
      have hat:=atom_kead (right_res hr) a (fun y hy=>⟨(ih' y hy).2.2.2,fun v hv=>occ_nn.1 y (formL_mem hy hfl) v hv⟩) n vs k hn hk hv hw
      have hhead:∃d,callK s.data.toList (tokL2 a)++k=(1,s.data.toList,false) :: d:=by
       cases a with
       | nil=>exact ⟨k,rfl⟩
       | cons x r=>exact ⟨_,rfl⟩
      obtain ⟨d,hd⟩:=hhead
      rw [hd] at hat ⊢
      simp only [opndS]
      rw [if_neg (by decide),if_neg (by decide),if_pos (by simp),hat]
      simp [Tm.num2,funS]
    ·simp [hk0,hk1,hk2] at hf
end
end Go.Proofs.YtnghanpmmbcbbaaGreatDoor
namespace Go.Proofs.YtnghanpmmbcbbaaGreatDoor
open Go
theorem tok_first:∀t:Tm,t.form=true→∃k s f d,t.tok=(k,s,f) :: d∧(k=1→resB s=false)∧k≠0:=by
 intro t
 induction t using Tm.induct with
 | h k0 m s A c a ih =>
  intro hf
  simp only [Tm.form] at hf
  by_cases hk0:k0=0
  ·subst hk0
   by_cases hm:m < 0
   ·exact ⟨4,[45],false,[(3,Lib.decDigits m.natAbs,true)],by simp [Tm.tok,hm],(fun h=>by cases h),by decide⟩
   ·exact ⟨3,Lib.decDigits m.toNat,false,[],by simp [Tm.tok,hm],(fun h=>by cases h),by decide⟩
  ·by_cases hk1:k0=1
   ·subst hk1
    exact ⟨2,label m.toNat,false,[],by simp [Tm.tok],(fun h=>by cases h),by decide⟩
   ·by_cases hk2:k0=2
    ·subst hk2
     simp only [show ¬((2:Int)=0) by omega,show ¬((2:Int)=1) by omega,if_false,if_true,Bool.and_eq_true,Bool.or_eq_true,decide_eq_true_eq] at hf
     obtain ⟨rfl,hs,hfl⟩:=hf
     by_cases ho:opB s.data.toList=true
     ·have ha2:a.length=2:=by
       rcases hs with hs|hs
       ·exact hs.2
       ·rw [(op_right ho).1] at hs;cases hs.1
      obtain ⟨x,y,rfl⟩:∃x y,a=[x,y]:=by
       match a,ha2 with
       | [x,y],_=>exact ⟨x,y,rfl⟩
      have htx:(Tm.mk 2 0 s A c [x,y]).tok=parenK (decide (x.pw < ostr s.data.toList)) x.tok++(tkS s.data.toList :: (parenK (decide (y.pw≤ostr s.data.toList)) y.tok)):=by
       simp only [Tm.tok,show ¬((2:Int)=0) by omega,show ¬((2:Int)=1) by omega,if_false,tokL2]
       rw [if_pos ho]
       simp
      rw [htx]
      cases decide (x.pw < ostr s.data.toList) with
      | true=>exact ⟨4,[40],false,_,rfl,(fun h=>by cases h),by decide⟩
      | false =>
       obtain ⟨k,t,f,d,e,h1,h2⟩:=ih x (by simp) (formL_mem (by simp) hfl)
       exact ⟨k,t,f,_,by rw [show parenK false x.tok=x.tok from rfl,e];rfl,h1,h2⟩
     ·have ho':opB s.data.toList=false:=by simpa using ho
      have hr:rightB s.data.toList=true:=by
       rcases hs with hs|hs
       ·exact absurd hs.1 ho
       ·exact hs.1
      have htx:(Tm.mk 2 0 s A c a).tok=callK s.data.toList (tokL2 a):=by
       simp only [Tm.tok,show ¬((2:Int)=0) by omega,show ¬((2:Int)=1) by omega,if_false,ho',Bool.false_eq_true]
      rw [htx]
      cases a with
      | nil=>exact ⟨1,_,false,_,rfl,(fun _=>right_res hr),by decide⟩
      | cons x r=>exact ⟨1,_,false,_,rfl,(fun _=>right_res hr),by decide⟩
    ·simp [hk0,hk1,hk2] at hf
def cmpK (op:Int):Tok :=
 if op=4 then (1,[105,115],false)
 else tkS (if op=3 then [61] else if op=5 then [61,61] else if op=6 then [92,61] else if op=7 then [60] else if op=8 then [61,60] else if op=9 then [61,58,61] else [61,92,61])
def Gs.tok (g:Gs):List Tok :=
 if g.1=0 then callK g.2.1 (tokL2 g.2.2)
 else if g.1=1 then [(1,[116,114,117,101],false)]
 else if g.1=2 then [(1,[102,97,105,108],false)]
 else if g.1=11 then (1,[105,110,116],false) :: tkS [40] :: ((g.2.2.getD 0 default).tok++[tkS [41]])
 else if g.1=12 then (1,[103,114,111,117,110,100],false) :: tkS [40] :: ((g.2.2.getD 0 default).tok++[tkS [41]])
 else (g.2.2.getD 0 default).tok++cmpK g.1 :: (g.2.2.getD 1 default).tok
def Behind (k:List Tok):Prop:=isS [40] k=false∧hop k=2∧(cmpS k).1=0
theorem cmp_of (op:Int) (h:2 < op∧op < 11) (k:List Tok):cmpS (cmpK op :: k)=(op,false)∧isS [40] (cmpK op :: k)=false∧hop (cmpK op :: k)=2:=by
 have:op=3∨op=4∨op=5∨op=6∨op=7∨op=8∨op=9∨op=10:=by omega
 rcases this with rfl|rfl|rfl|rfl|rfl|rfl|rfl|rfl<;>exact ⟨rfl,rfl,rfl⟩
theorem form_L {l:List Tm} (h:rightT l=true):formL l=true:=by
 simp only [rightT,Bool.and_eq_true] at h;exact h.1
section
variable {W:List Int}
theorem call_kead (s:List UInt8) (l:List Tm) (hr:rightA s l=true) (n:Nat) (vs:List Int) (k:List Tok) (hn:(callK s (tokL2 l)++k).length≤n) (hk:isS [40] k=false) (hv:NN vs) (hw:(occL l).foldl putS vs <+: W) :
  atomS (exprS n) (callK s (tokL2 l)++k) (labs vs)=.ok (s,numL2 (placeS W) l) k (labs ((occL l).foldl putS vs)):=by
 simp only [rightA,Bool.and_eq_true] at hr
 have hf:=form_L hr.2.2
 exact atom_kead (right_res hr.1) l (fun y hy=>⟨(kead y (formL_mem hy hf)).2.2.2,fun v hv=>occ_nn.1 y (formL_mem hy hf) v hv⟩) n vs k hn hk hv hw
theorem goal_kead (g:Gs) (hr:rightG g=true) (n:Nat) (vs:List Int) (k:List Tok) (hn:(g.tok++k).length≤n) (hk:Behind k) (hv:NN vs) (hw:(occL g.2.2).foldl putS vs <+: W) :
  goalS (exprS (n+1)) (g.tok++k) (labs vs)=.ok (g.num2 (placeS W)) k (labs ((occL g.2.2).foldl putS vs)):=by
 obtain ⟨op,s,l⟩:=g
 obtain ⟨k1,k2,k3⟩:=hk
 by_cases h0:op=0
 ·subst h0
  have hr':rightA s l=true:=hr
  have e:Gs.tok ((0:Int),s,l)=callK s (tokL2 l):=rfl
  rw [e] at hn ⊢
  have hA:=hr'
  simp only [rightA,Bool.and_eq_true] at hA
  have hf:=form_L hA.2.2
  have hno:opB s=false:=right_op hA.1
  -- as a term
  have hform:(funS s l).form=true:=by
   simp only [funS,Tm.form,show ¬((2:Int)=0) by omega,show ¬((2:Int)=1) by omega,if_false,if_true,Bool.and_eq_true,Bool.or_eq_true,decide_eq_true_eq]
   exact ⟨trivial,.inr ⟨hA.1,of_decide_eq_true hA.2.1⟩,hf⟩
  have htok:(funS s l).tok=callK s (tokL2 l):=by
   simp only [funS,Tm.tok,show ¬((2:Int)=0) by omega,show ¬((2:Int)=1) by omega,if_false]
   rw [if_neg (by simpa using hno)]
  have hocc:(funS s l).occ=occL l:=by simp [funS,Tm.occ]
  have hnum:(funS s l).num2 (placeS W)=funS s (numL2 (placeS W) l):=by simp [funS,Tm.num2]
  have hD:=(kead (W:=W) (funS s l) hform).2.2.2 n vs k (by rw [htok];exact hn) k1 hv (by rw [hocc];exact hw) k2
  rw [htok,hocc,hnum] at hD
  have hhead:∃d,callK s (tokL2 l)++k=(1,s,false) :: d:=by
   cases l with
   | nil=>exact ⟨k,rfl⟩
   | cons x r=>exact ⟨_,rfl⟩
  obtain ⟨d,hd⟩:=hhead
  rw [hd] at hD ⊢
  simp only [goalS]
  rw [if_neg (by rw [right_res hA.1];simp),hD]
  simp only
  rw [if_pos k3,if_pos ⟨by simp,by simp [funS,Tm.name]⟩]
  rfl
 ·rw [rightG_op h0] at hr
  simp only [Bool.and_eq_true,decide_eq_true_eq] at hr
  obtain ⟨rfl,hlen,hrt⟩:=hr
  have hf:=form_L hrt
  by_cases h1:op=1
  ·subst h1
   have ha:arityS 1=0:=by decide
   have hl:l=[]:=List.length_eq_zero_iff.1 (by omega)
   subst hl
   rfl
  ·by_cases h2:op=2
   ·subst h2
    have ha:arityS 2=0:=by decide
    have hl:l=[]:=List.length_eq_zero_iff.1 (by omega)
    subst hl
    rfl
   ·by_cases h11:op=11∨op=12
    ·have hl:l.length=1:=by
      have:arityS op=1:=by unfold arityS;rw [if_neg (by omega),if_pos h11]
      omega
     obtain ⟨x,rfl⟩:∃x,l=[x]:=by
      match l,hl with
      | [x],_=>exact ⟨x,rfl⟩
     have hfx:x.form=true:=formL_mem (by simp) hf
     simp only [occL,List.append_nil] at hw ⊢
     have hD:=fun hnn=>(kead (W:=W) x hfx).2.2.2 n vs (tkS [41] :: k) hnn rfl hv hw rfl
     rcases h11 with rfl|rfl
     ·have e:Gs.tok ((11:Int),[],[x])++k=(1,[105,110,116],false) :: tkS [40] :: (x.tok++(tkS [41] :: k)):=by simp [Gs.tok]
      rw [e] at hn ⊢
      simp only [goalS]
      rw [if_pos (by decide),if_neg (by decide),if_neg (by decide),if_pos (by decide),show isS [40] (tkS [40] :: (x.tok++(tkS [41] :: k)))=true from rfl,if_pos rfl,List.tail_cons,hD (by simp only [List.length_cons] at hn;omega)]
      rfl
     ·have e:Gs.tok ((12:Int),[],[x])++k=(1,[103,114,111,117,110,100],false) :: tkS [40] :: (x.tok++(tkS [41] :: k)):=by simp [Gs.tok]
      rw [e] at hn ⊢
      simp only [goalS]
      rw [if_pos (by decide),if_neg (by decide),if_neg (by decide),if_pos (by decide),show isS [40] (tkS [40] :: (x.tok++(tkS [41] :: k)))=true from rfl,if_pos rfl,List.tail_cons,hD (by simp only [List.length_cons] at hn;omega)]
      rfl
    ·have hop':2 < op∧op < 11:=by
      unfold arityS at hlen
      rw [if_neg (by omega),if_neg h11] at hlen
      split at hlen
      ·assumption
      ·omega
     have hl:l.length=2:=by
      have:arityS op=2:=by unfold arityS;rw [if_neg (by omega),if_neg h11,if_pos hop']
      omega
     obtain ⟨x,y,rfl⟩:∃x y,l=[x,y]:=by
      match l,hl with
      | [x,y],_=>exact ⟨x,y,rfl⟩
     have hfx:x.form=true:=formL_mem (by simp) hf
     have hfy:y.form=true:=formL_mem (by simp) hf
     have e:Gs.tok (op,[],[x,y])++k=x.tok++(cmpK op :: (y.tok++k)):=by
      simp only [Gs.tok]
      rw [if_neg h0,if_neg h1,if_neg h2,if_neg (by omega),if_neg (by omega)]
      simp
     rw [e] at hn ⊢
     simp only [occL,List.append_nil,List.foldl_append] at hw ⊢
     obtain ⟨c1,c2,c3⟩:=cmp_of op hop' (y.tok++k)
     have hX:=(kead (W:=W) x hfx).2.2.2 n vs (cmpK op :: (y.tok++k)) hn c2 hv ((fold_prefix _ _).trans hw) c3
     have hY:=(kead (W:=W) y hfy).2.2.2 n (x.occ.foldl putS vs) k (by simp only [List.length_append,List.length_cons] at hn ⊢;omega) k1 (hv.fold (occ_nn.1 x hfx)) hw k2
     obtain ⟨q,u,f,d,hd,hq,_⟩:=tok_first x hfx
     rw [hd] at hX ⊢
     simp only [List.cons_append] at hX ⊢
     simp only [goalS]
     rw [if_neg (by rintro ⟨a,b⟩;rw [hq a] at b;cases b),hX]
     simp only
     rw [c1,if_neg (by simp only;omega),List.tail_cons,hY]
     rfl
end
def gsepK:List Gs→List Tok
 | []=>[]
 | [g]=>g.tok
 | g :: h :: r=>g.tok++tkS [44] :: gsepK (h :: r)
theorem place_bound {W:List Int} (hW:W.length≤1048576) {v:Int} (hv:v∈W):0≤placeS W v∧placeS W v≤1048576:=by
 rw [place_in hv]
 have:=List.idxOf_lt_length_iff.2 hv
 omega
theorem behind_comma (r:List Tok):Behind (tkS [44] :: r):=⟨rfl,rfl,rfl⟩
theorem goals_kead {W:List Int} (hW:W.length≤1048576) (most:Nat):∀(l:List Gs),l≠[]→AllG l→∀(n:Nat) (acc:List Gs) (vs:List Int) (k:List Tok),(gsepK l++k).length≤n→acc.length+l.length≤most→isS [44] k=false→Behind k→NN vs→(occL (l.flatMap (·.2.2))).foldl putS vs <+: W →
  goalsS (exprS (n+1)) most acc (gsepK l++k) (labs vs)=.ok (acc++l.map (Gs.num2 (placeS W))) k (labs ((occL (l.flatMap (·.2.2))).foldl putS vs))
 | [],h,_,_,_,_,_,_,_,_,_,_,_=>absurd rfl h
 | [g],_,hg,n,acc,vs,k,hn,hm,hc,hk,hv,hw=>by
  have hr:=hg g (by simp)
  simp only [List.flatMap_cons,List.flatMap_nil,List.append_nil] at hw ⊢
  have h1:=goal_kead g hr n vs k hn hk hv hw
  have h2:rightG (g.num2 (placeS W))=true:=num2_rightG hr (fun v hv'=>place_bound hW (hw.subset ((fold_mem _ _ _).2 (.inr hv'))))
  rw [goalsS,if_neg (by simp only [List.length_cons,List.length_nil] at hm;omega)]
  simp only [gsepK]
  rw [h1]
  simp only
  rw [h2,if_neg (by decide),hc,if_neg (by decide)]
  rfl
 | g :: h :: r,_,hg,n,acc,vs,k,hn,hm,hc,hk,hv,hw=>by
  have hr:=hg g (by simp)
  have e:gsepK (g :: h :: r)++k=g.tok++(tkS [44] :: (gsepK (h :: r)++k)):=by simp [gsepK]
  rw [e] at hn ⊢
  have hsplit:(occL ((g :: h :: r).flatMap (·.2.2))).foldl putS vs=(occL ((h :: r).flatMap (·.2.2))).foldl putS ((occL g.2.2).foldl putS vs):=by
   rw [List.flatMap_cons,occL_append,List.foldl_append]
  rw [hsplit] at hw ⊢
  have hw1:(occL g.2.2).foldl putS vs <+: W:=(fold_prefix _ _).trans hw
  have hf:formL g.2.2=true:=by
   obtain ⟨op,s,l⟩:=g
   by_cases h0:op=0
   ·subst h0
    have hr':rightA s l=true:=hr
    simp only [rightA,Bool.and_eq_true] at hr'
    exact form_L hr'.2.2
   ·rw [rightG_op h0] at hr
    simp only [Bool.and_eq_true] at hr
    exact form_L hr.2.2
  have h1:=goal_kead g hr n vs (tkS [44] :: (gsepK (h :: r)++k)) hn (behind_comma _) hv hw1
  have h2:rightG (g.num2 (placeS W))=true:=num2_rightG hr (fun v hv'=>place_bound hW (hw1.subset ((fold_mem _ _ _).2 (.inr hv'))))
  have hi:=goals_kead hW most (h :: r) (by simp) (fun x hx=>hg x (List.mem_cons_of_mem _ hx)) n (acc++[g.num2 (placeS W)]) ((occL g.2.2).foldl putS vs) k (by simp only [List.length_append,List.length_cons] at hn ⊢;omega) (by simp only [List.length_append,List.length_cons,List.length_nil] at hm ⊢;omega) hc hk (hv.fold (occ_nn.2 _ hf)) hw
  rw [goalsS,if_neg (by simp only [List.length_cons] at hm;omega),h1]
  simp only
  rw [h2,if_neg (by decide),show isS [44] (tkS [44] :: (gsepK (h :: r)++k))=true from rfl,if_pos rfl,dif_pos (by simp only [List.tail_cons,List.length_append,List.length_cons];omega),List.tail_cons,hi]
  simp
def As.tok (a:As):List Tok:=callK a.1 (tokL2 a.2)
def asepK:List As→List Tok
 | []=>[]
 | [a]=>a.tok
 | a :: b :: r=>a.tok++tkS [44] :: asepK (b :: r)
theorem rightA_form {a:As} (h:rightA a.1 a.2=true):formL a.2=true:=by
 simp only [rightA,Bool.and_eq_true] at h
 exact form_L h.2.2
theorem heads_kead {W:List Int} (hW:W.length≤1048576) (before:Nat):∀(l:List As),l≠[]→AllA l→∀(n:Nat) (acc:List As) (vs:List Int) (k:List Tok),(asepK l++k).length≤n→before+acc.length+l.length≤4→isS [44] k=false→isS [40] k=false→NN vs→(occL (l.flatMap (·.2))).foldl putS vs <+: W →
  headsS (exprS n) before acc (asepK l++k) (labs vs)=.ok (acc++l.map (As.num2 (placeS W))) k (labs ((occL (l.flatMap (·.2))).foldl putS vs))
 | [],h,_,_,_,_,_,_,_,_,_,_,_=>absurd rfl h
 | [a],_,hg,n,acc,vs,k,hn,hm,hc,hk,hv,hw=>by
  have hr:=hg a (by simp)
  simp only [List.flatMap_cons,List.flatMap_nil,List.append_nil] at hw ⊢
  have h1:=call_kead a.1 a.2 hr n vs k hn hk hv hw
  have h2:rightA a.1 (numL2 (placeS W) a.2)=true:=num2_rightA hr (fun v hv'=>place_bound hW (hw.subset ((fold_mem _ _ _).2 (.inr hv'))))
  rw [headsS,if_neg (by simp only [List.length_cons,List.length_nil] at hm;omega)]
  simp only [asepK,As.tok]
  rw [h1]
  simp only
  rw [h2,if_neg (by decide),hc,if_neg (by decide)]
  rfl
 | a :: b :: r,_,hg,n,acc,vs,k,hn,hm,hc,hk,hv,hw=>by
  have hr:=hg a (by simp)
  have e:asepK (a :: b :: r)++k=a.tok++(tkS [44] :: (asepK (b :: r)++k)):=by simp [asepK]
  rw [e] at hn ⊢
  have hsplit:(occL ((a :: b :: r).flatMap (·.2))).foldl putS vs=(occL ((b :: r).flatMap (·.2))).foldl putS ((occL a.2).foldl putS vs):=by
   rw [List.flatMap_cons,occL_append,List.foldl_append]
  rw [hsplit] at hw ⊢
  have hw1:(occL a.2).foldl putS vs <+: W:=(fold_prefix _ _).trans hw
  have h1:=call_kead a.1 a.2 hr n vs (tkS [44] :: (asepK (b :: r)++k)) hn rfl hv hw1
  have h2:rightA a.1 (numL2 (placeS W) a.2)=true:=num2_rightA hr (fun v hv'=>place_bound hW (hw1.subset ((fold_mem _ _ _).2 (.inr hv'))))
  have hi:=heads_kead hW before (b :: r) (by simp) (fun x hx=>hg x (List.mem_cons_of_mem _ hx)) n (acc++[As.num2 (placeS W) a]) ((occL a.2).foldl putS vs) k (by simp only [List.length_append,List.length_cons] at hn ⊢;omega) (by simp only [List.length_append,List.length_cons,List.length_nil] at hm ⊢;omega) hc hk (hv.fold (occ_nn.2 _ (rightA_form hr))) hw
  rw [headsS,if_neg (by simp only [List.length_cons] at hm;omega),show a.tok=callK a.1 (tokL2 a.2) from rfl,h1]
  simp only
  rw [h2,if_neg (by decide),show isS [44] (tkS [44] :: (asepK (b :: r)++k))=true from rfl,if_pos rfl,dif_pos (by simp only [List.tail_cons,List.length_append,List.length_cons];omega),List.tail_cons]
  show headsS (exprS n) before (acc++[As.num2 (placeS W) a]) (asepK (b :: r)++k) (labs ((occL a.2).foldl putS vs))=_
  rw [hi]
  simp
end Go.Proofs.YtnghanpmmbcbbaaGreatDoor
namespace Go.Proofs.YtnghanpmmbcbbaaGreatDoor
open Go
structure SrcOk (r:Rs):Prop where
 name:r.name=[]∨rightB r.name=true
 some:1≤r.keep.length+r.remove.length
 heads:r.keep.length+r.remove.length≤4
 guards:r.guard.length≤12
 bodies:r.body.length≤12
 keepR:AllA r.keep
 removeR:AllA r.remove
 guardR:AllG r.guard
 bodyR:AllG r.body
 noTrue:∀g,r.body=[g]→g.1≠1
def headK (keep remove:List As):List Tok :=
 if remove=[] then asepK keep++[tkS [61,61,62]]
 else if keep=[] then asepK remove++[tkS [60,61,62]]
 else asepK keep++tkS [92] :: (asepK remove++[tkS [60,61,62]])
def bodyK (guard body:List Gs):List Tok :=
 (if guard=[] then [] else gsepK guard++[tkS [124]])++((if body=[] then [(1,[116,114,117,101],false)] else gsepK body)++[tkS [46]])
def labelK (name:List UInt8):List Tok:=if name=[] then [] else [(1,name,false),tkS [64]]
def Rs.tok (r:Rs):List Tok:=labelK r.name++(headK r.keep r.remove++bodyK r.guard r.body)
theorem nnA {l:List As} (h:AllA l):∀v∈occL (l.flatMap (·.2)),0≤v:=by
 refine occ_nn.2 _ ?_
 induction l with
 | nil=>rfl
 | cons a l ih =>
  rw [List.flatMap_cons,formL_append,rightA_form (h a (by simp)),ih (fun x hx=>h x (List.mem_cons_of_mem _ hx))];rfl
theorem rightG_form {g:Gs} (h:rightG g=true):formL g.2.2=true:=by
 obtain ⟨op,s,l⟩:=g
 by_cases h0:op=0
 ·subst h0
  exact rightA_form (a:=(s,l)) h
 ·rw [rightG_op h0] at h
  simp only [Bool.and_eq_true] at h
  exact form_L h.2.2
theorem nnG {l:List Gs} (h:AllG l):∀v∈occL (l.flatMap (·.2.2)),0≤v:=by
 refine occ_nn.2 _ ?_
 induction l with
 | nil=>rfl
 | cons a l ih =>
  rw [List.flatMap_cons,formL_append,rightG_form (h a (by simp)),ih (fun x hx=>h x (List.mem_cons_of_mem _ hx))];rfl
section
variable {W:List Int} (hW:W.length≤1048576)
include hW
theorem both_kead (keep remove:List As) (hk:AllA keep) (hr:AllA remove) (h1:1≤keep.length+remove.length) (h4:keep.length+remove.length≤4) (n:Nat) (vs:List Int) (k:List Tok) (hn:(headK keep remove++k).length≤n) (hv:NN vs)
  (hw:(occL (keep.flatMap (·.2)++remove.flatMap (·.2))).foldl putS vs <+: W) :
  bothS (exprS n) (headK keep remove++k) (labs vs)=.ok (keep.map (As.num2 (placeS W)),remove.map (As.num2 (placeS W))) k (labs ((occL (keep.flatMap (·.2)++remove.flatMap (·.2))).foldl putS vs)):=by
 unfold headK at hn ⊢
 by_cases hr0:remove=[]
 ·subst hr0
  rw [if_pos rfl] at hn ⊢
  have hk0:keep≠[]:=by rintro rfl;simp at h1
  simp only [List.flatMap_nil,List.append_nil] at hw ⊢
  have e:asepK keep++[tkS [61,61,62]]++k=asepK keep++(tkS [61,61,62] :: k):=by simp
  rw [e] at hn ⊢
  have hh:=heads_kead hW 0 keep hk0 hk n [] vs (tkS [61,61,62] :: k) hn (by simpa using h4) rfl rfl hv hw
  unfold bothS
  rw [hh]
  rfl
 ·rw [if_neg hr0] at hn ⊢
  by_cases hk0:keep=[]
  ·subst hk0
   rw [if_pos rfl] at hn ⊢
   simp only [List.flatMap_nil,List.nil_append] at hw ⊢
   have e:asepK remove++[tkS [60,61,62]]++k=asepK remove++(tkS [60,61,62] :: k):=by simp
   rw [e] at hn ⊢
   have hh:=heads_kead hW 0 remove hr0 hr n [] vs (tkS [60,61,62] :: k) hn (by simpa using h4) rfl rfl hv hw
   unfold bothS
   rw [hh]
   rfl
  ·rw [if_neg hk0] at hn ⊢
   have e:asepK keep++tkS [92] :: (asepK remove++[tkS [60,61,62]])++k=asepK keep++(tkS [92] :: (asepK remove++(tkS [60,61,62] :: k))):=by simp
   rw [e] at hn ⊢
   rw [occL_append,List.foldl_append] at hw ⊢
   have hh:=heads_kead hW 0 keep hk0 hk n [] vs (tkS [92] :: (asepK remove++(tkS [60,61,62] :: k))) hn (by simp only [List.length_nil];omega) rfl rfl hv ((fold_prefix _ _).trans hw)
   have h2:=heads_kead hW keep.length remove hr0 hr n [] ((occL (keep.flatMap (·.2))).foldl putS vs) (tkS [60,61,62] :: k) (by simp only [List.length_append,List.length_cons] at hn ⊢;omega) (by simp only [List.length_nil];omega) rfl rfl (hv.fold (nnA hk)) hw
   unfold bothS
   rw [hh]
   simp only
   rw [show isS [60,61,62] (tkS [92] :: (asepK remove++(tkS [60,61,62] :: k)))=false from rfl,if_neg (by decide),show isS [61,61,62] (tkS [92] :: (asepK remove++(tkS [60,61,62] :: k)))=false from rfl,if_neg (by decide),show isS [92] (tkS [92] :: (asepK remove++(tkS [60,61,62] :: k)))=true from rfl,if_pos rfl,List.tail_cons]
   simp only [List.nil_append,List.length_map]
   rw [h2]
   rfl
def readB (W:List Int) (body:List Gs):List Gs:=if body=[] then [(1,[],[])] else body.map (Gs.num2 (placeS W))
theorem body_kead (body:List Gs) (hb:AllG body) (h12:body.length≤12) (n:Nat) (vs:List Int) (c:Tok) (k:List Tok) (hc:isS [44] (c :: k)=false) (hbe:Behind (c :: k)) (hn:((if body=[] then [(1,[116,114,117,101],false)] else gsepK body)++c :: k).length≤n) (hv:NN vs) (hw:(occL (body.flatMap (·.2.2))).foldl putS vs <+: W) :
  goalsS (exprS (n+1)) 12 [] ((if body=[] then [(1,[116,114,117,101],false)] else gsepK body)++c :: k) (labs vs)=.ok (readB W body) (c :: k) (labs ((occL (body.flatMap (·.2.2))).foldl putS vs)):=by
 unfold readB
 by_cases h0:body=[]
 ·subst h0
  rw [if_pos rfl,if_pos rfl]
  have:=goals_kead hW 12 [((1:Int),[],[])] (by simp) (fun g hg=>by rw [List.mem_singleton.1 hg];decide) n [] vs (c :: k) (by simpa [gsepK,Gs.tok] using hn) (by simp) hc hbe hv (by simpa using hw)
  simpa [gsepK,Gs.tok,Gs.num2,numL2] using this
 ·rw [if_neg h0] at hn ⊢
  rw [if_neg h0]
  have:=goals_kead hW 12 body h0 hb n [] vs (c :: k) hn (by simpa using h12) hc hbe hv hw
  simpa using this
theorem goals2_kead (guard body:List Gs) (hg:AllG guard) (hb:AllG body) (g12:guard.length≤12) (b12:body.length≤12) (n:Nat) (vs:List Int) (k:List Tok) (hn:(bodyK guard body++k).length≤n) (hv:NN vs)
  (hw:(occL (guard.flatMap (·.2.2)++body.flatMap (·.2.2))).foldl putS vs <+: W) :
  goals2S (exprS (n+1)) (bodyK guard body++k) (labs vs)=.ok (guard.map (Gs.num2 (placeS W)),readB W body) k (labs ((occL (guard.flatMap (·.2.2)++body.flatMap (·.2.2))).foldl putS vs)):=by
 unfold bodyK at hn ⊢
 by_cases hg0:guard=[]
 ·subst hg0
  rw [if_pos rfl] at hn ⊢
  simp only [List.flatMap_nil,List.nil_append,List.append_assoc,List.singleton_append] at hn hw ⊢
  have h1:=body_kead hW body hb b12 n vs (tkS [46]) k rfl ⟨rfl,rfl,rfl⟩ hn hv hw
  unfold goals2S
  rw [h1]
  rfl
 ·rw [if_neg hg0] at hn ⊢
  rw [occL_append,List.foldl_append] at hw ⊢
  simp only [List.append_assoc,List.cons_append,List.nil_append] at hn ⊢
  have h0:=goals_kead hW 12 guard hg0 hg n [] vs (tkS [124] :: ((if body=[] then [(1,[116,114,117,101],false)] else gsepK body)++(tkS [46] :: k))) hn (by simpa using g12) rfl ⟨rfl,rfl,rfl⟩ hv ((fold_prefix _ _).trans hw)
  have h1:=body_kead hW body hb b12 n ((occL (guard.flatMap (·.2.2))).foldl putS vs) (tkS [46]) k rfl ⟨rfl,rfl,rfl⟩ (by simp only [List.length_append,List.length_cons] at hn ⊢;omega) (hv.fold (nnG hg)) hw
  unfold goals2S
  rw [h0]
  simp only
  rw [show isS [124] (tkS [124] :: ((if body=[] then [(1,[116,114,117,101],false)] else gsepK body)++(tkS [46] :: k)))=true from rfl,if_pos rfl,List.tail_cons,h1]
  rfl
end
theorem bodyS_read (W:List Int) (body:List Gs) (h:∀g,body=[g]→g.1≠1):bodyS (readB W body)=body.map (Gs.num2 (placeS W)):=by
 unfold readB
 by_cases h0:body=[]
 ·subst h0;rfl
 ·rw [if_neg h0]
  match body,h,h0 with
  | [g],h,_ =>
   simp only [List.map_cons,List.map_nil,bodyS]
   rw [if_neg]
   exact h g rfl
  | g :: g2 :: r,_,_=>rfl
theorem heads_first {keep remove:List As} (h1:1≤keep.length+remove.length) (k:List Tok):∃t d,headK keep remove++k=(1,t,false) :: d∧isS [64] d=false:=by
 have hcall:∀(s:List UInt8) (l:List Tm) (c:Tok) (r:List Tok),isS [64] (c :: r)=false→∃d,callK s (tokL2 l)++c :: r=(1,s,false) :: d∧isS [64] d=false:=by
  intro s l c r hc
  cases l with
  | nil=>exact ⟨c :: r,rfl,hc⟩
  | cons x l=>exact ⟨_,rfl,rfl⟩
 have hsep:∀(l:List As) (c:Tok) (r:List Tok),l≠[]→isS [64] (c :: r)=false→∃t d,asepK l++c :: r=(1,t,false) :: d∧isS [64] d=false:=by
  intro l c r hl hc
  match l,hl with
  | [a],_ =>
   obtain ⟨d,e,hd⟩:=hcall a.1 a.2 c r hc
   exact ⟨a.1,d,e,hd⟩
  | a :: b :: q,_ =>
   obtain ⟨d,e,hd⟩:=hcall a.1 a.2 (tkS [44]) (asepK (b :: q)++c :: r) rfl
   exact ⟨a.1,d,by simp only [asepK,As.tok,List.append_assoc,List.cons_append];exact e,hd⟩
 unfold headK
 by_cases hr0:remove=[]
 ·subst hr0
  rw [if_pos rfl]
  have hk0:keep≠[]:=by rintro rfl;simp at h1
  simpa using hsep keep (tkS [61,61,62]) k hk0 rfl
 ·rw [if_neg hr0]
  by_cases hk0:keep=[]
  ·rw [if_pos hk0]
   simpa using hsep remove (tkS [60,61,62]) k hr0 rfl
  ·rw [if_neg hk0]
   simpa using hsep keep (tkS [92]) (asepK remove++tkS [60,61,62] :: k) hk0 rfl
theorem rule_kead (r:Rs) (h:SrcOk r) (n:Nat) (k:List Tok) (hn:(r.tok++k).length≤n):ruleS (exprS (n+1)) (r.tok++k)=.ok (numberS r) k (labs (orderS r.terms)):=by
 have hsz:(orderS r.terms).length≤1048576:=by
  have s1:=sizeA_le _ h.keepR
  have s2:=sizeA_le _ h.removeR
  have s3:=sizeG_le _ h.guardR
  have s4:=sizeG_le _ h.bodyR
  have s5:=occ_size2.2 r.terms
  have s6:=fold_length (occL r.terms) []
  have l2:=h.heads
  have l3:=h.guards
  have l4:=h.bodies
  simp only [Rs.terms,sizeL_append] at s5
  unfold orderS
  simp only [List.length_nil] at s6
  simp only [Rs.terms] at s6 ⊢
  omega
 generalize hW:orderS r.terms=W at hsz
 have hall:(occL r.terms).foldl putS []=W:=hW
 have hord:(occL (r.guard.flatMap (·.2.2)++r.body.flatMap (·.2.2))).foldl putS ((occL (r.keep.flatMap (·.2)++r.remove.flatMap (·.2))).foldl putS [])=W:=by
  rw [←hall,← List.foldl_append,← occL_append]
  simp only [Rs.terms,List.append_assoc]
 have hW1:(occL (r.keep.flatMap (·.2)++r.remove.flatMap (·.2))).foldl putS [] <+: W:=by
  rw [←hord];exact fold_prefix _ _
 have hnn:NN ((occL (r.keep.flatMap (·.2)++r.remove.flatMap (·.2))).foldl putS []):=NN.fold (fun _ h=>by cases h) (fun v hv=>by
  rw [occL_append] at hv
  rcases List.mem_append.1 hv with h1|h1
  ·exact nnA h.keepR v h1
  ·exact nnA h.removeR v h1)
 unfold Rs.tok at hn ⊢
 rw [List.append_assoc,List.append_assoc] at hn ⊢
 have hn2:(headK r.keep r.remove++(bodyK r.guard r.body++k)).length≤n:=by simp only [List.length_append] at hn ⊢;omega
 have hB:=both_kead hsz r.keep r.remove h.keepR h.removeR h.some h.heads (n+1) [] (bodyK r.guard r.body++k) (by omega) (fun _ h=>by cases h) hW1
 have hG:=goals2_kead hsz r.guard r.body h.guardR h.bodyR h.guards h.bodies n _ k (by simp only [List.length_append] at hn2 ⊢;omega) hnn (by rw [hord];exact List.prefix_refl _)
 rw [hord] at hG
 have hL:labelS (labelK r.name++(headK r.keep r.remove++(bodyK r.guard r.body++k))) []=.ok r.name (headK r.keep r.remove++(bodyK r.guard r.body++k)) []:=by
  unfold labelK
  by_cases h0:r.name=[]
  ·rw [if_pos h0,h0,List.nil_append]
   obtain ⟨t,d,e,hd⟩:=heads_first h.some (bodyK r.guard r.body++k)
   rw [e]
   simp only [labelS]
   rw [if_neg (by rw [hd];simp)]
  ·rw [if_neg h0]
   have hr:=h.name.resolve_left h0
   simp only [List.cons_append,List.nil_append,labelS]
   rw [if_pos ⟨by simp,rfl⟩]
   simp only [nmS]
   rw [if_neg (by simp),right_res hr,if_neg (by decide)]
   rfl
 have hlab:labs ([]:List Int)=[]:=rfl
 rw [hlab] at hB
 have hP:partsS (exprS (n+1)) (labelK r.name++(headK r.keep r.remove++(bodyK r.guard r.body++k))) []=.ok ⟨r.name,r.keep.map (As.num2 (placeS W)),r.remove.map (As.num2 (placeS W)),r.guard.map (Gs.num2 (placeS W)),r.body.map (Gs.num2 (placeS W)),0⟩ k (labs W):=by
  unfold partsS
  rw [hL]
  simp only
  rw [hB]
  simp only
  rw [hG]
  simp only
  rw [bodyS_read W r.body h.noTrue]
 unfold ruleS
 rw [hP]
 simp only
 congr 1
 -- the numbers are those that were read
 generalize hp:(⟨r.name,r.keep.map (As.num2 (placeS W)),r.remove.map (As.num2 (placeS W)),r.guard.map (Gs.num2 (placeS W)),r.body.map (Gs.num2 (placeS W)),0⟩:Rs)=p
 have hpt:p.terms=numL2 (placeS W) r.terms:=by
  rw [←hp]
  simp only [Rs.terms,num2_flatA,num2_flatG,num2_map,List.map_append]
 have hmemW:∀v∈occL r.terms,v∈W:=fun v hv=>by rw [←hall];exact (fold_mem _ _ _).2 (.inr hv)
 have hinj:∀x∈occL r.terms,∀y∈occL r.terms,placeS W x=placeS W y→x=y:=fun x hx y hy e=>place_inj (hmemW x hx) (hmemW y hy) e
 have hsame:∀l,(∀t∈l,t∈r.terms)→formL l=true→numL2 (placeS (orderS p.terms)) (numL2 (placeS W) l)=numL2 (placeS W) l:=fun l hl hf=>by
  rw [hpt,numbers_same hinj (mem_occ hl) hf,hW]
 have sA:∀l:List As,(∀t∈l.flatMap (·.2),t∈r.terms)→AllA l→(l.map (As.num2 (placeS W))).map (As.num2 (placeS (orderS p.terms)))=l.map (As.num2 (placeS W)):=fun l hl ha=>by
  rw [List.map_map]
  refine List.map_congr_left fun a hal=>?_
  show (a.1,numL2 (placeS (orderS p.terms)) (numL2 (placeS W) a.2))=(a.1,numL2 (placeS W) a.2)
  rw [hsame a.2 (fun t ht=>hl t (List.mem_flatMap.2 ⟨a,hal,ht⟩)) (rightA_form (ha a hal))]
 have sG:∀l:List Gs,(∀t∈l.flatMap (·.2.2),t∈r.terms)→AllG l→(l.map (Gs.num2 (placeS W))).map (Gs.num2 (placeS (orderS p.terms)))=l.map (Gs.num2 (placeS W)):=fun l hl ha=>by
  rw [List.map_map]
  refine List.map_congr_left fun a hal=>?_
  show (a.1,a.2.1,numL2 (placeS (orderS p.terms)) (numL2 (placeS W) a.2.2))=(a.1,a.2.1,numL2 (placeS W) a.2.2)
  rw [hsame a.2.2 (fun t ht=>hl t (List.mem_flatMap.2 ⟨a,hal,ht⟩)) (rightG_form (ha a hal))]
 have hlen:(orderS p.terms).length=W.length:=by
  rw [hpt,order_map hinj,List.length_map,hW]
 show (⟨p.name,p.keep.map _,p.remove.map _,p.guard.map _,p.body.map _,(orderS p.terms).length⟩:Rs)=⟨r.name,r.keep.map _,r.remove.map _,r.guard.map _,r.body.map _,(orderS r.terms).length⟩
 rw [hlen,hW]
 have e1:p.keep=r.keep.map (As.num2 (placeS W)):=by rw [←hp]
 have e2:p.remove=r.remove.map (As.num2 (placeS W)):=by rw [←hp]
 have e3:p.guard=r.guard.map (Gs.num2 (placeS W)):=by rw [←hp]
 have e4:p.body=r.body.map (Gs.num2 (placeS W)):=by rw [←hp]
 have e5:p.name=r.name:=by rw [←hp]
 rw [e1,e2,e3,e4,e5,sA _ (fun t ht=>by simp only [Rs.terms];exact List.mem_append_left _ ht) h.keepR,sA _ (fun t ht=>by simp only [Rs.terms];exact List.mem_append_right _ (List.mem_append_left _ ht)) h.removeR,sG _ (fun t ht=>by simp only [Rs.terms];exact List.mem_append_right _ (List.mem_append_right _ (List.mem_append_left _ ht))) h.guardR,sG _ (fun t ht=>by simp only [Rs.terms];exact List.mem_append_right _ (List.mem_append_right _ (List.mem_append_right _ ht))) h.bodyR]
end Go.Proofs.YtnghanpmmbcbbaaGreatDoor
