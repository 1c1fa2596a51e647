/-
  SoWrite.
  SoLines.
  PgRead.
 PgListP.
 PgListTm.
 PgAtom.
-/
import Derived.Test.YtnghanpmmbcbbaaGreatDoorMq12
import Derived.Test.YtnghanpmmbcbbaaGreatDoorMq5
import Derived.Deep.AppendLies
import Derived.Deep.LoopGhost
namespace Go.Proofs.YtnghanpmmbcbbaaGreatDoor
open Go
theorem paren_plain (b:Bool) (x:List UInt8):paren plain b x=if b then 40 :: (x++[41]) else x:=rfl
theorem rest_plain (x:List UInt8) (r:List (List UInt8)):restT plain (x :: r)=44 :: 32 :: (x++restT plain r):=rfl
theorem name_last {s:List UInt8} (h:rightB s=true):s≠[45]∧s≠[]:=by
 constructor
 ·rintro rfl;exact absurd h (by decide)
 ·rintro rfl;exact absurd h (by decide)
theorem last_cons (x:Tok) (T:List Tok) (hT:T≠[]) (p:List UInt8):lastX (x :: T) p=lastX T p:=lastX_append [x] T p hT
theorem last_rest (l:List (List Tok)) (p:List UInt8):lastX (restK l) p=[41]:=by
 induction l with
 | nil=>rfl
 | cons x r ih =>
  have hr:restK r≠[]:=by cases r<;>simp [restK]
  rw [restK,last_cons _ _ (by simp [hr]),lastX_append _ _ _ hr,ih]
theorem last_call {s:List UInt8} (h:rightB s=true) (l:List (List Tok)) (p:List UInt8):lastX (callK s l) p≠[45]:=by
 cases l with
 | nil=>exact (name_last h).1
 | cons x r =>
  have hr:restK r≠[]:=by cases r<;>simp [restK]
  rw [callK,last_cons _ _ (by simp),last_cons _ _ (by simp [hr]),lastX_append _ _ _ hr,last_rest]
  decide
theorem last_paren {T:List Tok} (h:lastX T []≠[45]) (b:Bool):lastX (parenK b T) []≠[45]:=by
 cases b with
 | false=>exact h
 | true =>
  show lastX (tkS [40] :: (T++[tkS [41]])) []≠[45]
  rw [last_cons _ _ (by simp),lastX_append _ _ _ (by simp)]
  decide
theorem scn_paren {X:List UInt8} {T:List Tok} (h:Scn false X T) (hl:lastX T []≠[45]) (b:Bool):Scn false (paren plain b X) (parenK b T):=by
 rw [paren_plain]
 cases b with
 | false=>exact h
 | true =>
  exact ((scn_lp.to (h.to scn_rp hl (.inr rfl) (by simp)) (by decide) (.inl rfl) (by simp)).tied)
theorem scn_args:∀(r:List Tm) (x:Tm),(∀y∈x :: r,Scn false (y.txt plain) y.tok∧lastX y.tok []≠[45])→Scn true (x.txt plain++(restT plain (txtL plain r)++[41])) (x.tok++restK (tokL2 r))
 | [],x,h=>by
  obtain ⟨h1,h2⟩:=h x (by simp)
  exact h1.to scn_rp h2 (.inr rfl) (by simp)
 | y :: r,x,h=>by
  obtain ⟨h1,h2⟩:=h x (by simp)
  have hi:=scn_args r y (fun z hz=>h z (List.mem_cons_of_mem _ hz))
  have h3:=h1.to (scn_comma.sp hi) h2 (.inr rfl) (by simp)
  simpa [txtL,rest_plain,tokL2,restK] using h3
theorem scn_call {s:List UInt8} (hs:rightB s=true∨(wordB s=true∧lowB (s.headD 0)=true∧s≠[45])) (l:List Tm) (h:∀y∈l,Scn false (y.txt plain) y.tok∧lastX y.tok []≠[45]):Scn false (callT plain s (txtL plain l)) (callK s (tokL2 l)):=by
 have h1:Scn false s [(1,s,false)]∧s≠[45]:=by
  rcases hs with hs|hs
  ·exact ⟨scn_right hs,(name_last hs).1⟩
  ·exact ⟨scn_name hs.1 hs.2.1,hs.2.2⟩
 cases l with
 | nil=>exact h1.1
 | cons x r =>
  have h2:=scn_lp.to (scn_args r x h) (by decide) (.inl rfl) (by simp)
  have h3:=h1.1.to h2 h1.2 (.inr rfl) (by simp)
  have e1:callT plain s (txtL plain (x :: r))=s++([40]++(x.txt plain++(restT plain (txtL plain r)++[41]))):=rfl
  have e2:callK s (tokL2 (x :: r))=[(1,s,false)]++([tkS [40]]++(x.tok++restK (tokL2 r))):=rfl
  rw [e1,e2]
  exact h3.tied
theorem scn_term (t:Tm):t.form=true→Scn false (t.txt plain) t.tok∧lastX t.tok []≠[45]:=by
 induction t using Tm.induct with
 | h k0 m s A c a ih =>
  intro hf
  simp only [Tm.form] at hf
  by_cases hk0:k0=0
  ·subst hk0
   simp only [if_true,Bool.and_eq_true,decide_eq_true_eq] at hf
   obtain ⟨h1,h2,_⟩:=hf
   have hd:∀n:Nat,Lib.decDigits n≠[45]:=fun n e=>by
    have:=dec_dig n 45 (by rw [e];simp)
    exact absurd this (by decide)
   by_cases hm:m < 0
   ·have e1:(Tm.mk 0 m s A c a).txt plain=45 :: Lib.decDigits m.natAbs:=by simp [Tm.txt,Lib.itoa,hm]
    have e2:(Tm.mk 0 m s A c a).tok=[tkS [45],(3,Lib.decDigits m.natAbs,true)]:=by simp [Tm.tok,hm]
    rw [e1,e2]
    exact ⟨scn_neg (by omega),hd _⟩
   ·have e1:(Tm.mk 0 m s A c a).txt plain=Lib.decDigits m.toNat:=by simp [Tm.txt,Lib.itoa,hm]
    have e2:(Tm.mk 0 m s A c a).tok=[(3,Lib.decDigits m.toNat,false)]:=by simp [Tm.tok,hm]
    rw [e1,e2]
    exact ⟨scn_nat (by omega),hd _⟩
  ·by_cases hk1:k0=1
   ·subst hk1
    simp only [if_true,show ¬((1:Int)=0) by omega,if_false,Bool.and_eq_true,decide_eq_true_eq] at hf
    obtain ⟨h1,h2,_⟩:=hf
    have e1:(Tm.mk 1 m s A c a).txt plain=label m.toNat:=by simp [Tm.txt]
    have e2:(Tm.mk 1 m s A c a).tok=[(2,label m.toNat,false)]:=by simp [Tm.tok]
    rw [e1,e2]
    exact ⟨scn_var (by omega),by show label m.toNat≠[45];unfold label;simp⟩
   ·by_cases hk2:k0=2
    ·subst hk2
     simp only [show ¬((2:Int)=0) by omega,show ¬((2:Int)=1) by omega,if_false,if_true,Bool.and_eq_true,Bool.or_eq_true,decide_eq_true_eq] at hf
     obtain ⟨rfl,hs,hfl⟩:=hf
     have ih':∀x∈a,Scn false (x.txt plain) x.tok∧lastX x.tok []≠[45]:=fun x hx=>ih x hx (formL_mem hx hfl)
     by_cases ho:opB s.data.toList=true
     ·have ha2:a.length=2:=by
       rcases hs with hs|hs
       ·exact hs.2
       ·rw [(op_right ho).1] at hs;cases hs.1
      obtain ⟨x,y,rfl⟩:∃x y,a=[x,y]:=by
       match a,ha2 with
       | [x,y],_=>exact ⟨x,y,rfl⟩
      obtain ⟨x1,x2⟩:=ih' x (by simp)
      obtain ⟨y1,y2⟩:=ih' y (by simp)
      have e1:(Tm.mk 2 0 s A c [x,y]).txt plain=paren plain (decide (x.pw < ostr s.data.toList)) (x.txt plain)++32 :: (s.data.toList++32 :: paren plain (decide (y.pw≤ostr s.data.toList)) (y.txt plain)):=by
       simp only [Tm.txt,show ¬((2:Int)=0) by omega,show ¬((2:Int)=1) by omega,if_false,txtL,topT]
       rw [if_pos ho]
       simp
      have e2:(Tm.mk 2 0 s A c [x,y]).tok=parenK (decide (x.pw < ostr s.data.toList)) x.tok++([tkS s.data.toList]++parenK (decide (y.pw≤ostr s.data.toList)) y.tok):=by
       simp only [Tm.tok,show ¬((2:Int)=0) by omega,show ¬((2:Int)=1) by omega,if_false,tokL2]
       rw [if_pos ho]
       simp
      rw [e1,e2]
      have hpx:=scn_paren x1 x2 (decide (x.pw < ostr s.data.toList))
      have hpy:=scn_paren y1 y2 (decide (y.pw≤ostr s.data.toList))
      refine ⟨hpx.sp ((scn_op ho).sp hpy),?_⟩
      rw [lastX_append _ _ _ (by simp),lastX_append _ _ _ hpy.1]
      exact last_paren y2 _
     ·have ho':opB s.data.toList=false:=by simpa using ho
      have hr:rightB s.data.toList=true:=by
       rcases hs with hs|hs
       ·exact absurd hs.1 ho
       ·exact hs.1
      have e1:(Tm.mk 2 0 s A c a).txt plain=callT plain s.data.toList (txtL plain a):=by
       simp only [Tm.txt,show ¬((2:Int)=0) by omega,show ¬((2:Int)=1) by omega,if_false,ho',Bool.false_eq_true]
      have e2:(Tm.mk 2 0 s A c a).tok=callK s.data.toList (tokL2 a):=by
       simp only [Tm.tok,show ¬((2:Int)=0) by omega,show ¬((2:Int)=1) by omega,if_false,ho',Bool.false_eq_true]
      rw [e1,e2]
      exact ⟨scn_call (.inl hr) a ih',last_call hr _ _⟩
    ·simp [hk0,hk1,hk2] at hf
def wordG (op:Int):List UInt8 :=
 if op=3 then [61] else if op=4 then [105,115] else if op=5 then [61,61] else if op=6 then [92,61] else if op=7 then [60] else if op=8 then [61,60] else if op=9 then [61,58,61] else [61,92,61]
def Gs.txt (g:Gs):List UInt8 :=
 if g.1=0 then callT plain g.2.1 (txtL plain g.2.2)
 else if g.1=1 then [116,114,117,101]
 else if g.1=2 then [102,97,105,108]
 else if g.1=11 then callT plain [105,110,116] (txtL plain g.2.2)
 else if g.1=12 then callT plain [103,114,111,117,110,100] (txtL plain g.2.2)
 else topT (wordG g.1) ((txtL plain g.2.2).getD 0 []) ((txtL plain g.2.2).getD 1 [])
theorem scn_cmp (op:Int) (h:2 < op∧op < 11) {b:Bool} {Y:List UInt8} {U:List Tok} (hY:Scn b Y U):Scn b (wordG op++32 :: Y) (cmpK op :: U):=by
 have:op=3∨op=4∨op=5∨op=6∨op=7∨op=8∨op=9∨op=10:=by omega
 rcases this with rfl|rfl|rfl|rfl|rfl|rfl|rfl|rfl
 ·exact scn_wide (by decide) hY
 ·exact (scn_name (s:=[105,115]) (by decide) (by decide)).sp hY
 ·exact scn_wide (by decide) hY
 ·exact scn_wide (by decide) hY
 ·exact scn_wide (by decide) hY
 ·exact scn_wide (by decide) hY
 ·exact scn_wide (by decide) hY
 ·exact scn_wide (by decide) hY
theorem scn_goal (g:Gs) (hr:rightG g=true):Scn false g.txt g.tok∧lastX g.tok []≠[45]:=by
 obtain ⟨op,s,l⟩:=g
 have hterms:∀l:List Tm,formL l=true→∀y∈l,Scn false (y.txt plain) y.tok∧lastX y.tok []≠[45]:=fun l hf y hy=>scn_term y (formL_mem hy hf)
 by_cases h0:op=0
 ·subst h0
  have hr':rightA s l=true:=hr
  have hf:=rightA_form (a:=(s,l)) hr'
  simp only [rightA,Bool.and_eq_true] at hr'
  exact ⟨scn_call (.inl hr'.1) l (hterms l hf),last_call hr'.1 _ _⟩
 ·have hf:=rightG_form hr
  rw [rightG_op h0] at hr
  simp only [Bool.and_eq_true,decide_eq_true_eq] at hr
  obtain ⟨rfl,hlen,hrt⟩:=hr
  by_cases h1:op=1
  ·subst h1
   exact ⟨scn_name (s:=[116,114,117,101]) (by decide) (by decide),(by decide:lastX [((1,[116,114,117,101],false):Tok)] []≠[45])⟩
  ·by_cases h2:op=2
   ·subst h2
    exact ⟨scn_name (s:=[102,97,105,108]) (by decide) (by decide),(by decide:lastX [((1,[102,97,105,108],false):Tok)] []≠[45])⟩
   ·by_cases h11:op=11∨op=12
    ·have hl:l.length=1:=by
      have:arityS op=1:=by unfold arityS;rw [if_neg (by omega),if_pos h11]
      omega
     obtain ⟨x,rfl⟩:∃x,l=[x]:=by
      match l,hl with
      | [x],_=>exact ⟨x,rfl⟩
     rcases h11 with rfl|rfl
     ·exact ⟨scn_call (s:=[105,110,116]) (.inr ⟨by decide,by decide,by decide⟩) [x] (hterms _ hf),by
       show lastX ((1,[105,110,116],false) :: tkS [40] :: (x.tok++[tkS [41]])) []≠[45]
       rw [last_cons _ _ (by simp),last_cons _ _ (by simp),lastX_append _ _ _ (by simp)];decide⟩
     ·exact ⟨scn_call (s:=[103,114,111,117,110,100]) (.inr ⟨by decide,by decide,by decide⟩) [x] (hterms _ hf),by
       show lastX ((1,[103,114,111,117,110,100],false) :: tkS [40] :: (x.tok++[tkS [41]])) []≠[45]
       rw [last_cons _ _ (by simp),last_cons _ _ (by simp),lastX_append _ _ _ (by simp)];decide⟩
    ·have hop':2 < op∧op < 11:=by
      unfold arityS at hlen
      rw [if_neg (by omega),if_neg h11] at hlen
      split at hlen
      ·assumption
      ·omega
     have hl:l.length=2:=by
      have:arityS op=2:=by unfold arityS;rw [if_neg (by omega),if_neg h11,if_pos hop']
      omega
     obtain ⟨x,y,rfl⟩:∃x y,l=[x,y]:=by
      match l,hl with
      | [x,y],_=>exact ⟨x,y,rfl⟩
     obtain ⟨x1,x2⟩:=hterms _ hf x (by simp)
     obtain ⟨y1,y2⟩:=hterms _ hf y (by simp)
     have e1:Gs.txt (op,[],[x,y])=x.txt plain++32 :: (wordG op++32 :: y.txt plain):=by
      simp only [Gs.txt]
      rw [if_neg h0,if_neg h1,if_neg h2,if_neg (by omega),if_neg (by omega)]
      simp [topT,txtL]
     have e2:Gs.tok (op,[],[x,y])=x.tok++(cmpK op :: y.tok):=by
      simp only [Gs.tok]
      rw [if_neg h0,if_neg h1,if_neg h2,if_neg (by omega),if_neg (by omega)]
      simp
     rw [e1,e2]
     refine ⟨x1.sp (scn_cmp op hop' y1),?_⟩
     rw [lastX_append _ _ _ (by simp),last_cons _ _ y1.1]
     exact y2
def sepT:List (List UInt8)→List UInt8
 | []=>[]
 | [x]=>x
 | x :: y :: r=>x++44 :: 32 :: sepT (y :: r)
theorem scn_goals:∀(l:List Gs),l≠[]→AllG l→Scn false (sepT (l.map Gs.txt)) (gsepK l)∧lastX (gsepK l) []≠[45]
 | [],h,_=>absurd rfl h
 | [g],_,h=>scn_goal g (h g (by simp))
 | g :: g2 :: r,_,h=>by
  obtain ⟨h1,h2⟩:=scn_goal g (h g (by simp))
  obtain ⟨i1,i2⟩:=scn_goals (g2 :: r) (by simp) (fun x hx=>h x (List.mem_cons_of_mem _ hx))
  have h3:=h1.to (scn_comma.sp i1) h2 (.inr rfl) (by simp)
  refine ⟨by simpa [sepT,gsepK] using h3,?_⟩
  show lastX (g.tok++tkS [44] :: gsepK (g2 :: r)) []≠[45]
  rw [lastX_append _ _ _ (by simp),last_cons _ _ i1.1]
  exact i2
def As.txt (a:As):List UInt8:=callT plain a.1 (txtL plain a.2)
theorem scn_head (a:As) (h:rightA a.1 a.2=true):Scn false a.txt a.tok∧lastX a.tok []≠[45]:=by
 have hf:=rightA_form h
 simp only [rightA,Bool.and_eq_true] at h
 exact ⟨scn_call (.inl h.1) a.2 (fun y hy=>scn_term y (formL_mem hy hf)),last_call h.1 _ _⟩
theorem scn_heads:∀(l:List As),l≠[]→AllA l→Scn false (sepT (l.map As.txt)) (asepK l)∧lastX (asepK l) []≠[45]
 | [],h,_=>absurd rfl h
 | [a],_,h=>scn_head a (h a (by simp))
 | a :: b :: r,_,h=>by
  obtain ⟨h1,h2⟩:=scn_head a (h a (by simp))
  obtain ⟨i1,i2⟩:=scn_heads (b :: r) (by simp) (fun x hx=>h x (List.mem_cons_of_mem _ hx))
  have h3:=h1.to (scn_comma.sp i1) h2 (.inr rfl) (by simp)
  refine ⟨by simpa [sepT,asepK] using h3,?_⟩
  show lastX (a.tok++tkS [44] :: asepK (b :: r)) []≠[45]
  rw [lastX_append _ _ _ (by simp),last_cons _ _ i1.1]
  exact i2
end Go.Proofs.YtnghanpmmbcbbaaGreatDoor
namespace Go.Proofs.YtnghanpmmbcbbaaGreatDoor
open Go
def trueW:List UInt8:=[116,114,117,101]
def bodyT (guard body:List Gs):List UInt8 :=
 (if guard=[] then [] else sepT (guard.map Gs.txt)++[32,124,32])++((if body=[] then trueW else sepT (body.map Gs.txt))++[46])
theorem scn_true:Scn false trueW [(1,[116,114,117,101],false)]∧lastX [((1,[116,114,117,101],false):Tok)] []≠[45] :=
 ⟨scn_name (s:=[116,114,117,101]) (by decide) (by decide),by decide⟩
theorem scn_body {guard body:List Gs} (hg:AllG guard) (hb:AllG body):Scn true (bodyT guard body) (bodyK guard body):=by
 have h1:Scn true ((if body=[] then trueW else sepT (body.map Gs.txt))++[46]) ((if body=[] then [(1,[116,114,117,101],false)] else gsepK body)++[tkS [46]]):=by
  by_cases h0:body=[]
  ·rw [if_pos h0,if_pos h0]
   exact scn_true.1.to scn_point scn_true.2 (.inr (by decide)) (by simp)
  ·rw [if_neg h0,if_neg h0]
   obtain ⟨a1,a2⟩:=scn_goals body h0 hb
   exact a1.to scn_point a2 (.inr (by decide)) (by simp)
 unfold bodyT bodyK
 by_cases hg0:guard=[]
 ·rw [if_pos hg0,if_pos hg0];exact h1
 ·rw [if_neg hg0,if_neg hg0]
  have h2:=(scn_goals guard hg0 hg).1.sp (scn_bar.sp h1)
  simpa using h2
def headT (keep remove:List As):List UInt8 :=
 if remove=[] then sepT (keep.map As.txt)++[32,61,61,62,32]
 else if keep=[] then sepT (remove.map As.txt)++[32,60,61,62,32]
 else sepT (keep.map As.txt)++[32,92,32]++(sepT (remove.map As.txt)++[32,60,61,62,32])
theorem scn_both {keep remove:List As} (hk:AllA keep) (hr:AllA remove) (h1:1≤keep.length+remove.length) {b:Bool} {Y:List UInt8} {U:List Tok} (hY:Scn b Y U):Scn b (headT keep remove++Y) (headK keep remove++U):=by
 unfold headT headK
 by_cases hr0:remove=[]
 ·subst hr0
  rw [if_pos rfl,if_pos rfl]
  have hk0:keep≠[]:=by rintro rfl;simp at h1
  have h:=(scn_heads keep hk0 hk).1.sp (scn_wide (s:=[61,61,62]) (by decide) hY)
  simpa using h
 ·rw [if_neg hr0,if_neg hr0]
  have h:=(scn_heads remove hr0 hr).1.sp (scn_wide (s:=[60,61,62]) (by decide) hY)
  by_cases hk0:keep=[]
  ·rw [if_pos hk0,if_pos hk0];simpa using h
  ·rw [if_neg hk0,if_neg hk0]
   have h2:=(scn_heads keep hk0 hk).1.sp (scn_wide (s:=[92]) (by decide) h)
   simpa using h2
def labelT (name:List UInt8):List UInt8:=if name=[] then [] else name++[32,64,32]
def Rs.txt (r:Rs):List UInt8:=labelT r.name++(headT r.keep r.remove++bodyT r.guard r.body)
theorem scn_rule {r:Rs} (h:SrcOk r):Scn true r.txt r.tok:=by
 have h1:=scn_both h.keepR h.removeR h.some (scn_body h.guardR h.bodyR)
 unfold Rs.txt Rs.tok labelT labelK
 by_cases h0:r.name=[]
 ·rw [if_pos h0,if_pos h0];exact h1
 ·rw [if_neg h0,if_neg h0]
  have h2:=(scn_right (h.name.resolve_left h0)).sp (scn_at.sp h1)
  simpa using h2
def dtxt (d:Ds):List UInt8:=d.1++47 :: Lib.decDigits d.2.toNat
theorem scn_decl {d:Ds} (h:DeclOk d):Scn false (dtxt d) [(1,d.1,false),tkS [47],(3,Lib.decDigits d.2.toNat,false)]:=by
 obtain ⟨h1,h2,h3⟩:=h
 have hd:Lib.decDigits d.2.toNat≠[]:=dec_ne _
 have h4:=(scn_right h1).to (scn_slash.to (scn_nat (n:=d.2.toNat) (by omega)) (by decide) (.inl rfl) hd) (by exact (name_last h1).1) (.inr rfl) (by simp)
 simpa [dtxt] using h4
theorem scn_decls:∀(l:List Ds),l≠[]→(∀d∈l,DeclOk d)→Scn false (sepT (l.map dtxt)) (dsepK l)∧lastX (dsepK l) []≠[45]
 | [],h,_=>absurd rfl h
 | [d],_,h=>⟨scn_decl (h d (by simp)),by
  show Lib.decDigits d.2.toNat≠[45]
  intro e
  have:=dec_dig d.2.toNat 45 (by rw [e];simp)
  exact absurd this (by decide)⟩
 | d :: e :: r,_,h=>by
  have h1:=scn_decl (h d (by simp))
  obtain ⟨i1,i2⟩:=scn_decls (e :: r) (by simp) (fun x hx=>h x (List.mem_cons_of_mem _ hx))
  have hl:lastX [((1,d.1,false):Tok),tkS [47],(3,Lib.decDigits d.2.toNat,false)] []≠[45]:=by
   show Lib.decDigits d.2.toNat≠[45]
   intro e
   have:=dec_dig d.2.toNat 45 (by rw [e];simp)
   exact absurd this (by decide)
  have h3:=h1.to (scn_comma.sp i1) hl (.inr rfl) (by simp)
  refine ⟨by simpa [sepT,dsepK] using h3,?_⟩
  show lastX ([(1,d.1,false),tkS [47],(3,Lib.decDigits d.2.toNat,false),tkS [44]]++dsepK (e :: r)) []≠[45]
  rw [lastX_append _ _ _ i1.1]
  exact i2
def declT (l:List Ds):List UInt8:=constraintW++32 :: (sepT (l.map dtxt)++[46])
theorem scn_declT {l:List Ds} (h0:l≠[]) (h:∀d∈l,DeclOk d):Scn true (declT l) (declK l):=by
 obtain ⟨a1,a2⟩:=scn_decls l h0 h
 have h1:=(scn_name (s:=constraintW) (by decide) (by decide)).sp (a1.to scn_point a2 (.inr rfl) (by simp))
 unfold declT declK
 rw [if_neg h0]
 simpa using h1
def Lns (Y:List UInt8) (B:List Tok):Prop:=∀(n:Nat) (prev:List UInt8),(10 :: Y).length < n→scanG n prev (10 :: Y)=some B
def linesT (l:List (List UInt8)):List UInt8:=l.flatMap (·++[10])
theorem lns_end:Lns [] EndT:=by
 intro n prev hn
 cases n with
 | zero=>omega
 | succ n=>rfl
theorem lns_step {X Y:List UInt8} {T B:List Tok} (h:Scn true X T) (hY:Lns Y B):Lns (X++10 :: Y) (T++B):=by
 intro n prev hn
 exact h.2 [10] prev (10 :: Y) B n (.inr ⟨10,rfl,by decide⟩) (.inl rfl) (fun m hm=>hY m _ hm) hn
theorem lns_first {X Y:List UInt8} {T B:List Tok} (h:Scn true X T) (hY:Lns Y B) {n:Nat} (hn:(X++10 :: Y).length < n):scanG n [] (X++10 :: Y)=some (T++B) :=
 h.2 [] [] (10 :: Y) B n (.inl ⟨rfl,by decide⟩) (.inl rfl) (fun m hm=>hY m _ hm) hn
theorem lns_rules:∀(l:List Rs),(∀r∈l,SrcOk r)→Lns (linesT (l.map Rs.txt)) (rulesK l++EndT)
 | [],_=>lns_end
 | r :: l,h=>by
  have h1:=lns_step (scn_rule (h r (by simp))) (lns_rules l fun x hx=>h x (List.mem_cons_of_mem _ hx))
  simpa [linesT,rulesK] using h1
def programT (d:List Ds) (l:List Rs):List UInt8:=linesT ((if d=[] then [] else [declT d])++l.map Rs.txt)
theorem program_scan {d:List Ds} {l:List Rs} (hd:∀x∈d,DeclOk x) (hl:∀r∈l,SrcOk r) {n:Nat} (hn:(programT d l).length < n):scanG n [] (programT d l)=some (programK d l++EndT):=by
 unfold programT programK at *
 by_cases h0:d=[]
 ·subst h0
  rw [if_pos rfl,List.nil_append] at hn ⊢
  rw [show declK []=[] from rfl,List.nil_append]
  cases l with
  | nil =>
   cases n with
   | zero=>omega
   | succ n=>rfl
  | cons r l =>
   have e:linesT ((r :: l).map Rs.txt)=r.txt++10 :: linesT (l.map Rs.txt):=by simp [linesT]
   rw [e] at hn ⊢
   rw [lns_first (scn_rule (hl r (by simp))) (lns_rules l fun x hx=>hl x (List.mem_cons_of_mem _ hx)) hn]
   simp [rulesK]
 ·rw [if_neg h0] at hn ⊢
  have e:linesT ([declT d]++l.map Rs.txt)=declT d++10 :: linesT (l.map Rs.txt):=by simp [linesT]
  rw [e] at hn ⊢
  rw [lns_first (scn_declT h0 hd) (lns_rules l hl) hn,List.append_assoc]
theorem end_scan:∀(m:Nat) (p:List UInt8),([]:List UInt8).length < m→scanG m p []=some EndT:=by
 intro m p hm
 cases m with
 | zero=>simp at hm
 | succ m=>rfl
theorem rule_scan {r:Rs} (h:SrcOk r) {n:Nat} (hn:r.txt.length < n):scanG n [] r.txt=some (r.tok++EndT):=by
 have:=(scn_rule h).2 [] [] [] EndT n (.inl ⟨rfl,by decide⟩) (.inl rfl) (fun m hm=>end_scan m _ hm) (by simpa using hn)
 simpa using this
def goalsT (l:List Gs):List UInt8:=sepT (l.map Gs.txt)
theorem goals_scan {l:List Gs} (h0:l≠[]) (h:AllG l) {n:Nat} (hn:(goalsT l).length < n):scanG n [] (goalsT l)=some (gsepK l++EndT):=by
 have:=(scn_goals l h0 h).1.2 [] [] [] EndT n (.inl ⟨rfl,by decide⟩) (.inr rfl) (fun m hm=>end_scan m _ hm) (by simpa [goalsT] using hn)
 simpa [goalsT] using this
end Go.Proofs.YtnghanpmmbcbbaaGreatDoor
namespace Go.Proofs.YtnghanpmmbcbbaaGreatDoor
open Go.RowKit
def kV (l:List Tk) (i:Nat):Bool:=(l.getD i default).1==2
def xV (l:List Tk) (i:Nat):List UInt8:=(l.getD i default).2.2
abbrev nsL (l:List Tk) (a i:Nat):List (List UInt8):=nsU (kV l) (xV l) a i
abbrev gL (l:List Tk) (a:Nat) (v:Int):Int:=gU (kV l) (xV l) a v
def OkV (l:List Tk) (i j:Nat) (us:List Tm):Prop:=neatL us∧(occL us).Nodup∧∀v∈occL us,(i:Int)≤v∧v < (j:Int)∧kV l v.toNat=true
theorem OkV.nil (l:List Tk) (i j:Nat):OkV l i j []:=⟨trivial,by simp [occL],fun v hv=>by simp [occL] at hv⟩
theorem OkV.wide {l:List Tk} {i j i' j':Nat} {us:List Tm} (h:OkV l i j us) (hi:i'≤i) (hj:j≤j'):OkV l i' j' us:=⟨h.1,h.2.1,fun v hv=>by have:=h.2.2 v hv;exact ⟨by omega,by omega,this.2.2⟩⟩
theorem OkV.append {l:List Tk} {i j j' k:Nat} {us vs:List Tm} (h:OkV l i j us) (h2:OkV l j' k vs) (h1:j≤j') (hi:i≤j') (hk:j≤k):OkV l i k (us++vs):=by
 refine ⟨(neatL_append us vs).2 ⟨h.1,h2.1⟩,?_,fun v hv=>?_⟩
 ·rw [occL_append,List.nodup_append]
  refine ⟨h.2.1,h2.2.1,fun x hx y hy e=>?_⟩
  have:=h.2.2 x hx
  have:=h2.2.2 y hy
  omega
 ·rw [occL_append] at hv
  rcases List.mem_append.1 hv with hv|hv
  ·have:=h.2.2 v hv;exact ⟨by omega,by omega,this.2.2⟩
  ·have:=h2.2.2 v hv;exact ⟨by omega,by omega,this.2.2⟩
theorem OkV.swap {l:List Tk} {i j:Nat} {us vs:List Tm} (h:OkV l i j (us++vs)):OkV l i j (vs++us):=by
 refine ⟨(neatL_append vs us).2 ((neatL_append us vs).1 h.1).symm,?_,fun v hv=>h.2.2 v ?_⟩
 ·have:=h.2.1
  rw [occL_append] at this ⊢
  exact (List.perm_append_comm.nodup_iff).1 this
 ·rw [occL_append] at hv ⊢
  exact List.mem_append.2 (List.mem_append.1 hv).symm
theorem OkV.int (l:List Tk) (i j:Nat) (n:Int) (A:Option Addr) (c:Nat):OkV l i j [.mk 0 n ⟨#[]⟩ A c []]:=⟨⟨.inl ⟨rfl,rfl,rfl⟩,trivial⟩,by simp [occL,Tm.occ],fun v hv=>by simp [occL,Tm.occ] at hv⟩
theorem OkV.var {l:List Tk} {i:Nat} (hk:(l.getD i default).1=2) (A:Option Addr) (c:Nat):OkV l i (i+1) [.mk 1 (i:Int) ⟨#[]⟩ A c []]:=⟨⟨.inr (.inl ⟨rfl,rfl,rfl⟩),trivial⟩,by simp [occL,Tm.occ],fun v hv=>by
 simp only [occL,Tm.occ,if_true,List.append_nil,List.mem_singleton] at hv
 subst hv
 exact ⟨by omega,by omega,by rw [Int.toNat_natCast,kV,hk];rfl⟩⟩
theorem OkV.fun_ {l:List Tk} {i j:Nat} {us:List Tm} (h:OkV l i j us) (s:ByteArray) (A:Option Addr) (c:Nat):OkV l i j [.mk 2 0 s A c us]:=by
 have e:occL [Tm.mk 2 0 s A c us]=occL us:=by simp [occL,Tm.occ]
 exact ⟨⟨.inr (.inr ⟨rfl,rfl,h.1⟩),trivial⟩,by rw [e];exact h.2.1,fun v hv=>h.2.2 v (by rw [e] at hv;exact hv)⟩
structure Rdr (α β:Type) where
 E:Elt α
 val:α→Value
 h:(Int→Int)→α→β
 tms:α→List Tm
def rdTm:Rdr Tm Tm:=⟨elTm,Tm.val,Tm.num2,fun t=>[t]⟩
def rdAm:Rdr Am As:=⟨elAm,Am.val,fun g x=>(x.name.data.toList,numL2 g x.args),Am.args⟩
def rdGl:Rdr Gl Gs:=⟨elGl,Gl.val,fun g x=>(x.op,x.name.data.toList,numL2 g x.args),Gl.args⟩
def rdDl:Rdr Dl Dl:=⟨elDl,fun x=>.agg #[.string (S x.1),.int .i64 x.2],fun _ x=>x,fun _=>[]⟩
section
variable {α β:Type} (D:Rdr α β)
def ElR (f:Rd1 β) (R:Nat) (A:Option Addr) (c:Nat) (l:List Tk) (a i:Nat) (w:World) (en:Ending) (w':World):Prop :=
 ∃(x:α) (j:Nat) (er:Int),en=.returned (.tuple #[D.val x,.int .i64 er])∧Kq R w w'∧Pq w' R A c l j∧SitG D.E w.heap.size w' [x] ∧
  ((er=0∧f (leftT l i) (nsL l a i)=.ok (D.h (gL l a) x) (leftT l j) (nsL l a j)∧i < j∧OkV l i j (D.tms x))∨(er≠0∧f (leftT l i) (nsL l a i)=.err (leftT l j).length er))
def listS (f:Rd1 β) (most:Nat) (acc:List β) (ts:List Tok) (ns:List (List UInt8)):PS (List β) :=
 if acc.length=most then .err ts.length 6 else
 match f ts ns with
 | .err l e=>.err l e
 | .ok x r ns2=>if isS [44] r then (if _h:r.tail.length < ts.length then listS f most (acc++[x]) r.tail ns2 else .err 0 0) else .ok (acc++[x]) r ns2
termination_by ts.length
decreasing_by exact _h
def ListR (T:TypeId) (f:Rd1 β) (most:Nat) (R:Nat) (A:Option Addr) (c:Nat) (l:List Tk) (a i:Nat) (w:World) (en:Ending) (w':World):Prop :=
 ∃(xs:List α) (j:Nat) (er:Int) (r:Value),en=.returned (.tuple #[r,.int .i64 er])∧Kq R w w'∧Pq w' R A c l j∧RowG D.E T w.heap.size w' r xs ∧
  ((er=0∧listS f most [] (leftT l i) (nsL l a i)=.ok (xs.map (D.h (gL l a))) (leftT l j) (nsL l a j)∧i < j∧OkV l i j (xs.flatMap D.tms)∧0 < xs.length∧xs.length≤16385)∨(er≠0∧xs=[]∧r=.slice none 0 0∧listS f most [] (leftT l i) (nsL l a i)=.err (leftT l j).length er))
def ListL (T:TypeId) (f:Rd1 β) (most:Nat) (R:Nat) (A:Option Addr) (c:Nat) (l:List Tk) (a i n:Nat) (w:World) (gk:Nat) (r:Value) (wr:World) (q:Nat) (xs:List α):Prop :=
 Kq R w wr∧Pq wr R A c l q∧RowG D.E T w.heap.size wr r xs∧listS f most [] (leftT l i) (nsL l a i)=listS f most (xs.map (D.h (gL l a))) (leftT l q) (nsL l a q)∧i≤q∧(xs≠[]→i < q)∧OkV l i q (xs.flatMap D.tms) ∧
  xs.length≤q∧(leftT l q).length≤n∧l.length - q≤gk
end
theorem isS_left {l:List Tk} (hg:GoodT l) {i:Nat} (hi:i < l.length) {s:List UInt8} (hs:kindO s=4):isS s (leftT l i)=((l.getD i default).2.2==s):=by
 rw [left_isS hi,hg.acc hi hs]
theorem listS_comma {β:Type} {f:Rd1 β} {most:Nat} {acc:List β} {l:List Tk} {q j:Nat} {ns ns2:List (List UInt8)} {y:β} (hm:acc.length≠most) (hf:f (leftT l q) ns=.ok y (leftT l j) ns2) (hq:q < j) (hj:j+1 < l.length) (hc:isS [44] (leftT l j)=true) :
  listS f most acc (leftT l q) ns=listS f most (acc++[y]) (leftT l (j+1)) ns2:=by
 rw [listS,if_neg hm,hf]
 simp only [hc,if_true,left_tail]
 rw [dif_pos (by rw [left_length,left_length];omega)]
theorem listS_stop {β:Type} {f:Rd1 β} {most:Nat} {acc:List β} {ts r:List Tok} {ns ns2:List (List UInt8)} {y:β} (hm:acc.length≠most) (hf:f ts ns=.ok y r ns2) (hc:isS [44] r=false) :
  listS f most acc ts ns=.ok (acc++[y]) r ns2:=by
 rw [listS,if_neg hm,hf]
 simp only [hc]
 rfl
theorem listS_err {β:Type} {f:Rd1 β} {most:Nat} {acc:List β} {ts:List Tok} {ns:List (List UInt8)} {n:Nat} {e:Int} (hm:acc.length≠most) (hf:f ts ns=.err n e):listS f most acc ts ns=.err n e:=by
 rw [listS,if_neg hm,hf]
theorem listS_much {β:Type} {f:Rd1 β} {most:Nat} {acc:List β} {ts:List Tok} {ns:List (List UInt8)} (hm:acc.length=most):listS f most acc ts ns=.err ts.length 6:=by
 rw [listS,if_pos hm]
end Go.Proofs.YtnghanpmmbcbbaaGreatDoor
namespace Go.Proofs.YtnghanpmmbcbbaaGreatDoor
open Go.RowKit
section
variable {α:Type} {E:Elt α} {T:TypeId} {lo:Nat} {w:World} {r:Value} {l:List α}
theorem RowG.zform (h:RowG E T lo w r l):∃B cap,r=.slice B l.length cap:=by
 rcases h.row.2 with ⟨e,h1⟩|⟨g,cap,cur,e,_⟩
 ·exact ⟨none,0,by rw [e,h1]⟩
 ·exact ⟨_,cap,e⟩
end
end Go.Proofs.YtnghanpmmbcbbaaGreatDoor
namespace Go.Proofs.YtnghanpmmbcbbaaGreatDoor
open Go.RowKit
theorem news2_Tm (w:World) (o:Obj) (u:Tm) (T:TypeId):∀j v,(elTm.cells u)[j]?=some v→((w.alloc o).alloc (.cells #[.int .i64 u.kind,.int .i64 u.num,.string u.name,.slice u.at_ u.args.length u.cap] T)).cell? ((⟨w.heap.size+1,0,none⟩:Addr).add j)=some v:=by
 intro j v hv
 have e:(w.alloc o).heap.size=w.heap.size+1:=by simp
 rw [add_plain,Nat.zero_add,← e,World.cell?_alloc_at _ _ _ _ rfl,← hv,show (#[.int .i64 u.kind,.int .i64 u.num,.string u.name,.slice u.at_ u.args.length u.cap]:Array Value)=(elTm.cells u).toArray from rfl,List.getElem?_toArray]
set_option maxHeartbeats 4000000 in
set_option maxRecDepth 10000 in
theorem list_Tm_at {R:Nat} {A:Option Addr} {c:Nat} {l:List Tk} (hg:GoodT l) (a n most:Nat) (hmost:most≤9223372036854775807) (ex:Rd1 Tm)
  (hE:∀(i:Nat) (w:World),Pq w R A c l i→a≤i→(leftT l i).length≤n→Calls Tryz.prog 203 #[.pointer (some ⟨R,0,none⟩)] w (ElR rdTm ex R A c l a i w))
  (i:Nat) (w:World) (h:Pq w R A c l i) (ha:a≤i) (hn:(leftT l i).length≤n) :
  Calls Tryz.prog 202 #[.pointer (some ⟨R,0,none⟩),.int .i64 (most:Int),.func (.func 203) #[.pointer (some ⟨R,0,none⟩)] #[]] w (ListR rdTm 69 ex most R A c l a i w):=by
 obtain ⟨i0,hi,hz0,hz1,hz2⟩:=info_parts term_info
 have HG:=Lib.hid hg
 have Q:=Lib.hid hE
 have hR:=h.lt
 have H0:=Lib.hid (show ListL rdTm 69 ex most R A c l a i n w (l.length - i) (.slice none 0 0) w i [] from
  ⟨Kp.refl _ _ _,h,RowG.nil _ _ _ _,rfl,Nat.le_refl _,fun h=>absurd rfl h,OkV.nil _ _ _,Nat.zero_le _,hn,Nat.le_refl _⟩)
 have HA:=Lib.hid ha
 have HM:=Lib.hid hmost
 clear hg hE h hn ha hmost
 go_enter Tryz.func202,Tryz.ntmps202
 go_wp2_with fail
 go_loopg [8] (l.length - i) (fun gk z wr=>∃(q:Nat) (xs:List Tm) (x:Value),z=x∧Hid (ListL rdTm 69 ex most R A c l a i n w gk x wr q xs))
 case atStart=>exact ⟨i,[],_,rfl,H0⟩
 case round =>
  clear H0
  obtain ⟨q,xs,z,hzx,hI⟩:=hrel
  have hzx':=hzx.symm
  clear hzx
  subst hzx'
  obtain ⟨B,zc,rfl⟩:=RowG.zform hI.out.2.2.1
  obtain ⟨k1,k2,k3,k4,k5,k6,k7,k8,k9,k10⟩:=hI.out
  have hqs:xs.length≤16385:=by have:=k2.ilt;have:=HG.out.small;omega
  have hlen:(xs.length:Int)≤16385:=by omega
  have hle2:xs.length≤9223372036854775807:=by omega
  clear k1 k3 k4 k5 k6 k7 k8 k9 k10
  by_cases hm:xs.length=most
  ·have hm':(((xs.length:Nat):Int)==(most:Int))=true:=by simp [hm]
   have HX:=Lib.hid hm
   clear hm k2
   go_wp2_with fail
   refine bodyPost_ret (v:=.tuple #[.slice none 0 0,.int .i64 6]) (by simp [results,Tryz.results202,go_sem]) rfl ?_
   obtain ⟨k1,k2,k3,k4,k5,k6,k7,k8,k9,k10⟩:=hI.out
   exact ⟨[],q,6,.slice none 0 0,rfl,k1,k2,RowG.nil _ _ _ _,.inr ⟨by omega,rfl,rfl,by rw [k4,listS_much (by rw [List.length_map];exact HX.out)]⟩⟩
  ·have hm':(((xs.length:Nat):Int)==(most:Int))=false:=by simp;omega
   have HX:=Lib.hid (show (xs.map (Rdr.h rdTm (gL l a))).length≠most by rw [List.length_map];exact hm)
   have Q1:=Lib.hid (Q.out q wr k2 (by have:=hI.out.2.2.2.2.1;have:=HA.out;omega) hI.out.2.2.2.2.2.2.2.2.1)
   clear hm k2
   go_wp2_with fail
   refine Q1.out.mono ?_
   rintro e w2 ⟨u,j,er,he,hk,hp,hs,ho⟩
   have he2:e=.returned (.tuple #[.agg #[.int .i64 u.kind,.int .i64 u.num,.string u.name,.slice u.at_ u.args.length u.cap],.int .i64 er]):=he
   clear he
   subst he2
   have HS:=Lib.hid hs
   have HK:=Lib.hid hk
   have HP:=Lib.hid hp
   have HR2:=Lib.hid (show R < w2.heap.size from hp.lt)
   clear hk hp hs
   rcases ho with ⟨rfl,hf,hqj,hv⟩|⟨her,hf⟩
   ·have HF:=Lib.hid hf
    have HJ:=Lib.hid hqj
    have HV:=Lib.hid hv
    clear hf hqj hv
    obtain ⟨b,hb⟩:∃b,((l.getD j default).2.2==[44])=b:=⟨_,rfl⟩
    have HB:=Lib.hid hb
    have HLo:=Lib.hid (show w.heap.size≤wr.heap.size from hI.out.1.size)
    have hlo2:w.heap.size≤w2.heap.size:=Nat.le_trans HLo.out HK.out.size
    have HRow:=Lib.hid (hI.out.2.2.1.kq HK.out hR)
    have HOr:=Lib.hid (own_lt hI.out.2.2.1.row)
    have HOb:=Lib.hid hI.out.2.2.1.sit.bd
    have QA:=Lib.hid (fun W (hW:Pq W R A c l j)=>accept_at HG.out hW [44] (by decide) HB.out)
    clear hb
    cases b
    ·have HC:=Lib.hid (show isS [44] (leftT l j)=false by rw [isS_left HG.out HP.out.ilt (by decide)];exact HB.out)
     go_wp2_with (first
      | (at_builtin; refine wpList_append_lies _ rfl _ _ 51 rfl w.heap.size 69 i0 _ 4 56 Tryz.underlying51 hi hz0 hz1 hz2 rfl (by decide) (.slice B xs.length zc) xs.length (Elt.cellsL elTm xs) rfl ((HRow.out.row.alloc _).alloc _) ⟨w2.heap.size + 1, 0, none⟩ 1 1 (Elt.cells elTm u) rfl rfl (news2_Tm w2 _ u _) (Elt.one elTm u) (by decide) (by unfold maxLen; omega) (by omega) (by simp; omega) _ rfl ?_; intro g cap w4 hown hg hat hglt
         have hbox := ((Below.refl w2.heap.size w2).alloc (Nat.le_refl _) (.cells #[.int .i64 u.kind, .int .i64 u.num, .string u.name, .slice u.at_ u.args.length u.cap] 69)).alloc (by simp) (.cells #[.int .i64 u.kind, .int .i64 u.num, .string u.name, .slice u.at_ u.args.length u.cap] 69)
         have HRow4 := Lib.hid (HRow.out.next HLo.out (fun k hk => (HOr.out k hk).2) (fun b hb => (HOb.out b hb).2) HS.out hbox hown hg hat)
         have HK4 := Lib.hid (show Kq R w w4 from ((((hI.out.1.trans HK.out).alloc _).alloc _).grown hg (fun k hk => (HOr.out k hk).1)))
         have HP4 := Lib.hid (((HP.out.alloc _).alloc _).grown hg (fun k hk => by have := (HOr.out k hk).1; omega))
         clear hown hg hat hglt hbox)
      | (go_at_call 100;refine (QA.out _ HP4.out).mono ?_;rintro e w5 ⟨rfl,hk5,hp5⟩;have HK5:=Lib.hid hk5;have HP5:=Lib.hid hp5;clear hk5 hp5))
     refine bodyPost_ret (v:=.tuple #[.slice (some ⟨g,0,none⟩) (xs.length+1) cap,.int .i64 0]) (by simp [results,Tryz.results202,go_sem]) rfl ?_
     obtain ⟨k1,k2,k3,k4,k5,k6,k7,k8,k9,k10⟩:=hI.out
     refine ⟨xs++[u],j,0,_,rfl,HK4.out.trans HK5.out,HP5.out,HRow4.out.kq HK5.out hR,.inl ⟨rfl,?_,by have:=HJ.out;omega,?_,by simp,by have:=HJ.out;have:=HP.out.ilt;have:=HG.out.small;simp only [List.length_append,List.length_cons,List.length_nil];omega⟩⟩
     ·rw [k4,listS_stop HX.out HF.out HC.out,List.map_append];rfl
     ·rw [List.flatMap_append,List.flatMap_cons,List.flatMap_nil,List.append_nil]
      exact k7.append HV.out (Nat.le_refl _) k5 (by have:=HJ.out;omega)
    ·have HN:=Lib.hid (show j+1 < l.length from good_next HG.out HP.out.ilt (by rw [beq_iff_eq.1 HB.out];decide))
     have HC:=Lib.hid (show isS [44] (leftT l j)=true by rw [isS_left HG.out HP.out.ilt (by decide)];exact HB.out)
     go_wp2_with (first
      | (at_builtin; refine wpList_append_lies _ rfl _ _ 51 rfl w.heap.size 69 i0 _ 4 56 Tryz.underlying51 hi hz0 hz1 hz2 rfl (by decide) (.slice B xs.length zc) xs.length (Elt.cellsL elTm xs) rfl ((HRow.out.row.alloc _).alloc _) ⟨w2.heap.size + 1, 0, none⟩ 1 1 (Elt.cells elTm u) rfl rfl (news2_Tm w2 _ u _) (Elt.one elTm u) (by decide) (by unfold maxLen; omega) (by omega) (by simp; omega) _ rfl ?_; intro g cap w4 hown hg hat hglt
         have hbox := ((Below.refl w2.heap.size w2).alloc (Nat.le_refl _) (.cells #[.int .i64 u.kind, .int .i64 u.num, .string u.name, .slice u.at_ u.args.length u.cap] 69)).alloc (by simp) (.cells #[.int .i64 u.kind, .int .i64 u.num, .string u.name, .slice u.at_ u.args.length u.cap] 69)
         have HRow4 := Lib.hid (HRow.out.next HLo.out (fun k hk => (HOr.out k hk).2) (fun b hb => (HOb.out b hb).2) HS.out hbox hown hg hat)
         have HK4 := Lib.hid (show Kq R w w4 from ((((hI.out.1.trans HK.out).alloc _).alloc _).grown hg (fun k hk => (HOr.out k hk).1)))
         have HP4 := Lib.hid (((HP.out.alloc _).alloc _).grown hg (fun k hk => by have := (HOr.out k hk).1; omega))
         clear hown hg hat hglt hbox)
      | (go_at_call 100;refine (QA.out _ HP4.out).mono ?_;rintro e w5 ⟨rfl,hk5,hp5⟩;have HK5:=Lib.hid hk5;have HP5:=Lib.hid hp5;clear hk5 hp5))
     have HN2:=Lib.hid (show ListL rdTm 69 ex most R A c l a i n w (gk - 1) (.slice (some ⟨g,0,none⟩) (xs.length+1) cap) w5 (j+1) (xs++[u]) by
      obtain ⟨k1,k2,k3,k4,k5,k6,k7,k8,k9,k10⟩:=hI.out
      have hj:=HJ.out
      have hn:=HN.out
      refine ⟨HK4.out.trans HK5.out,HP5.out,HRow4.out.kq HK5.out hR,?_,by omega,fun _=>by omega,?_,by simp only [List.length_append,List.length_cons,List.length_nil];omega,by rw [left_length] at k9 ⊢;omega,by omega⟩
      ·rw [k4,listS_comma HX.out HF.out HJ.out HN.out HC.out,List.map_append,show nsL l a (j+1)=nsL l a j from nsU_no (by
        have:=HC.out
        rw [left_isS HP.out.ilt] at this
        simp only [isT,Bool.and_eq_true,beq_iff_eq] at this
        simp only [kV,this.1]
        rfl)]
       rfl
      ·rw [List.flatMap_append,List.flatMap_cons,List.flatMap_nil,List.append_nil]
       exact (k7.append HV.out (Nat.le_refl _) k5 (by omega)).wide (Nat.le_refl _) (by omega))
     have HGk:=Lib.hid (show gk - 1 < gk by have:=HJ.out;have:=HN.out;have:=hI.out.2.2.2.2.2.2.2.2.2;omega)
     go_wp2_with fail
     go_roundg (gk - 1)
     case measure=>exact HGk.out
     case rel=>exact ⟨j+1,xs++[u],_,rfl,HN2⟩
   ·have hne:(er != 0)=true:=bne_iff_ne.2 her
    have HF:=Lib.hid hf
    have HE:=Lib.hid her
    clear her hf
    go_wp2_with fail
    refine bodyPost_ret (v:=.tuple #[.slice none 0 0,.int .i64 er]) (by simp [results,Tryz.results202,go_sem]) rfl ?_
    obtain ⟨k1,k2,k3,k4,k5,k6,k7,k8,k9,k10⟩:=hI.out
    exact ⟨[],j,er,.slice none 0 0,rfl,(k1.trans HK.out).alloc _,HP.out.alloc _,RowG.nil _ _ _ _,.inr ⟨HE.out,rfl,rfl,by rw [k4,listS_err HX.out HF.out]⟩⟩
end Go.Proofs.YtnghanpmmbcbbaaGreatDoor
namespace Go.Proofs.YtnghanpmmbcbbaaGreatDoor
open Go.RowKit
theorem args_list {ex:Rd1 Tm} {M:Nat}:∀(n:Nat) (ts:List Tok),ts.length≤n→ts≠[]→∀acc ns,acc.length+ts.length≤M →
  argsS ex acc ts ns=match listS ex M acc ts.tail ns with
   | .ok l r ns2=>wantS [41] l r ns2
   | .err n e=>.err n e
 | 0,ts,hn,h0,_,_,_=>absurd (List.length_eq_zero_iff.1 (by omega)) h0
 | n+1,ts,hn,h0,acc,ns,hM=>by
  have hp:0 < ts.length:=List.length_pos_iff.2 h0
  rw [argsS,listS,if_neg (by omega)]
  cases hex:ex ts.tail ns with
  | err l e=>rfl
  | ok x r ns2 =>
   simp only
   by_cases hc:isS [44] r=true
   ·rw [if_pos hc,if_pos hc]
    have hr:r≠[]:=by rintro rfl;cases hc
    have hrp:0 < r.length:=List.length_pos_iff.2 hr
    by_cases hlt:r.length < ts.length
    ·rw [dif_pos hlt,dif_pos (by rw [List.length_tail,List.length_tail];omega)]
     exact args_list n r (by omega) hr (acc++[x]) ns2 (by simp only [List.length_append,List.length_cons,List.length_nil];omega)
    ·rw [dif_neg hlt,dif_neg (by rw [List.length_tail,List.length_tail];omega)]
   ·rw [if_neg hc,if_neg hc]
theorem BoxL.get4 {w:World} {T:Nat} {v0 v1 v2 v3:Value} (h:BoxL w T [v0,v1,v2,v3]):w.cell? ⟨T,0,none⟩=some v0∧w.cell? ⟨T,1,none⟩=some v1∧w.cell? ⟨T,2,none⟩=some v2∧w.cell? ⟨T,3,none⟩=some v3 ∧
  w.frozen? ⟨T,0,none⟩=false∧w.frozen? ⟨T,1,none⟩=false∧w.frozen? ⟨T,2,none⟩=false∧w.frozen? ⟨T,3,none⟩=false:=⟨h.cells 0 _ rfl,h.cells 1 _ rfl,h.cells 2 _ rfl,h.cells 3 _ rfl,h.free 0,h.free 1,h.free 2,h.free 3⟩
theorem BoxL.get3 {w:World} {T:Nat} {v0 v1 v2:Value} (h:BoxL w T [v0,v1,v2]):w.cell? ⟨T,0,none⟩=some v0∧w.cell? ⟨T,1,none⟩=some v1∧w.cell? ⟨T,2,none⟩=some v2 ∧
  w.frozen? ⟨T,0,none⟩=false∧w.frozen? ⟨T,1,none⟩=false∧w.frozen? ⟨T,2,none⟩=false:=⟨h.cells 0 _ rfl,h.cells 1 _ rfl,h.cells 2 _ rfl,h.free 0,h.free 1,h.free 2⟩
theorem BoxL.get2 {w:World} {T:Nat} {v0 v1:Value} (h:BoxL w T [v0,v1]):w.cell? ⟨T,0,none⟩=some v0∧w.cell? ⟨T,1,none⟩=some v1 ∧
  w.frozen? ⟨T,0,none⟩=false∧w.frozen? ⟨T,1,none⟩=false:=⟨h.cells 0 _ rfl,h.cells 1 _ rfl,h.free 0,h.free 1⟩
theorem end4 {w W:World} {R:Nat} {A:Option Addr} {c:Nat} {l:List Tk} {j lo:Nat} {α:Type} {E:Elt α} {L:List α} (hR:R < w.heap.size) (hk:Kq R w W) (hp:Pq W R A c l j) (hs:SitG E lo W L) (hlo:w.heap.size < lo) (v0 v1 v2 v3:Value) :
  Kq R w ((((W.setCell ⟨w.heap.size,0,none⟩ v0).setCell ⟨w.heap.size,1,none⟩ v1).setCell ⟨w.heap.size,2,none⟩ v2).setCell ⟨w.heap.size,3,none⟩ v3)∧Pq ((((W.setCell ⟨w.heap.size,0,none⟩ v0).setCell ⟨w.heap.size,1,none⟩ v1).setCell ⟨w.heap.size,2,none⟩ v2).setCell ⟨w.heap.size,3,none⟩ v3) R A c l j∧SitG E w.heap.size ((((W.setCell ⟨w.heap.size,0,none⟩ v0).setCell ⟨w.heap.size,1,none⟩ v1).setCell ⟨w.heap.size,2,none⟩ v2).setCell ⟨w.heap.size,3,none⟩ v3) L:=by
 have hn:w.heap.size∉E.blkL L:=fun h=>by have:=(hs.bd _ h).1;omega
 exact ⟨(((hk.put (p:=⟨w.heap.size,0,none⟩) (Nat.le_refl _) _).put (p:=⟨w.heap.size,1,none⟩) (Nat.le_refl _) _).put (p:=⟨w.heap.size,2,none⟩) (Nat.le_refl _) _).put (p:=⟨w.heap.size,3,none⟩) (Nat.le_refl _) _,
  (((hp.put (p:=⟨w.heap.size,0,none⟩) hR _).put (p:=⟨w.heap.size,1,none⟩) hR _).put (p:=⟨w.heap.size,2,none⟩) hR _).put (p:=⟨w.heap.size,3,none⟩) hR _,
  ((((hs.low (by omega)).put (p:=⟨w.heap.size,0,none⟩) hn _).put (p:=⟨w.heap.size,1,none⟩) hn _).put (p:=⟨w.heap.size,2,none⟩) hn _).put (p:=⟨w.heap.size,3,none⟩) hn _⟩
theorem end2 {w W:World} {R:Nat} {A:Option Addr} {c:Nat} {l:List Tk} {j lo:Nat} {α:Type} {E:Elt α} {L:List α} (hR:R < w.heap.size) (hk:Kq R w W) (hp:Pq W R A c l j) (hs:SitG E lo W L) (hlo:w.heap.size < lo) (v0 v1:Value) :
  Kq R w ((W.setCell ⟨w.heap.size,0,none⟩ v0).setCell ⟨w.heap.size,1,none⟩ v1)∧Pq ((W.setCell ⟨w.heap.size,0,none⟩ v0).setCell ⟨w.heap.size,1,none⟩ v1) R A c l j∧SitG E w.heap.size ((W.setCell ⟨w.heap.size,0,none⟩ v0).setCell ⟨w.heap.size,1,none⟩ v1) L:=by
 have hn:w.heap.size∉E.blkL L:=fun h=>by have:=(hs.bd _ h).1;omega
 exact ⟨(hk.put (p:=⟨w.heap.size,0,none⟩) (Nat.le_refl _) _).put (p:=⟨w.heap.size,1,none⟩) (Nat.le_refl _) _,
  (hp.put (p:=⟨w.heap.size,0,none⟩) hR _).put (p:=⟨w.heap.size,1,none⟩) hR _,
  ((hs.low (by omega)).put (p:=⟨w.heap.size,0,none⟩) hn _).put (p:=⟨w.heap.size,1,none⟩) hn _⟩
theorem end3 {w W:World} {R:Nat} {A:Option Addr} {c:Nat} {l:List Tk} {j lo:Nat} {α:Type} {E:Elt α} {L:List α} (hR:R < w.heap.size) (hk:Kq R w W) (hp:Pq W R A c l j) (hs:SitG E lo W L) (hlo:w.heap.size < lo) (v0 v1 v2:Value) :
  Kq R w (((W.setCell ⟨w.heap.size,0,none⟩ v0).setCell ⟨w.heap.size,1,none⟩ v1).setCell ⟨w.heap.size,2,none⟩ v2)∧Pq (((W.setCell ⟨w.heap.size,0,none⟩ v0).setCell ⟨w.heap.size,1,none⟩ v1).setCell ⟨w.heap.size,2,none⟩ v2) R A c l j∧SitG E w.heap.size (((W.setCell ⟨w.heap.size,0,none⟩ v0).setCell ⟨w.heap.size,1,none⟩ v1).setCell ⟨w.heap.size,2,none⟩ v2) L:=by
 have hn:w.heap.size∉E.blkL L:=fun h=>by have:=(hs.bd _ h).1;omega
 exact ⟨((hk.put (p:=⟨w.heap.size,0,none⟩) (Nat.le_refl _) _).put (p:=⟨w.heap.size,1,none⟩) (Nat.le_refl _) _).put (p:=⟨w.heap.size,2,none⟩) (Nat.le_refl _) _,
  ((hp.put (p:=⟨w.heap.size,0,none⟩) hR _).put (p:=⟨w.heap.size,1,none⟩) hR _).put (p:=⟨w.heap.size,2,none⟩) hR _,
  (((hs.low (by omega)).put (p:=⟨w.heap.size,0,none⟩) hn _).put (p:=⟨w.heap.size,1,none⟩) hn _).put (p:=⟨w.heap.size,2,none⟩) hn _⟩
theorem Kq.from_new {w W:World} {R:Nat} {o:Obj} (hk:Kq R (w.alloc o) W):Kq R w W:=((Kp.refl R Z0 w).alloc o).trans hk
section
variable {R:Nat} {A:Option Addr} {c:Nat} {l:List Tk}
def ExprQ (R:Nat) (A:Option Addr) (c:Nat) (l:List Tk) (a n:Nat) (ex:Rd1 Tm):Prop :=
 ∀(i:Nat) (w:World),Pq w R A c l i→a≤i→(leftT l i).length≤n→Calls Tryz.prog 203 #[.pointer (some ⟨R,0,none⟩)] w (ElR rdTm ex R A c l a i w)
theorem nsL_no {l:List Tk} {a i:Nat} {k:Int} (h:(l.getD i default).1=k) (hk:k≠2):nsL l a (i+1)=nsL l a i:=nsU_no (by rw [kV,h];simpa using hk)
theorem nsL_s {l:List Tk} {a i:Nat} {s:List UInt8} (hi:i < l.length) (h:isS s (leftT l i)=true):nsL l a (i+1)=nsL l a i:=by
 rw [left_isS hi] at h
 simp only [isT,Bool.and_eq_true,beq_iff_eq] at h
 exact nsL_no h.1 (by decide)
set_option maxHeartbeats 4000000 in
set_option maxRecDepth 10000 in
theorem group_at (hg:GoodT l) {a n:Nat} {ex:Rd1 Tm} (hE:ExprQ R A c l a n ex) (i:Nat) (w:World) (h:Pq w R A c l i) (ha:a≤i) (hn:(leftT l i).length≤n) :
  Calls Tryz.prog 206 #[.pointer (some ⟨R,0,none⟩)] w (ElR rdTm (fun ts ns=>match ex ts ns with
   | .ok x r ns2=>wantS [41] x r ns2
   | .err l e=>.err l e) R A c l a i w):=by
 have HG:=Lib.hid hg
 have hR:=h.lt
 have Q:=Lib.hid (hE i _ (h.alloc (.cells #[.int .i64 0,.int .i64 0,.string ⟨#[]⟩,.slice none 0 0] 69)) ha hn)
 have HI:=Lib.hid h.ilt
 clear hg hE h hn
 go_enter Tryz.func206,Tryz.ntmps206
 go_wp2_with fail
 refine Q.out.mono ?_
 rintro e w2 ⟨u,j,er,he,hk,hp,hs,ho⟩
 have he2:e=.returned (.tuple #[.agg #[.int .i64 u.kind,.int .i64 u.num,.string u.name,.slice u.at_ u.args.length u.cap],.int .i64 er]):=he
 clear he
 subst he2
 have hTR:w.heap.size≠R:=by omega
 have HB:=Lib.hid ((BoxL.new w [.int .i64 0,.int .i64 0,.string ⟨#[]⟩,.slice none 0 0] 69).kq hk hTR)
 have HU:=Lib.hid (BoxL.new w2 [.int .i64 u.kind,.int .i64 u.num,.string u.name,.slice u.at_ u.args.length u.cap] 69)
 have HK:=Lib.hid (Kq.from_new hk)
 have hsz:w.heap.size+1≤w2.heap.size:=by have:=hk.size;simpa using this
 have HS:=Lib.hid (hs.low (lo':=w.heap.size+1) (by simp))
 have HP:=Lib.hid hp
 clear hk hs hp
 rcases ho with ⟨rfl,hf,hij,hv⟩|⟨her,hf⟩
 ·obtain ⟨b,hb⟩:∃b,((l.getD j default).2.2==[41])=b:=⟨_,rfl⟩
  have HF:=Lib.hid hf
  have HJ:=Lib.hid hij
  have HV:=Lib.hid hv
  have HX:=Lib.hid (show isS [41] (leftT l j)=b by rw [isS_left HG.out HP.out.ilt (by decide)];exact hb)
  have QX:=Lib.hid (fun W (hW:Pq W R A c l j)=>expect_at HG.out hW [41] (by decide) hb)
  have HN:=Lib.hid (show b=true→j+1 < l.length from fun e=>good_next HG.out HP.out.ilt (by rw [e] at hb;rw [beq_iff_eq.1 hb];decide))
  clear hf hij hv hb
  cases b
  ·go_wp2_with (go_at_call 98;refine (QX.out _ (HP.out.alloc _)).mono ?_;rintro e w3 ⟨rfl,hk3,hp3⟩;have HK3:=Lib.hid ((HK.out.alloc _).trans hk3);have hsz3:w2.heap.size+1≤w3.heap.size:=(by have:=hk3.size;simpa using this);obtain ⟨c0,c1,c2,c3,f0,f1,f2,f3⟩:=((HB.out.alloc (.cells #[.int .i64 u.kind,.int .i64 u.num,.string u.name,.slice u.at_ u.args.length u.cap] 69)).kq hk3 hTR).get4;obtain ⟨d0,d1,d2,d3,_⟩:=(HU.out.kq hk3 (by have:=HB.out.lt;omega)).get4;have HP3:=Lib.hid hp3;have HS3:=Lib.hid ((HS.out.below ((Below.refl _ _).alloc (Nat.le_refl _) _)).kq hk3 (by omega));clear hk3 hp3)
   refine bodyPost_ret (v:=.tuple #[.agg #[.int .i64 u.kind,.int .i64 u.num,.string u.name,.slice u.at_ u.args.length u.cap],.int .i64 16]) (by simp [results,Tryz.results206,go_sem,c0,c1,c2,c3]) rfl ?_
   obtain ⟨e1,e2,e3⟩:=end4 hR HK3.out HP3.out HS3.out (Nat.lt_succ_self _) (.int .i64 u.kind) (.int .i64 u.num) (.string u.name) (.slice u.at_ u.args.length u.cap)
   refine ⟨u,j,16,rfl,e1,e2,e3,.inr ⟨by omega,?_⟩⟩
   simp only [HF.out,wantS,HX.out]
   rfl
  ·go_wp2_with (go_at_call 98;refine (QX.out _ (HP.out.alloc _)).mono ?_;rintro e w3 ⟨rfl,hk3,hp3⟩;have HK3:=Lib.hid ((HK.out.alloc _).trans hk3);have hsz3:w2.heap.size+1≤w3.heap.size:=(by have:=hk3.size;simpa using this);obtain ⟨c0,c1,c2,c3,f0,f1,f2,f3⟩:=((HB.out.alloc (.cells #[.int .i64 u.kind,.int .i64 u.num,.string u.name,.slice u.at_ u.args.length u.cap] 69)).kq hk3 hTR).get4;obtain ⟨d0,d1,d2,d3,_⟩:=(HU.out.kq hk3 (by have:=HB.out.lt;omega)).get4;have HP3:=Lib.hid hp3;have HS3:=Lib.hid ((HS.out.below ((Below.refl _ _).alloc (Nat.le_refl _) _)).kq hk3 (by omega));clear hk3 hp3)
   refine bodyPost_ret (v:=.tuple #[.agg #[.int .i64 u.kind,.int .i64 u.num,.string u.name,.slice u.at_ u.args.length u.cap],.int .i64 0]) (by simp [results,Tryz.results206,go_sem,c0,c1,c2,c3]) rfl ?_
   obtain ⟨e1,e2,e3⟩:=end4 hR HK3.out HP3.out HS3.out (Nat.lt_succ_self _) (.int .i64 u.kind) (.int .i64 u.num) (.string u.name) (.slice u.at_ u.args.length u.cap)
   have hj:=HJ.out
   refine ⟨u,j+1,0,rfl,e1,e2,e3,.inl ⟨rfl,?_,by omega,HV.out.wide (Nat.le_refl _) (by omega)⟩⟩
   simp only [HF.out,wantS,HX.out,left_tail,if_true]
   rw [nsL_s HP.out.ilt HX.out]
 ·have hne:(er==0)=false:=by simpa using her
  have HF:=Lib.hid hf
  have HE:=Lib.hid her
  obtain ⟨c0,c1,c2,c3,f0,f1,f2,f3⟩:=(HB.out.alloc (.cells #[.int .i64 u.kind,.int .i64 u.num,.string u.name,.slice u.at_ u.args.length u.cap] 69)).get4
  clear her hf
  go_wp2_with fail
  refine bodyPost_ret (v:=.tuple #[.agg #[.int .i64 u.kind,.int .i64 u.num,.string u.name,.slice u.at_ u.args.length u.cap],.int .i64 er]) (by simp [results,Tryz.results206,go_sem,c0,c1,c2,c3]) rfl ?_
  obtain ⟨e1,e2,e3⟩:=end4 hR (HK.out.alloc _) (HP.out.alloc _) (HS.out.below ((Below.refl _ _).alloc (Nat.le_refl _) _)) (Nat.lt_succ_self _) (.int .i64 u.kind) (.int .i64 u.num) (.string u.name) (.slice u.at_ u.args.length u.cap)
  refine ⟨u,j,er,rfl,e1,e2,e3,.inr ⟨HE.out,?_⟩⟩
  simp only [HF.out]
end
end Go.Proofs.YtnghanpmmbcbbaaGreatDoor
