/-
  SyProg.
  SyValid.
  SyRule.
 SyNames.
-/
import Derived.Test.YtaojnljppcnhjaaGreatDoorMh3
namespace Go.Proofs.YtaojnljppcnhjaaGreatDoor
open Go
theorem decls_ext:∀(n:Nat) (a:List Tok),a.length≤n→∀(c:Tok) acc v r ns2,declsS acc (c :: a++EndT)=.ok v r ns2→∃b,r=b++EndT∧b.length < a.length+1∧∀x,declsS acc (c :: a++x)=.ok v (b++x) ns2
 | n,a,hn,c,acc,v,r,ns2,h=>by
  rw [declsS] at h
  simp only [List.cons_append,List.tail_cons] at h
  by_cases h30:30≤acc.length
  ·rw [if_pos h30] at h;cases h
  ·rw [if_neg h30] at h
   cases he:nmS (a++EndT) [] with
   | err l e=>rw [he] at h;cases h
   | ok t r1 ns1 =>
    rw [he] at h
    simp only at h
    obtain ⟨b,rfl,hb,hx⟩:=nm_ext _ _ _ _ _ he
    cases he2:wantS [47] t (b++EndT) [] with
    | err l e=>rw [he2] at h;cases h
    | ok u r2 ns3 =>
     rw [he2] at h
     simp only at h
     obtain ⟨hb0,b2,rfl,hb2,hx2⟩:=want_then he2
     cases b2 with
     | nil =>
      simp only [List.nil_append,EndT] at h
      rw [if_pos (by decide)] at h;cases h
     | cons c2 b3 =>
      obtain ⟨k,d,g⟩:=c2
      simp only [List.cons_append] at h
      by_cases hk:k≠3
      ·rw [if_pos hk] at h;cases h
      ·rw [if_neg hk] at h
       by_cases h6:6 < valD d
       ·rw [if_pos h6] at h;cases h
       ·rw [if_neg h6] at h
        simp only [List.length_cons] at hb2
        cases hs:isS [44] (b3++EndT) with
        | true =>
         obtain ⟨c4,b4,rfl,hsx⟩:=isS_true hs
         simp only [List.length_cons] at hb2
         rw [hs,if_pos rfl,dif_pos (by simp only [List.length_cons,List.length_append];omega)] at h
         match n,hn with
         | 0,hn=>omega
         | n+1,hn =>
          obtain ⟨b5,e1,e2,e3⟩:=decls_ext n b4 (by omega) c4 _ _ _ _ h
          refine ⟨b5,e1,by omega,fun x=>?_⟩
          have i1:=hx2 x
          have i2:=hsx x
          have i3:=e3 x
          simp only [List.cons_append] at i1 i2 i3
          rw [declsS]
          simp only [List.cons_append,List.tail_cons]
          rw [if_neg h30,hx x]
          simp only
          rw [i1]
          simp only
          rw [if_neg hk,if_neg h6,i2,if_pos rfl,dif_pos (by simp only [List.length_cons,List.length_append];omega)]
          exact i3
        | false =>
         rw [hs,if_neg (by decide)] at h
         obtain ⟨hb30,d2,e1,e2,e3⟩:=want_then h
         refine ⟨d2,e1,by omega,fun x=>?_⟩
         have i1:=hx2 x
         simp only [List.cons_append] at i1
         rw [declsS]
         simp only [List.cons_append,List.tail_cons]
         rw [if_neg h30,hx x]
         simp only
         rw [i1]
         simp only
         rw [if_neg hk,if_neg h6,isS_false hs hb30 x,if_neg (by decide)]
         exact e3 x
abbrev constraintW:List UInt8:=[99,111,110,115,116,114,97,105,110,116]
theorem allDecls_ext:∀(n:Nat) (a:List Tok),a.length≤n→∀acc v r ns2,allDecls acc (a++EndT)=.ok v r ns2→∃b,r=b++EndT∧b.length≤a.length∧∀x,isW constraintW x=false→allDecls acc (a++x)=.ok v (b++x) []
 | n,a,hn,acc,v,r,ns2,h=>by
  rw [allDecls] at h
  cases hw:isW constraintW (a++EndT) with
  | false =>
   rw [hw,if_neg (by decide)] at h
   injection h with h1 h2 h3
   subst h1 h2 h3
   refine ⟨a,rfl,Nat.le_refl _,fun x hx=>?_⟩
   rw [allDecls]
   have:isW constraintW (a++x)=false:=by
    cases a with
    | nil=>exact hx
    | cons c d=>exact hw
   rw [this,if_neg (by decide)]
  | true =>
   rw [hw,if_pos rfl] at h
   cases a with
   | nil=>cases hw
   | cons c d =>
    cases he:declsS acc (c :: d++EndT) with
    | err l e=>rw [he] at h;cases h
    | ok y r1 ns1 =>
     rw [he] at h
     simp only at h
     obtain ⟨b,rfl,hb,hx⟩:=decls_ext _ d (Nat.le_refl _) c _ _ _ _ he
     rw [dif_pos (by simp only [List.length_cons,List.length_append];omega)] at h
     match n,hn with
     | 0,hn=>simp at hn
     | n+1,hn =>
      simp only [List.length_cons] at hn
      obtain ⟨b2,e1,e2,e3⟩:=allDecls_ext n b (by omega) _ _ _ _ h
      refine ⟨b2,e1,by simp only [List.length_cons];omega,fun x hxw=>?_⟩
      have hw2:isW constraintW (c :: d++x)=true:=hw
      rw [allDecls,hw2,if_pos rfl,hx x]
      simp only
      rw [dif_pos (by simp only [List.length_cons,List.length_append];omega)]
      exact e3 x hxw
theorem rule_head {ex:Rd1 Tm} {ts:List Tok} {v:Rs} {r:List Tok} {ns2:List (List UInt8)} (h:ruleS ex ts=.ok v r ns2):∃t g d,ts=(1,t,g) :: d∧resB t=false:=by
 have hnm:∀{ts:List Tok} {ns:List (List UInt8)} {t:List UInt8} {r ns2},nmS ts ns=.ok t r ns2→∃t g d,ts=(1,t,g) :: d∧resB t=false:=by
  intro ts ns t r ns2 h
  unfold nmS at h
  split at h
  ·cases h
  ·rename_i k t g d
   split at h
   ·cases h
   ·rename_i hk
    split at h
    ·cases h
    ·rename_i hr
     have:k=1:=Classical.not_not.1 hk
     subst this
     exact ⟨t,g,d,rfl,by simpa using hr⟩
 unfold ruleS at h
 split at h
 ·cases h
 ·rename_i y r1 ns1 he
  unfold partsS at he
  split at he
  ·cases he
  ·rename_i lb r2 ns3 hl
   split at he
   ·cases he
   ·rename_i z r3 ns4 hb
    have hboth:∃t g d,r2=(1,t,g) :: d∧resB t=false:=by
     unfold bothS at hb
     split at hb
     ·cases hb
     ·rename_i w r4 ns5 hh
      rw [headsS] at hh
      split at hh
      ·cases hh
      ·split at hh
       ·cases hh
       ·rename_i a r5 ns6 ha
        unfold atomS at ha
        split at ha
        ·cases ha
        ·rename_i t r6 ns7 hn
         exact hnm hn
    unfold labelS at hl
    split at hl
    ·injection hl with _ h2 _;subst h2;exact hboth
    ·split at hl
     ·split at hl
      ·rename_i t r7 ns8 hn
       exact hnm hn
      ·cases hl
     ·injection hl with _ h2 _;subst h2;exact hboth
theorem rule_word {ex:Rd1 Tm} {ts:List Tok} {v:Rs} {r:List Tok} {ns2:List (List UInt8)} (h:ruleS ex ts=.ok v r ns2):isW constraintW ts=false:=by
 obtain ⟨t,g,d,rfl,hr⟩:=rule_head h
 simp only [isW]
 by_cases ht:t=constraintW
 ·subst ht;exact absurd hr (by decide)
 ·simpa using ht
theorem program_app {ex:Rd1 Tm} (hex:ExtW ex) (hsx:Suf ex) {a y:List Tok} {d:List (List UInt8×Int)} {l:List Rs} {q:Rs} {r:List Tok} {ns nq:List (List UInt8)}
  (h:programS ex (a++EndT)=.ok (d,l) r ns) (ha:NoEnd a) (hy:ruleS ex (y++EndT)=.ok q EndT nq) (hyn:NoEnd y) (hl:l.length < 40):programS ex (a++(y++EndT))=.ok (d,l++[q]) EndT []:=by
 unfold programS at h
 cases he:allDecls [] (a++EndT) with
 | err l e=>rw [he] at h;cases h
 | ok y1 r1 ns1 =>
  rw [he] at h
  simp only at h
  have hs:=allDecls_suf _ _ (Nat.le_refl _) _ _ _ _ he
  obtain ⟨b,rfl,hb,hx⟩:=allDecls_ext _ a (Nat.le_refl _) _ _ _ _ he
  cases he2:rulesS ex [] (b++EndT) with
  | err l e=>rw [he2] at h;cases h
  | ok l2 r2 ns3 =>
   rw [he2] at h
   injection h with h1 h2 h3
   injection h1 with h4 h5
   subst h4 h5
   have h6:=rules_app hex hsx hy hyn _ b (Nat.le_refl _) (ha.suffix hs) _ _ _ _ he2 hl
   unfold programS
   rw [hx _ (rule_word hy)]
   simp only
   rw [h6]
theorem only_end {ex:Rd1 Tm} (hsx:Suf ex) {a:List Tok} {v:Rs} {r:List Tok} {ns:List (List UInt8)} (hex:ExtW ex) (ha:NoEnd a) (h:onlyS (ruleS ex (a++EndT))=.ok v r ns):ruleS ex (a++EndT)=.ok v EndT ns:=by
 cases he:ruleS ex (a++EndT) with
 | err l e=>rw [he] at h;cases h
 | ok y r1 ns1 =>
  rw [he] at h
  obtain ⟨b,rfl,hb,_⟩:=rule_ext hex he
  have hs:=ha.suffix (rule_suf hsx he)
  unfold onlyS at h
  simp only at h
  split at h
  ·rename_i h0
   injection h with h1 h2 h3
   subst h1 h2 h3
   cases b with
   | nil=>rfl
   | cons c d=>exact absurd h0 (hs c (by simp))
  ·cases h
end Go.Proofs.YtaojnljppcnhjaaGreatDoor
namespace Go.Proofs.YtaojnljppcnhjaaGreatDoor
open Go
def dedS (l:List Int):List Int:=l.foldl putS []
theorem putS_mem (l:List Int) (x y:Int):y∈putS l x↔y∈l∨y=x:=by
 unfold putS
 split
 ·constructor
  ·exact .inl
  ·rintro (h|rfl)
   ·exact h
   ·assumption
 ·simp
theorem fold_mem (xs:List Int):∀(l:List Int) (y:Int),y∈xs.foldl putS l↔y∈l∨y∈xs:=by
 induction xs with
 | nil=>simp
 | cons x xs ih =>
  intro l y
  rw [List.foldl_cons,ih,putS_mem,List.mem_cons,or_assoc]
theorem fold_prefix (xs:List Int):∀(l:List Int),l <+: xs.foldl putS l:=by
 induction xs with
 | nil=>exact fun l=>List.prefix_refl l
 | cons x xs ih =>
  intro l
  refine List.IsPrefix.trans ?_ (ih (putS l x))
  unfold putS
  split
  ·exact List.prefix_refl l
  ·exact List.prefix_append _ _
theorem ded_append (a b:List Int):dedS (a++b)=b.foldl putS (dedS a):=by simp [dedS]
theorem ded_mem {l:List Int} {y:Int}:y∈dedS l↔y∈l:=by simp [dedS,fold_mem]
theorem fold_ded (xs:List Int):∀(l m:List Int),(∀y∈m,y∈l)→(xs.foldl putS m).foldl putS l=xs.foldl putS l:=by
 intro l m hm
 have key:∀(l:List Int) (m:List Int),(∀y∈m,y∈l)→m.foldl putS l=l:=by
  intro l m
  induction m generalizing l with
  | nil=>intro _;rfl
  | cons z m ih =>
   intro h
   rw [List.foldl_cons]
   have:putS l z=l:=by unfold putS;rw [if_pos (h z (by simp))]
   rw [this]
   exact ih l (fun y hy=>h y (List.mem_cons_of_mem _ hy))
 induction xs generalizing l m with
 | nil=>exact key l m hm
 | cons x xs ih =>
  rw [List.foldl_cons,List.foldl_cons]
  by_cases hx:x∈m
  ·have h1:putS m x=m:=by unfold putS;rw [if_pos hx]
   have h2:putS l x=l:=by unfold putS;rw [if_pos (hm x hx)]
   rw [h1,h2]
   exact ih l m hm
  ·by_cases hxl:x∈l
   ·have h2:putS l x=l:=by unfold putS;rw [if_pos hxl]
    rw [h2]
    refine ih l (putS m x) fun y hy=>?_
    rcases (putS_mem m x y).1 hy with h|rfl
    ·exact hm y h
    ·exact hxl
   ·have h1:putS m x=m++[x]:=by unfold putS;rw [if_neg hx]
    have h2:putS l x=l++[x]:=by unfold putS;rw [if_neg hxl]
    rw [h1,h2,← ih (l++[x]) (m++[x]) (fun y hy=>by
     rcases List.mem_append.1 hy with h|h
     ·exact List.mem_append_left _ (hm y h)
     ·exact List.mem_append_right _ h)]
    obtain ⟨z,hz⟩:=fold_prefix xs (m++[x])
    rw [←hz,List.foldl_append,List.foldl_append,List.foldl_append,List.foldl_append,key l m hm,key (l++[x]) m (fun y hy=>List.mem_append_left _ (hm y hy))]
    have h3:[x].foldl putS l=l++[x]:=by simp [h2]
    have h4:[x].foldl putS (l++[x])=l++[x]:=by simp [putS]
    rw [h3,h4]
theorem ded_ded (l xs:List Int):(dedS xs).foldl putS l=xs.foldl putS l:=fold_ded xs l [] (by simp)
def stepC (n v:Int):Int:=if n < 0∨n < v∨v < 0 then -1 else max n (v+1)
def cntS (n:Int) (xs:List Int):Int:=xs.foldl stepC n
theorem place_in {vs:List Int} {v:Int} (h:v∈vs):placeS vs v=(vs.idxOf v:Int):=by unfold placeS;rw [if_pos h]
theorem cnt_place {vs:List Int}:∀(o l:List Int),o.foldl putS l <+: vs→cntS (l.length:Int) (o.map (placeS vs))=((o.foldl putS l).length:Int):=by
 intro o
 induction o with
 | nil=>intro l _;rfl
 | cons x o ih =>
  intro l h
  rw [List.foldl_cons] at h
  rw [List.map_cons,List.foldl_cons]
  have hp:putS l x <+: vs:=(fold_prefix o _).trans h
  have hstep:stepC (l.length:Int) (placeS vs x)=((putS l x).length:Int):=by
   have hx:x∈vs:=hp.subset ((putS_mem l x x).2 (.inr rfl))
   rw [place_in hx]
   obtain ⟨z,rfl⟩:=hp
   by_cases hxl:x∈l
   ·have e:putS l x=l:=by unfold putS;rw [if_pos hxl]
    rw [e]
    have hi:(l++z).idxOf x < l.length:=by
     rw [List.idxOf_append,if_pos hxl]
     exact List.idxOf_lt_length_iff.2 hxl
    unfold stepC
    rw [if_neg (by omega)]
    omega
   ·have e:putS l x=l++[x]:=by unfold putS;rw [if_neg hxl]
    rw [e]
    have hi:(l++[x]++z).idxOf x=l.length:=by
     rw [List.append_assoc,List.idxOf_append,if_neg hxl]
     simp
    rw [hi]
    unfold stepC
    rw [if_neg (by omega),List.length_append]
    simp only [List.length_cons,List.length_nil]
    omega
  show cntS (stepC (l.length:Int) (placeS vs x)) (o.map (placeS vs))=_
  rw [hstep]
  exact ih _ h
theorem num2_len (f:Int→Int) (l:List Tm):(numL2 f l).length=l.length:=by
 induction l with
 | nil=>rfl
 | cons t r ih=>simp [numL2,ih]
theorem num2_map (f:Int→Int) (l:List Tm):numL2 f l=l.map (Tm.num2 f):=by
 induction l with
 | nil=>rfl
 | cons t r ih=>simp [numL2,ih]
theorem num2_occ (f:Int→Int):(∀t:Tm,(t.num2 f).occ=t.occ.map f)∧(∀l,occL (numL2 f l)=(occL l).map f):=by
 refine Tm.induct2 (fun k n s A c a ih=>?_) rfl (fun t r h1 h2=>?_)
 ·simp only [Tm.num2,Tm.occ]
  by_cases h1:k=1
  ·simp [h1]
  ·by_cases h2:k=2
   ·simp [h2,ih]
   ·simp [h1,h2]
 ·simp only [numL2,occL,h1,h2,List.map_append]
theorem num2_size (f:Int→Int):(∀t:Tm,(t.num2 f).size=t.size)∧(∀l,sizeL (numL2 f l)=sizeL l):=by
 refine Tm.induct2 (fun k n s A c a ih=>?_) rfl (fun t r h1 h2=>?_)
 ·simp only [Tm.num2,Tm.size,ih]
 ·simp only [numL2,sizeL,h1,h2]
theorem num2_depth (f:Int→Int):(∀t:Tm,(t.num2 f).depth=t.depth)∧(∀l,depthL (numL2 f l)=depthL l):=by
 refine Tm.induct2 (fun k n s A c a ih=>?_) rfl (fun t r h1 h2=>?_)
 ·simp only [Tm.num2,Tm.depth,ih]
 ·simp only [numL2,depthL,h1,h2]
theorem num2_form (f:Int→Int):(∀t:Tm,t.form=true→(∀v∈t.occ,0≤f v∧f v≤1048576)→(t.num2 f).form=true)∧(∀l,formL l=true→(∀v∈occL l,0≤f v∧f v≤1048576)→formL (numL2 f l)=true):=by
 refine Tm.induct2 (fun k n s A c a ih=>?_) (fun _ _=>rfl) (fun t r h1 h2=>?_)
 ·intro h ho
  simp only [Tm.num2,Tm.form] at h ⊢
  by_cases k0:k=0
  ·simp only [k0,if_true] at h ⊢
   simpa [num2_len] using h
  ·rw [if_neg k0] at h ⊢
   by_cases k1:k=1
   ·subst k1
    simp only [if_true] at h ⊢
    have:=ho n (by simp [Tm.occ])
    simp only [Bool.and_eq_true,decide_eq_true_eq] at h ⊢
    exact ⟨this.1,this.2,h.2.2.1,by rw [num2_len];exact h.2.2.2⟩
   ·rw [if_neg k1] at h ⊢
    by_cases k2:k=2
    ·subst k2
     simp only [if_true,num2_len] at h ⊢
     simp only [Bool.and_eq_true] at h ⊢
     exact ⟨by simpa using h.1,h.2.1,ih h.2.2 (fun v hv=>ho v (by simpa [Tm.occ] using hv))⟩
    ·rw [if_neg k2] at h;cases h
 ·intro h ho
  simp only [formL,numL2,Bool.and_eq_true] at h ⊢
  exact ⟨h1 h.1 (fun v hv=>ho v (by simp [occL,hv])),h2 h.2 (fun v hv=>ho v (by simp [occL,hv]))⟩
theorem num2_rightT {f:Int→Int} {l:List Tm} (h:rightT l=true) (ho:∀v∈occL l,0≤f v∧f v≤1048576):rightT (numL2 f l)=true:=by
 unfold rightT at h ⊢
 simp only [Bool.and_eq_true] at h ⊢
 rw [(num2_size f).2,(num2_depth f).2]
 exact ⟨(num2_form f).2 l h.1 ho,h.2⟩
theorem num2_rightA {f:Int→Int} {a:As} (h:rightA a.1 a.2=true) (ho:∀v∈occL a.2,0≤f v∧f v≤1048576):rightA (a.num2 f).1 (a.num2 f).2=true:=by
 unfold rightA at h ⊢
 simp only [Bool.and_eq_true,As.num2,num2_len] at h ⊢
 exact ⟨h.1,h.2.1,num2_rightT h.2.2 ho⟩
theorem rightG_call (s:List UInt8) (l:List Tm):rightG (0,s,l)=rightA s l:=rfl
theorem rightG_op {op:Int} (h:op≠0) (s:List UInt8) (l:List Tm):rightG (op,s,l)=(decide (s=[])&&(decide ((l.length:Int)=arityS op)&&rightT l)):=by
 unfold rightG
 exact if_neg h
theorem num2_rightG {f:Int→Int} {g:Gs} (h:rightG g=true) (ho:∀v∈occL g.2.2,0≤f v∧f v≤1048576):rightG (g.num2 f)=true:=by
 obtain ⟨op,s,l⟩:=g
 show rightG (op,s,numL2 f l)=true
 by_cases h0:op=0
 ·subst h0
  rw [rightG_call] at h ⊢
  exact num2_rightA (a:=(s,l)) h ho
 ·rw [rightG_op h0] at h ⊢
  simp only [Bool.and_eq_true,num2_len] at h ⊢
  exact ⟨h.1,h.2.1,num2_rightT h.2.2 ho⟩
theorem ded_map {f:Int→Int} (o:List Int):∀(l:List Int),(∀x∈l++o,∀y∈l++o,f x=f y→x=y)→(o.map f).foldl putS (l.map f)=(o.foldl putS l).map f:=by
 induction o with
 | nil=>intro l _;rfl
 | cons x o ih =>
  intro l hi
  rw [List.map_cons,List.foldl_cons,List.foldl_cons]
  have e:putS (l.map f) (f x)=(putS l x).map f:=by
   unfold putS
   by_cases hx:x∈l
   ·rw [if_pos (List.mem_map_of_mem hx),if_pos hx]
   ·rw [if_neg hx,if_neg ?_]
    ·simp
    ·intro hm
     obtain ⟨y,hy,e⟩:=List.mem_map.1 hm
     have:=hi y (by simp [hy]) x (by simp) e
     exact hx (this ▸ hy)
  rw [e]
  refine ih _ fun a ha b hb hab=>hi a ?_ b ?_ hab
  ·rcases List.mem_append.1 ha with h|h
   ·rcases (putS_mem l x a).1 h with h|rfl
    ·simp [h]
    ·simp
   ·simp [h]
  ·rcases List.mem_append.1 hb with h|h
   ·rcases (putS_mem l x b).1 h with h|rfl
    ·simp [h]
    ·simp
   ·simp [h]
theorem place_inj {vs:List Int} {x y:Int} (hx:x∈vs) (hy:y∈vs) (h:placeS vs x=placeS vs y):x=y:=by
 rw [place_in hx,place_in hy] at h
 have h1:vs.idxOf x=vs.idxOf y:=by omega
 have h2:=List.getElem_idxOf (List.idxOf_lt_length_iff.2 hx)
 have h3:=List.getElem_idxOf (List.idxOf_lt_length_iff.2 hy)
 rw [←h2,← h3]
 simp only [h1]
def cntT (n:Int) (l:List Tm):Int:=l.foldl (fun n t=>cntS n (dedS t.occ)) n
theorem cnt_terms {vs:List Int}:∀(L:List Tm) (l:List Int),(occL L).foldl putS l <+: vs→cntT (l.length:Int) (numL2 (placeS vs) L)=(((occL L).foldl putS l).length:Int)
 | [],_,_=>rfl
 | t :: L,l,h=>by
  simp only [occL,List.foldl_append] at h ⊢
  have hp:t.occ.foldl putS l <+: vs:=(fold_prefix _ _).trans h
  have hmem:∀x∈t.occ,x∈vs:=fun x hx=>hp.subset ((fold_mem _ _ _).2 (.inr hx))
  have e:dedS ((t.num2 (placeS vs)).occ)=(dedS t.occ).map (placeS vs):=by
   rw [(num2_occ _).1]
   exact ded_map t.occ [] (fun x hx y hy hxy=>place_inj (hmem x (by simpa using hx)) (hmem y (by simpa using hy)) hxy)
  have hstep:cntS (l.length:Int) (dedS ((t.num2 (placeS vs)).occ))=((t.occ.foldl putS l).length:Int):=by
   rw [e,cnt_place _ _ (by rw [ded_ded];exact hp),ded_ded]
  show cntT (cntS (l.length:Int) (dedS ((t.num2 (placeS vs)).occ))) (numL2 (placeS vs) L)=_
  rw [hstep]
  exact cnt_terms L _ h
theorem cntT_append (n:Int) (a b:List Tm):cntT n (a++b)=cntT (cntT n a) b:=by simp [cntT]
end Go.Proofs.YtaojnljppcnhjaaGreatDoor
namespace Go.Proofs.YtaojnljppcnhjaaGreatDoor
open Go
theorem occ_size2:(∀t:Tm,t.occ.length≤t.size)∧(∀l,(occL l).length≤sizeL l):=by
 refine Tm.induct2 (fun k n s A c a ih=>?_) (Nat.le_refl _) (fun t r h1 h2=>?_)
 ·simp only [Tm.occ,Tm.size]
  by_cases h1:k=1
  ·simp [h1]
  ·by_cases h2:k=2
   ·simp [h2];omega
   ·simp [h1,h2]
 ·simp only [occL,sizeL,List.length_append];omega
theorem fold_length (xs:List Int):∀l:List Int,(xs.foldl putS l).length≤l.length+xs.length:=by
 induction xs with
 | nil=>simp
 | cons x xs ih =>
  intro l
  have:=ih (putS l x)
  have h2:(putS l x).length≤l.length+1:=by unfold putS;split<;>simp
  simp only [List.foldl_cons,List.length_cons]
  omega
def AllA (l:List As):Prop:=∀a∈l,rightA a.1 a.2=true
def AllG (l:List Gs):Prop:=∀g∈l,rightG g=true
theorem heads_facts {ex:Rd1 Tm} (before:Nat):∀(n:Nat) (ts:List Tok),ts.length≤n→∀acc ns v r ns2,headsS ex before acc ts ns=.ok v r ns2→AllA acc→AllA v∧before+v.length≤4∧acc.length < v.length
 | n,ts,hn,acc,ns,v,r,ns2,h,ha=>by
  rw [headsS] at h
  split at h
  ·cases h
  ·rename_i h4
   split at h
   ·cases h
   ·rename_i y r1 ns1 he
    split at h
    ·cases h
    ·rename_i hr
     have hall:AllA (acc++[y]):=fun a hm=>by
      rcases List.mem_append.1 hm with h|h
      ·exact ha a h
      ·rw [List.mem_singleton.1 h];simpa using hr
     split at h
     ·split at h
      ·rename_i hl
       match n,hn with
       | 0,hn=>omega
       | n+1,hn =>
        obtain ⟨i1,i2,i3⟩:=heads_facts before n r1.tail (by omega) _ _ _ _ _ h hall
        rw [List.length_append,List.length_singleton] at i3
        exact ⟨i1,i2,by omega⟩
      ·cases h
     ·injection h with h1 _ _;subst h1
      rw [List.length_append,List.length_singleton]
      exact ⟨hall,by omega,by omega⟩
theorem goals_facts {ex:Rd1 Tm} (most:Nat):∀(n:Nat) (ts:List Tok),ts.length≤n→∀acc ns v r ns2,goalsS ex most acc ts ns=.ok v r ns2→AllG acc→AllG v∧v.length≤most∧acc.length < v.length
 | n,ts,hn,acc,ns,v,r,ns2,h,ha=>by
  rw [goalsS] at h
  split at h
  ·cases h
  ·rename_i h4
   split at h
   ·cases h
   ·rename_i y r1 ns1 he
    split at h
    ·cases h
    ·rename_i hr
     have hall:AllG (acc++[y]):=fun a hm=>by
      rcases List.mem_append.1 hm with h|h
      ·exact ha a h
      ·rw [List.mem_singleton.1 h];simpa using hr
     split at h
     ·split at h
      ·rename_i hl
       match n,hn with
       | 0,hn=>omega
       | n+1,hn =>
        obtain ⟨i1,i2,i3⟩:=goals_facts most n r1.tail (by omega) _ _ _ _ _ h hall
        rw [List.length_append,List.length_singleton] at i3
        exact ⟨i1,i2,by omega⟩
      ·cases h
     ·injection h with h1 _ _;subst h1
      rw [List.length_append,List.length_singleton]
      exact ⟨hall,by omega,by omega⟩
theorem AllA.nil:AllA []:=fun _ h=>by cases h
theorem AllG.nil:AllG []:=fun _ h=>by cases h
theorem both_facts {ex:Rd1 Tm} {ts:List Tok} {ns:List (List UInt8)} {v:List As×List As} {r:List Tok} {ns2:List (List UInt8)} (h:bothS ex ts ns=.ok v r ns2):AllA v.1∧AllA v.2∧v.1.length+v.2.length≤4∧1≤v.1.length+v.2.length:=by
 unfold bothS at h
 split at h
 ·cases h
 ·rename_i y r1 ns1 he
  obtain ⟨i1,i2,i3⟩:=heads_facts 0 _ _ (Nat.le_refl _) _ _ _ _ _ he AllA.nil
  simp only [List.length_nil] at i3
  split at h
  ·injection h with h1 _ _;subst h1
   exact ⟨AllA.nil,i1,by simp only [List.length_nil];omega,by simp only [List.length_nil];omega⟩
  ·split at h
   ·injection h with h1 _ _;subst h1
    exact ⟨i1,AllA.nil,by simp only [List.length_nil];omega,by simp only [List.length_nil];omega⟩
   ·split at h
    ·split at h
     ·cases h
     ·rename_i z r2 ns3 he2
      obtain ⟨j1,j2,j3⟩:=heads_facts _ _ _ (Nat.le_refl _) _ _ _ _ _ he2 AllA.nil
      split at h
      ·injection h with h1 _ _;subst h1
       exact ⟨i1,j1,by simp only;omega,by simp only;omega⟩
      ·cases h
    ·cases h
theorem want_val {s:List UInt8} {α:Type} {v w:α} {ts r:List Tok} {ns ns2:List (List UInt8)} (h:wantS s v ts ns=.ok w r ns2):w=v:=by
 unfold wantS at h
 split at h
 ·injection h with h1 _ _;exact h1.symm
 ·cases h
theorem goals2_facts {ex:Rd1 Tm} {ts:List Tok} {ns:List (List UInt8)} {v:List Gs×List Gs} {r:List Tok} {ns2:List (List UInt8)} (h:goals2S ex ts ns=.ok v r ns2):AllG v.1∧AllG v.2∧v.1.length≤12∧v.2.length≤12:=by
 unfold goals2S at h
 split at h
 ·cases h
 ·rename_i y r1 ns1 he
  obtain ⟨i1,i2,i3⟩:=goals_facts 12 _ _ (Nat.le_refl _) _ _ _ _ _ he AllG.nil
  split at h
  ·split at h
   ·cases h
   ·rename_i z r2 ns3 he2
    obtain ⟨j1,j2,j3⟩:=goals_facts 12 _ _ (Nat.le_refl _) _ _ _ _ _ he2 AllG.nil
    have:=want_val h
    subst this
    exact ⟨i1,j1,i2,j2⟩
  ·have:=want_val h
   subst this
   exact ⟨AllG.nil,i1,by simp,i2⟩
theorem body_facts (b:List Gs) (h:AllG b):AllG (bodyS b)∧(bodyS b).length≤b.length:=by
 unfold bodyS
 split
 ·split
  ·exact ⟨AllG.nil,by simp⟩
  ·exact ⟨h,Nat.le_refl _⟩
 ·exact ⟨h,Nat.le_refl _⟩
structure RuleOk (q:Rs):Prop where
 some:1≤q.keep.length+q.remove.length
 heads:q.keep.length+q.remove.length≤4
 guards:q.guard.length≤12
 bodies:q.body.length≤12
 keepR:AllA q.keep
 removeR:AllA q.remove
 guardR:AllG q.guard
 bodyR:AllG q.body
 count:cntT 0 q.terms=(q.vars:Int)
theorem rightA_size {a:As} (h:rightA a.1 a.2=true):sizeL a.2≤200:=by
 simp only [rightA,rightT,Bool.and_eq_true,decide_eq_true_eq] at h
 exact h.2.2.2.1
theorem rightG_size {g:Gs} (h:rightG g=true):sizeL g.2.2≤200:=by
 obtain ⟨op,s,l⟩:=g
 by_cases h0:op=0
 ·subst h0;exact rightA_size (a:=(s,l)) h
 ·rw [rightG_op h0] at h
  simp only [rightT,Bool.and_eq_true,decide_eq_true_eq] at h
  exact h.2.2.2.1
theorem sizeA_le (l:List As) (h:AllA l):sizeL (l.flatMap (·.2))≤l.length*200:=by
 induction l with
 | nil=>simp [sizeL]
 | cons a l ih =>
  have h1:=rightA_size (h a (by simp))
  have h2:=ih (fun x hx=>h x (List.mem_cons_of_mem _ hx))
  simp only [List.flatMap_cons,sizeL_append,List.length_cons]
  omega
theorem sizeG_le (l:List Gs) (h:AllG l):sizeL (l.flatMap (·.2.2))≤l.length*200:=by
 induction l with
 | nil=>simp [sizeL]
 | cons a l ih =>
  have h1:=rightG_size (h a (by simp))
  have h2:=ih (fun x hx=>h x (List.mem_cons_of_mem _ hx))
  simp only [List.flatMap_cons,sizeL_append,List.length_cons]
  omega
theorem num2_flatA (f:Int→Int) (l:List As):(l.map (As.num2 f)).flatMap (·.2)=numL2 f (l.flatMap (·.2)):=by
 induction l with
 | nil=>rfl
 | cons a l ih=>simp only [List.map_cons,List.flatMap_cons,ih,num2_map,List.map_append];simp [As.num2,num2_map]
theorem num2_flatG (f:Int→Int) (l:List Gs):(l.map (Gs.num2 f)).flatMap (·.2.2)=numL2 f (l.flatMap (·.2.2)):=by
 induction l with
 | nil=>rfl
 | cons a l ih=>simp only [List.map_cons,List.flatMap_cons,ih,num2_map,List.map_append];simp [Gs.num2,num2_map]
theorem number_terms (r:Rs):(numberS r).terms=numL2 (placeS (orderS r.terms)) r.terms:=by
 simp only [numberS,Rs.terms,num2_flatA,num2_flatG,num2_map,List.map_append]
theorem mem_occ {l m:List Tm} (h:∀t∈l,t∈m):∀v∈occL l,v∈occL m:=by
 have key:∀(m:List Tm) (v:Int),v∈occL m↔∃t∈m,v∈t.occ:=by
  intro m v
  induction m with
  | nil=>simp [occL]
  | cons t m ih=>simp [occL,ih]
 intro v hv
 obtain ⟨t,ht,hv⟩:=(key l v).1 hv
 exact (key m v).2 ⟨t,h t ht,hv⟩
theorem rule_ok {ex:Rd1 Tm} {ts:List Tok} {q:Rs} {r:List Tok} {ns2:List (List UInt8)} (h:ruleS ex ts=.ok q r ns2):RuleOk q:=by
 unfold ruleS at h
 split at h
 ·cases h
 ·rename_i p r1 ns1 he
  injection h with h1 _ _
  subst h1
  unfold partsS at he
  split at he
  ·cases he
  ·rename_i lb r2 ns3 hl
   split at he
   ·cases he
   ·rename_i z r3 ns4 hb
    split at he
    ·cases he
    ·rename_i w r5 ns6 hg
     injection he with h2 _ _
     subst h2
     obtain ⟨a1,a2,a3,a4⟩:=both_facts hb
     obtain ⟨g1,g2,g3,g4⟩:=goals2_facts hg
     obtain ⟨b1,b2⟩:=body_facts w.2 g2
     generalize hp:(⟨lb,z.1,z.2,w.1,bodyS w.2,0⟩:Rs)=p
     have k1:AllA p.keep:=by rw [←hp];exact a1
     have k2:AllA p.remove:=by rw [←hp];exact a2
     have k3:AllG p.guard:=by rw [←hp];exact g1
     have k4:AllG p.body:=by rw [←hp];exact b1
     have l1:1≤p.keep.length+p.remove.length:=by rw [←hp];exact a4
     have l2:p.keep.length+p.remove.length≤4:=by rw [←hp];exact a3
     have l3:p.guard.length≤12:=by rw [←hp];exact g3
     have l4:p.body.length≤12:=by rw [←hp];exact Nat.le_trans b2 g4
     have hsz:(orderS p.terms).length≤1048576:=by
      have s1:=sizeA_le _ k1
      have s2:=sizeA_le _ k2
      have s3:=sizeG_le _ k3
      have s4:=sizeG_le _ k4
      have s5:=occ_size2.2 p.terms
      have s6:=fold_length (occL p.terms) []
      simp only [Rs.terms,sizeL_append] at s5
      unfold orderS
      simp only [List.length_nil] at s6
      simp only [Rs.terms] at s6 ⊢
      omega
     have hin:∀v∈occL p.terms,0≤placeS (orderS p.terms) v∧placeS (orderS p.terms) v≤1048576:=fun v hv=>by
      have hm:v∈orderS p.terms:=by
       unfold orderS
       exact (fold_mem _ _ _).2 (.inr hv)
      rw [place_in hm]
      have:=List.idxOf_lt_length_iff.2 hm
      omega
     have tA:∀(l:List As),(∀t∈l.flatMap (·.2),t∈p.terms)→AllA l→AllA (l.map (As.num2 (placeS (orderS p.terms)))):=fun l hl ha x hx=>by
      obtain ⟨a,hal,rfl⟩:=List.mem_map.1 hx
      exact num2_rightA (ha a hal) fun v hv=>hin v (mem_occ (fun t ht=>hl t (List.mem_flatMap.2 ⟨a,hal,ht⟩)) v hv)
     have tG:∀(l:List Gs),(∀t∈l.flatMap (·.2.2),t∈p.terms)→AllG l→AllG (l.map (Gs.num2 (placeS (orderS p.terms)))):=fun l hl ha x hx=>by
      obtain ⟨a,hal,rfl⟩:=List.mem_map.1 hx
      exact num2_rightG (ha a hal) fun v hv=>hin v (mem_occ (fun t ht=>hl t (List.mem_flatMap.2 ⟨a,hal,ht⟩)) v hv)
     refine ⟨by simpa [numberS] using l1,by simpa [numberS] using l2,by simpa [numberS] using l3,by simpa [numberS] using l4,?_,?_,?_,?_,?_⟩
     ·exact tA _ (fun t ht=>by simp only [Rs.terms];exact List.mem_append_left _ ht) k1
     ·exact tA _ (fun t ht=>by simp only [Rs.terms];exact List.mem_append_right _ (List.mem_append_left _ ht)) k2
     ·exact tG _ (fun t ht=>by simp only [Rs.terms];exact List.mem_append_right _ (List.mem_append_right _ (List.mem_append_left _ ht))) k3
     ·exact tG _ (fun t ht=>by simp only [Rs.terms];exact List.mem_append_right _ (List.mem_append_right _ (List.mem_append_right _ ht))) k4
     ·rw [number_terms]
      exact cnt_terms p.terms [] (List.prefix_refl _)
theorem rules_ok {ex:Rd1 Tm}:∀(n:Nat) (ts:List Tok),ts.length≤n→∀acc l r ns,rulesS ex acc ts=.ok l r ns→(∀q∈acc,RuleOk q)→acc.length≤40→(∀q∈l,RuleOk q)∧l.length≤40
 | n,ts,hn,acc,l,r,ns,h,ha,hl=>by
  cases ts with
  | nil=>rw [rulesS] at h;cases h
  | cons c d =>
   obtain ⟨k,t,g⟩:=c
   rw [rulesS] at h
   split at h
   ·injection h with h1 _ _;subst h1;exact ⟨ha,hl⟩
   ·split at h
    ·cases h
    ·rename_i h40
     split at h
     ·rename_i x r2 ns2 he
      split at h
      ·rename_i hlt
       match n,hn with
       | 0,hn=>simp at hn
       | n+1,hn =>
        refine rules_ok n r2 (by omega) _ _ _ _ h (fun q hq=>?_) (by rw [List.length_append,List.length_singleton];omega)
        rcases List.mem_append.1 hq with h|h
        ·exact ha q h
        ·rw [List.mem_singleton.1 h];exact rule_ok he
      ·cases h
     ·cases h
theorem decls_len:∀(n:Nat) (ts:List Tok),ts.length≤n→∀acc v r ns2,declsS acc ts=.ok v r ns2→v.length≤30
 | n,ts,hn,acc,v,r,ns2,h=>by
  rw [declsS] at h
  split at h
  ·cases h
  ·rename_i h30
   split at h
   ·cases h
   ·split at h
    ·cases h
    ·split at h
     ·cases h
     ·split at h
      ·cases h
      ·split at h
       ·cases h
       ·split at h
        ·split at h
         ·rename_i hl
          match n,hn with
          | 0,hn=>omega
          | n+1,hn=>exact decls_len n _ (by omega) _ _ _ _ h
         ·cases h
        ·have:=want_val h
         subst this
         rw [List.length_append,List.length_singleton];omega
theorem allDecls_len:∀(n:Nat) (ts:List Tok),ts.length≤n→∀acc v r ns2,allDecls acc ts=.ok v r ns2→acc.length≤30→v.length≤30
 | n,ts,hn,acc,v,r,ns2,h,ha=>by
  rw [allDecls] at h
  split at h
  ·split at h
   ·rename_i l r1 ns1 he
    split at h
    ·rename_i hl
     match n,hn with
     | 0,hn=>omega
     | n+1,hn=>exact allDecls_len n r1 (by omega) _ _ _ _ h (decls_len _ _ (Nat.le_refl _) _ _ _ _ he)
    ·cases h
   ·cases h
  ·injection h with h1 _ _;subst h1;exact ha
theorem program_ok {ex:Rd1 Tm} {ts:List Tok} {d:List (List UInt8×Int)} {l:List Rs} {r:List Tok} {ns:List (List UInt8)} (h:programS ex ts=.ok (d,l) r ns):d.length≤30∧l.length≤40∧∀q∈l,RuleOk q:=by
 unfold programS at h
 split at h
 ·cases h
 ·rename_i y r1 ns1 he
  split at h
  ·rename_i l2 r2 ns3 he2
   injection h with h1 _ _
   injection h1 with h2 h3
   subst h2 h3
   obtain ⟨i1,i2⟩:=rules_ok _ _ (Nat.le_refl _) _ _ _ _ he2 (fun _ h=>by cases h) (by simp)
   exact ⟨allDecls_len _ _ (Nat.le_refl _) _ _ _ _ he (by simp),i2,i1⟩
  ·cases h
end Go.Proofs.YtaojnljppcnhjaaGreatDoor
namespace Go.Proofs.YtaojnljppcnhjaaGreatDoor
open Go
def Named (ns:List (List UInt8)) (l:List Tm):Prop:=∀v∈occL l,0≤v∧v < (ns.length:Int)
theorem Named.more {ns n2:List (List UInt8)} {l:List Tm} (h:Named ns l) (hp:ns <+: n2):Named n2 l:=fun v hv=>by
 have h1:=h v hv
 have h2:=hp.length_le
 omega
theorem Named.nil (ns:List (List UInt8)):Named ns []:=fun _ h=>by cases h
theorem named_append {ns:List (List UInt8)} {l m:List Tm} (h1:Named ns l) (h2:Named ns m):Named ns (l++m):=fun v hv=>by
 rw [occL_append] at hv
 rcases List.mem_append.1 hv with h|h
 ·exact h1 v h
 ·exact h2 v h
theorem name_facts (t:List UInt8) (ns:List (List UInt8)):ns <+: (nameS t ns).2∧(nameS t ns).1 < (nameS t ns).2.length:=by
 unfold nameS
 split
 ·rename_i h
  exact ⟨List.prefix_refl _,List.idxOf_lt_length_iff.2 h.2⟩
 ·exact ⟨List.prefix_append _ _,by simp⟩
theorem occ_var (n:Nat):occL [varS n]=[(n:Int)]:=rfl
theorem occ_fun (s:List UInt8) (l:List Tm):occL [funS s l]=occL l:=by simp [funS,occL,Tm.occ]
def Nms {α:Type} (tm:α→List Tm) (f:Rd1 α):Prop:=∀ts ns v r ns2,f ts ns=.ok v r ns2→ns <+: ns2∧Named ns2 (tm v)
abbrev one (t:Tm):List Tm:=[t]
theorem want_nms {α:Type} {s:List UInt8} {v w:α} {ts r:List Tok} {ns ns2:List (List UInt8)} (h:wantS s v ts ns=.ok w r ns2):w=v∧ns2=ns:=by
 unfold wantS at h
 split at h
 ·injection h with h1 _ h3;exact ⟨h1.symm,h3.symm⟩
 ·cases h
theorem nm_nms {ts r:List Tok} {ns ns2:List (List UInt8)} {t:List UInt8} (h:nmS ts ns=.ok t r ns2):ns2=ns:=by
 unfold nmS at h
 split at h
 ·cases h
 ·split at h
  ·cases h
  ·split at h
   ·cases h
   ·injection h with _ _ h3;exact h3.symm
section
variable {ex:Rd1 Tm} (hex:Nms one ex)
include hex
theorem args_nms:∀(n:Nat) (ts:List Tok),ts.length≤n→∀acc ns v r ns2,argsS ex acc ts ns=.ok v r ns2→Named ns acc→ns <+: ns2∧Named ns2 v
 | n,ts,hn,acc,ns,v,r,ns2,h,ha=>by
  rw [argsS] at h
  split at h
  ·cases h
  ·rename_i y r1 ns1 he
   obtain ⟨h1,h2⟩:=hex _ _ _ _ _ he
   have h3:=named_append (ha.more h1) h2
   split at h
   ·split at h
    ·rename_i hl
     match n,hn with
     | 0,hn=>omega
     | n+1,hn =>
      obtain ⟨i1,i2⟩:=args_nms n r1 (by omega) _ _ _ _ _ h h3
      exact ⟨h1.trans i1,i2⟩
    ·cases h
   ·obtain ⟨rfl,rfl⟩:=want_nms h
    exact ⟨h1,h3⟩
theorem atom_nms:Nms Prod.snd (atomS ex):=by
 intro ts ns v r ns2 h
 unfold atomS at h
 split at h
 ·cases h
 ·rename_i t r1 ns1 he
  have h1:=nm_nms he
  subst h1
  split at h
  ·split at h
   ·rename_i l r2 ns3 ha
    injection h with h2 _ h3;subst h2 h3
    exact args_nms hex _ _ (Nat.le_refl _) _ _ _ _ _ ha (Named.nil _)
   ·cases h
  ·injection h with h2 _ h3;subst h2 h3
   exact ⟨List.prefix_refl _,Named.nil _⟩
theorem opnd_nms:Nms one (opndS ex):=by
 intro ts ns v r ns2 h
 unfold opndS at h
 split at h
 ·cases h
 ·rename_i k t g d
  split at h
  ·injection h with h2 _ h3;subst h2 h3
   exact ⟨List.prefix_refl _,fun v hv=>by cases hv⟩
  ·split at h
   ·injection h with h2 _ h3;subst h2 h3
    obtain ⟨i1,i2⟩:=name_facts t ns
    refine ⟨i1,fun v hv=>?_⟩
    rw [occ_var] at hv
    rw [List.mem_singleton.1 hv]
    omega
   ·split at h
    ·split at h
     ·rename_i x r2 ns3 ha
      injection h with h2 _ h3;subst h2 h3
      obtain ⟨i1,i2⟩:=atom_nms hex _ _ _ _ _ ha
      exact ⟨i1,fun v hv=>i2 v (by rw [occ_fun] at hv;exact hv)⟩
     ·cases h
    ·split at h
     ·split at h
      ·cases h
      ·split at h
       ·injection h with h2 _ h3;subst h2 h3
        exact ⟨List.prefix_refl _,fun v hv=>by cases hv⟩
       ·cases h
     ·split at h
      ·split at h
       ·rename_i x r2 ns3 he
        obtain ⟨rfl,rfl⟩:=want_nms h
        exact hex _ _ _ _ _ he
       ·cases h
      ·cases h
omit hex in
theorem chain_nms {ops:List (List UInt8)} {o:Rd1 Tm} (ho:Nms one o):∀(n:Nat) (ts:List Tok),ts.length≤n→∀y ns v r ns2,chainS ops o y ts ns=.ok v r ns2→Named ns [y]→ns <+: ns2∧Named ns2 [v]
 | n,ts,hn,y,ns,v,r,ns2,h,hy=>by
  cases ts with
  | nil =>
   rw [chainS] at h
   injection h with h1 _ h3;subst h1 h3;exact ⟨List.prefix_refl _,hy⟩
  | cons c d =>
   obtain ⟨k,t,g⟩:=c
   rw [chainS] at h
   split at h
   ·split at h
    ·rename_i z r2 ns3 he
     obtain ⟨i1,i2⟩:=ho _ _ _ _ _ he
     split at h
     ·rename_i hl
      match n,hn with
      | 0,hn=>simp at hn
      | n+1,hn =>
       obtain ⟨j1,j2⟩:=chain_nms ho n r2 (by omega) _ _ _ _ _ h (fun v hv=>by
        rw [occ_fun] at hv
        exact named_append (hy.more i1) i2 v hv)
       exact ⟨i1.trans j1,j2⟩
     ·cases h
    ·cases h
   ·injection h with h1 _ h3;subst h1 h3;exact ⟨List.prefix_refl _,hy⟩
omit hex in
theorem level_nms {ops:List (List UInt8)} {o:Rd1 Tm} (ho:Nms one o):Nms one (levelS ops o):=by
 intro ts ns v r ns2 h
 unfold levelS at h
 split at h
 ·rename_i x r1 ns1 he
  obtain ⟨i1,i2⟩:=ho _ _ _ _ _ he
  obtain ⟨j1,j2⟩:=chain_nms ho _ _ (Nat.le_refl _) _ _ _ _ _ h i2
  exact ⟨i1.trans j1,j2⟩
 ·cases h
end
theorem expr_nms:∀n,Nms one (exprS n)
 | 0=>fun _ _ _ _ _ h=>by cases h
 | n+1=>level_nms (level_nms (opnd_nms (expr_nms n)))
def Nrm (f:Rd1 Tm):Prop:=∀ts ns v r ns2,f ts ns=.ok v r ns2→v.kind=2∨v.args=[]
theorem opnd_nrm {ex:Rd1 Tm} (hex:Nrm ex):Nrm (opndS ex):=by
 intro ts ns v r ns2 h
 unfold opndS at h
 split at h
 ·cases h
 ·split at h
  ·injection h with h2 _ h3;subst h2;exact .inr rfl
  ·split at h
   ·injection h with h2 _ h3;subst h2;exact .inr rfl
   ·split at h
    ·split at h
     ·injection h with h2 _ h3;subst h2;exact .inl rfl
     ·cases h
    ·split at h
     ·split at h
      ·cases h
      ·split at h
       ·injection h with h2 _ h3;subst h2;exact .inr rfl
       ·cases h
     ·split at h
      ·split at h
       ·rename_i x r2 ns3 he
        obtain ⟨rfl,rfl⟩:=want_nms h
        exact hex _ _ _ _ _ he
       ·cases h
      ·cases h
theorem chain_nrm {ops:List (List UInt8)} {o:Rd1 Tm}:∀(n:Nat) (ts:List Tok),ts.length≤n→∀y ns v r ns2,chainS ops o y ts ns=.ok v r ns2→(y.kind=2∨y.args=[])→v.kind=2∨v.args=[]
 | n,ts,hn,y,ns,v,r,ns2,h,hy=>by
  cases ts with
  | nil =>
   rw [chainS] at h
   injection h with h1 _ _;subst h1;exact hy
  | cons c d =>
   obtain ⟨k,t,g⟩:=c
   rw [chainS] at h
   split at h
   ·split at h
    ·split at h
     ·rename_i hl
      match n,hn with
      | 0,hn=>simp at hn
      | n+1,hn=>exact chain_nrm n _ (by omega) _ _ _ _ _ h (.inl rfl)
     ·cases h
    ·cases h
   ·injection h with h1 _ _;subst h1;exact hy
theorem level_nrm {ops:List (List UInt8)} {o:Rd1 Tm} (ho:Nrm o):Nrm (levelS ops o):=by
 intro ts ns v r ns2 h
 unfold levelS at h
 split at h
 ·rename_i x r1 ns1 he
  exact chain_nrm _ _ (Nat.le_refl _) _ _ _ _ _ h (ho _ _ _ _ _ he)
 ·cases h
theorem expr_nrm:∀n,Nrm (exprS n)
 | 0=>fun _ _ _ _ _ h=>by cases h
 | n+1=>level_nrm (level_nrm (opnd_nrm (expr_nrm n)))
theorem goal_nms {ex:Rd1 Tm} (hex:Nms one ex) (hnm:Nrm ex):Nms (fun g:Gs=>g.2.2) (goalS ex):=by
 intro ts ns v r ns2 h
 unfold goalS at h
 split at h
 ·cases h
 ·rename_i k t g d
  split at h
  ·split at h
   ·injection h with h1 _ h3;subst h1 h3;exact ⟨List.prefix_refl _,Named.nil _⟩
   ·split at h
    ·injection h with h1 _ h3;subst h1 h3;exact ⟨List.prefix_refl _,Named.nil _⟩
    ·split at h
     ·split at h
      ·split at h
       ·rename_i x r2 ns3 he
        obtain ⟨rfl,rfl⟩:=want_nms h
        exact hex _ _ _ _ _ he
       ·cases h
      ·cases h
     ·cases h
  ·split at h
   ·cases h
   ·rename_i x r2 ns3 he
    obtain ⟨i1,i2⟩:=hex _ _ _ _ _ he
    split at h
    ·split at h
     ·injection h with h1 _ h3;subst h1 h3
      refine ⟨i1,fun v hv=>i2 v ?_⟩
      have hx:=hnm _ _ _ _ _ he
      obtain ⟨k1,n1,s1,A1,c1,a1⟩:=x
      simp only [Tm.args] at hv
      simp only [Tm.kind,Tm.args] at hx
      simp only [occL,Tm.occ,List.append_nil]
      rcases hx with hx|hx
      ·simp [hx,hv]
      ·rw [hx] at hv;cases hv
     ·cases h
    ·split at h
     ·rename_i y r3 ns4 he2
      injection h with h1 _ h3;subst h1 h3
      obtain ⟨j1,j2⟩:=hex _ _ _ _ _ he2
      refine ⟨i1.trans j1,?_⟩
      simp only
      split
      ·exact named_append j2 (i2.more j1)
      ·exact named_append (i2.more j1) j2
     ·cases h
theorem goals_nms {ex:Rd1 Tm} (hex:Nms one ex) (hnm:Nrm ex) (most:Nat):∀(n:Nat) (ts:List Tok),ts.length≤n→∀acc ns v r ns2,goalsS ex most acc ts ns=.ok v r ns2→Named ns (acc.flatMap (·.2.2))→ns <+: ns2∧Named ns2 (v.flatMap (·.2.2))
 | n,ts,hn,acc,ns,v,r,ns2,h,ha=>by
  rw [goalsS] at h
  split at h
  ·cases h
  ·split at h
   ·cases h
   ·rename_i y r1 ns1 he
    obtain ⟨i1,i2⟩:=goal_nms hex hnm _ _ _ _ _ he
    have h3:Named ns1 ((acc++[y]).flatMap (·.2.2)):=by
     rw [List.flatMap_append]
     exact named_append (ha.more i1) (by simpa using i2)
    split at h
    ·cases h
    ·split at h
     ·split at h
      ·rename_i hl
       match n,hn with
       | 0,hn=>omega
       | n+1,hn =>
        obtain ⟨j1,j2⟩:=goals_nms hex hnm most n r1.tail (by omega) _ _ _ _ _ h h3
        exact ⟨i1.trans j1,j2⟩
      ·cases h
     ·injection h with h1 _ h4;subst h1 h4
      exact ⟨i1,h3⟩
theorem query_named {F:Nat} {ts:List Tok} {v:List Gs} {r:List Tok} {ns:List (List UInt8)} (h:goalsS (exprS F) 40 [] ts []=.ok v r ns):∀x∈orderS (v.flatMap (·.2.2)),0≤x∧x.toNat < ns.length:=fun x hx=>by
 obtain ⟨_,h2⟩:=goals_nms (expr_nms F) (expr_nrm F) 40 _ ts (Nat.le_refl _) _ _ _ _ _ h (Named.nil _)
 have:=h2 x (by
  unfold orderS at hx
  rcases (fold_mem _ _ _).1 hx with h|h
  ·cases h
  ·exact h)
 omega
theorem num2_num2 {f g:Int→Int}:(∀t:Tm,(t.num2 g).num2 f=t.num2 fun v=>f (g v))∧(∀l,numL2 f (numL2 g l)=numL2 (fun v=>f (g v)) l):=by
 refine Tm.induct2 (fun k n s A c a ih=>?_) rfl (fun t r h1 h2=>?_)
 ·simp only [Tm.num2,ih]
  by_cases h:k=1<;>simp [h]
 ·simp only [numL2,h1,h2]
end Go.Proofs.YtaojnljppcnhjaaGreatDoor
