/-
  SoProg.
  SrPlain.
  VsAm.
 VsGl.
 VrRule1.
 VrRule.
 SrRl.
 SrSame.
-/
import Derived.Test.YtnghanpmmbcbbaaGreatDoorMq10
import Derived.Test.YtnghanpmmbcbbaaGreatDoorMq9
import Derived.Test.YtnghanpmmbcbbaaGreatDoorMq3
import Derived.Test.YtnghanpmmbcbbaaGreatDoorMq8
import Derived.Test.YtnghanpmmbcbbaaGreatDoorMq7
import Derived.Deep.RegionHeld3
import Derived.BigQuiet
import Derived.Deep.QuietTactic
import Derived.Test.YtnghanpmmbcbbaaGreatDoorMq5
namespace Go.Proofs.YtnghanpmmbcbbaaGreatDoor
open Go
abbrev Ds:=List UInt8×Int
def DeclOk (d:Ds):Prop:=rightB d.1=true∧0≤d.2∧d.2≤6
def dsepK:List Ds→List Tok
 | []=>[]
 | [d]=>[(1,d.1,false),tkS [47],(3,Lib.decDigits d.2.toNat,false)]
 | d :: e :: r=>(1,d.1,false) :: tkS [47] :: (3,Lib.decDigits d.2.toNat,false) :: tkS [44] :: dsepK (e :: r)
theorem decls_kead:∀(l:List Ds),l≠[]→(∀d∈l,DeclOk d)→∀(acc:List Ds) (c:Tok) (k:List Tok),acc.length+l.length≤30→declsS acc (c :: (dsepK l++tkS [46] :: k))=.ok (acc++l) k []
 | [],h,_,_,_,_,_=>absurd rfl h
 | [d],_,hd,acc,c,k,hl=>by
  obtain ⟨h1,h2,h3⟩:=hd d (by simp)
  simp only [dsepK,List.cons_append,List.nil_append]
  rw [declsS,if_neg (by simp only [List.length_cons,List.length_nil] at hl;omega)]
  simp only [List.tail_cons,nmS]
  rw [if_neg (by simp),right_res h1,if_neg (by decide)]
  simp only
  rw [show wantS [47] d.1 (tkS [47] :: (3,Lib.decDigits d.2.toNat,false) :: tkS [46] :: k) []=.ok d.1 ((3,Lib.decDigits d.2.toNat,false) :: tkS [46] :: k) [] from rfl]
  simp only
  rw [if_neg (by simp),val_dec (by omega),if_neg (by omega),show isS [44] (tkS [46] :: k)=false from rfl,if_neg (by decide),show ((d.2.toNat:Nat):Int)=d.2 by omega]
  rfl
 | d :: e :: r,_,hd,acc,c,k,hl=>by
  obtain ⟨h1,h2,h3⟩:=hd d (by simp)
  have hi:=decls_kead (e :: r) (by simp) (fun x hx=>hd x (List.mem_cons_of_mem _ hx)) (acc++[d]) (tkS [44]) k (by simp only [List.length_append,List.length_cons,List.length_nil] at hl ⊢;omega)
  simp only [dsepK,List.cons_append]
  rw [declsS,if_neg (by simp only [List.length_cons] at hl;omega)]
  simp only [List.tail_cons,nmS]
  rw [if_neg (by simp),right_res h1,if_neg (by decide)]
  simp only
  rw [show wantS [47] d.1 (tkS [47] :: (3,Lib.decDigits d.2.toNat,false) :: tkS [44] :: (dsepK (e :: r)++tkS [46] :: k)) []=.ok d.1 ((3,Lib.decDigits d.2.toNat,false) :: tkS [44] :: (dsepK (e :: r)++tkS [46] :: k)) [] from rfl]
  simp only
  rw [if_neg (by simp),val_dec (by omega),if_neg (by omega),show isS [44] (tkS [44] :: (dsepK (e :: r)++tkS [46] :: k))=true from rfl,if_pos rfl,dif_pos (by simp only [List.length_cons];omega),show ((d.2.toNat:Nat):Int)=d.2 by omega]
  show declsS (acc++[d]) (tkS [44] :: (dsepK (e :: r)++tkS [46] :: k))=_
  rw [hi]
  simp
def declK (l:List Ds):List Tok:=if l=[] then [] else (1,constraintW,false) :: (dsepK l++[tkS [46]])
theorem allDecls_kead (l:List Ds) (hd:∀d∈l,DeclOk d) (h30:l.length≤30) (k:List Tok) (hk:isW constraintW k=false):allDecls [] (declK l++k)=.ok l k []:=by
 unfold declK
 by_cases h0:l=[]
 ·subst h0
  rw [if_pos rfl,List.nil_append,allDecls,hk,if_neg (by decide)]
 ·rw [if_neg h0]
  have:=decls_kead l h0 hd [] (1,constraintW,false) k (by simpa using h30)
  have e:(1,constraintW,false) :: (dsepK l++[tkS [46]])++k=(1,constraintW,false) :: (dsepK l++tkS [46] :: k):=by simp
  rw [e,allDecls,show isW constraintW ((1,constraintW,false) :: (dsepK l++tkS [46] :: k))=true from rfl,if_pos rfl,this]
  simp only
  rw [dif_pos (by simp only [List.length_cons,List.length_append];omega),List.nil_append,allDecls,hk,if_neg (by decide)]
def rulesK (l:List Rs):List Tok:=l.flatMap Rs.tok
theorem rule_first {r:Rs} (h:SrcOk r) (k:List Tok):∃t d,r.tok++k=(1,t,false) :: d∧t≠constraintW:=by
 have h1:=rule_kead r h _ k (Nat.le_refl _)
 obtain ⟨t,g,d,e,hr⟩:=rule_head h1
 have hg:g=false:=by
  unfold Rs.tok labelK at e
  by_cases h0:r.name=[]
  ·rw [if_pos h0,List.nil_append,List.append_assoc] at e
   obtain ⟨t2,d2,e2,_⟩:=heads_first h.some (bodyK r.guard r.body++k)
   rw [e2] at e
   injection e with e3 _
   injection e3 with _ e4
   injection e4 with _ e5
   exact e5.symm
  ·rw [if_neg h0] at e
   injection e with e3 _
   injection e3 with _ e4
   injection e4 with _ e5
   exact e5.symm
 subst hg
 exact ⟨t,d,e,by rintro rfl;exact absurd hr (by decide)⟩
theorem rules_kead (F:Nat):∀(l:List Rs),(∀r∈l,SrcOk r)→∀(acc:List Rs),acc.length+l.length≤40→(rulesK l++EndT).length≤F→rulesS (exprS (F+1)) acc (rulesK l++EndT)=.ok (acc++l.map numberS) EndT []
 | [],_,acc,_,_=>by
  show rulesS _ acc EndT=_
  rw [rulesS,if_pos rfl];simp
 | r :: l,h,acc,hl,hF=>by
  have hr:=h r (by simp)
  have e:rulesK (r :: l)++EndT=r.tok++(rulesK l++EndT):=by simp [rulesK]
  rw [e] at hF ⊢
  obtain ⟨t,d,e2,_⟩:=rule_first hr (rulesK l++EndT)
  have h1:=rule_kead r hr F (rulesK l++EndT) hF
  have hlen:(rulesK l++EndT).length < (r.tok++(rulesK l++EndT)).length:=by
   obtain ⟨t2,d2,e3,_⟩:=rule_first hr []
   rw [List.append_nil] at e3
   rw [e3]
   simp only [List.cons_append,List.length_cons,List.length_append]
   omega
  have hi:=rules_kead F l (fun x hx=>h x (List.mem_cons_of_mem _ hx)) (acc++[numberS r]) (by simp only [List.length_append,List.length_cons,List.length_nil] at hl ⊢;omega) (by omega)
  rw [e2] at h1 hlen ⊢
  rw [rulesS,if_neg (by simp),if_neg (by simp only [List.length_cons] at hl;omega),h1]
  simp only
  rw [dif_pos hlen,hi]
  simp
def programK (d:List Ds) (l:List Rs):List Tok:=declK d++rulesK l
theorem program_kead (F:Nat) (d:List Ds) (l:List Rs) (hd:∀x∈d,DeclOk x) (h30:d.length≤30) (hl:∀r∈l,SrcOk r) (h40:l.length≤40) (hF:(programK d l++EndT).length≤F) :
  programS (exprS (F+1)) (programK d l++EndT)=.ok (d,l.map numberS) EndT []:=by
 unfold programK at hF ⊢
 rw [List.append_assoc] at hF ⊢
 have hw:isW constraintW (rulesK l++EndT)=false:=by
  cases l with
  | nil=>rfl
  | cons r l =>
   obtain ⟨t,d2,e,ht⟩:=rule_first (hl r (by simp)) (rulesK l++EndT)
   have e2:rulesK (r :: l)++EndT=r.tok++(rulesK l++EndT):=by simp [rulesK]
   rw [e2,e]
   simpa [isW] using ht
 have h1:=allDecls_kead d hd h30 (rulesK l++EndT) hw
 have h2:=rules_kead F l hl [] (by simpa using h40) (by simp only [List.length_append] at hF ⊢;omega)
 unfold programS
 rw [h1]
 simp only
 rw [h2]
 simp
theorem only_kead (F:Nat) (r:Rs) (h:SrcOk r) (hF:(r.tok++EndT).length≤F):onlyS (ruleS (exprS (F+1)) (r.tok++EndT))=.ok (numberS r) EndT (labs (orderS r.terms)):=by
 rw [rule_kead r h F EndT hF]
 rfl
theorem place_places {W:List Int} (hn:W.Nodup):W.map (placeS W)=(List.range W.length).map fun (i:Nat)=>(i:Int):=by
 refine List.ext_getElem (by simp) fun i h1 h2=>?_
 simp only [List.getElem_map,List.getElem_range]
 have hi:i < W.length:=by simpa using h1
 rw [place_in (List.getElem_mem hi),hn.idxOf_getElem i hi]
theorem query_kead (F:Nat) (l:List Gs) (h0:l≠[]) (hg:AllG l) (h40:l.length≤40) (hF:(gsepK l++EndT).length≤F) :
  queryS (exprS (F+1)) (gsepK l++EndT)=.ok (l.map (Gs.num2 (placeS (orderS (l.flatMap (·.2.2))))),labs (orderS (l.flatMap (·.2.2)))) EndT (labs (orderS (l.flatMap (·.2.2)))):=by
 have hsz:(orderS (l.flatMap (·.2.2))).length≤1048576:=by
  have s3:=sizeG_le _ hg
  have s5:=occ_size2.2 (l.flatMap (·.2.2))
  have s6:=fold_length (occL (l.flatMap (·.2.2))) []
  unfold orderS
  simp only [List.length_nil] at s6
  omega
 generalize hW:orderS (l.flatMap (·.2.2))=W at hsz
 have hall:(occL (l.flatMap (·.2.2))).foldl putS []=W:=hW
 have h1:=goals_kead hsz 40 l h0 hg F [] [] EndT hF (by simpa using h40) rfl ⟨rfl,rfl,rfl⟩ (fun _ h=>by cases h) (by rw [hall];exact List.prefix_refl _)
 rw [hall] at h1
 have hlab:labs ([]:List Int)=[]:=rfl
 rw [hlab,List.nil_append] at h1
 have hflat:(l.map (Gs.num2 (placeS W))).flatMap (·.2.2)=numL2 (placeS W) (l.flatMap (·.2.2)):=num2_flatG _ _
 have hmemW:∀v∈occL (l.flatMap (·.2.2)),v∈W:=fun v hv=>by rw [←hall];exact (fold_mem _ _ _).2 (.inr hv)
 have hinj:∀x∈occL (l.flatMap (·.2.2)),∀y∈occL (l.flatMap (·.2.2)),placeS W x=placeS W y→x=y:=fun x hx y hy e=>place_inj (hmemW x hx) (hmemW y hy) e
 have hord:orderS (numL2 (placeS W) (l.flatMap (·.2.2)))=W.map (placeS W):=by rw [order_map hinj,hW]
 have hnd:W.Nodup:=by rw [←hall];exact fold_nodup _ _ (by simp)
 unfold queryS
 rw [h1,show onlyS (PS.ok (l.map (Gs.num2 (placeS W))) EndT (labs W))=.ok (l.map (Gs.num2 (placeS W))) EndT (labs W) from rfl]
 simp only
 have hg1:(l.map (Gs.num2 (placeS W))).map (Gs.num2 (placeS (orderS ((l.map (Gs.num2 (placeS W))).flatMap (·.2.2)))))=l.map (Gs.num2 (placeS W)):=by
  rw [List.map_map]
  refine List.map_congr_left fun a hal=>?_
  show (a.1,a.2.1,numL2 _ (numL2 (placeS W) a.2.2))=(a.1,a.2.1,numL2 (placeS W) a.2.2)
  rw [hflat,numbers_same hinj (mem_occ (fun t ht=>List.mem_flatMap.2 ⟨a,hal,ht⟩)) (rightG_form (hg a hal)),hW]
 have hn1:(orderS ((l.map (Gs.num2 (placeS W))).flatMap (·.2.2))).map (fun v=>(labs W).getD v.toNat [])=labs W:=by
  rw [hflat,hord,place_places hnd,List.map_map]
  refine List.ext_getElem (by simp [labs]) fun i h1 h2=>?_
  have hi:i < (labs W).length:=by simpa using h2
  simp [List.getD_eq_getElem?_getD,List.getElem?_eq_getElem hi]
 rw [hg1,hn1]
end Go.Proofs.YtnghanpmmbcbbaaGreatDoor
namespace Go.Proofs.YtnghanpmmbcbbaaGreatDoor
open Go.RowKit
theorem rr_occ:(∀(t:Tm) (g:Int→Int),(t.rr g).occ=t.occ.map g)∧(∀(l:List Tm) (g:Int→Int),occL (rrL l g)=(occL l).map g):=by
 refine Tm.induct2 (fun k n s A c a ih g=>?_) (fun g=>by simp [rrL,occL]) (fun t r h1 h2 g=>by simp only [rrL,occL,h1,h2,List.map_append])
 by_cases k1:k=1
 ·subst k1;simp [Tm.rr,Tm.occ]
 ·by_cases k2:k=2
  ·subst k2;simp [Tm.rr,Tm.occ,ih]
  ·simp [Tm.rr,Tm.occ,k1,k2]
theorem rr_like:(∀(t:Tm) (g h:Int→Int),(∀v∈t.occ,g v=h v)→t.rr g=t.rr h)∧(∀(l:List Tm) (g h:Int→Int),(∀v∈occL l,g v=h v)→rrL l g=rrL l h):=by
 refine Tm.induct2 (fun k n s A c a ih g h hv=>?_) (fun g h _=>by simp [rrL]) (fun t r h1 h2 g h hv=>?_)
 ·by_cases k1:k=1
  ·subst k1
   have:=hv n (by simp [Tm.occ])
   simp [Tm.rr,this]
  ·by_cases k2:k=2
   ·subst k2
    have:=ih g h (fun v h=>hv v (by simp [Tm.occ,h]))
    simp [Tm.rr,this]
   ·simp [Tm.rr,k1,k2]
 ·simp only [rrL]
  rw [h1 g h (fun v hv1=>hv v (by simp [occL,hv1])),h2 g h (fun v hv1=>hv v (by simp [occL,hv1]))]
theorem varsL_order (l:List Tm):varsL l=orderS l:=rfl
theorem vars_map {g:Int→Int} {l:List Tm} (hg:∀x∈occL l,∀y∈occL l,g x=g y→x=y):varsL (rrL l g)=(varsL l).map g:=by
 rw [varsL_order,varsL_order]
 unfold orderS
 rw [rr_occ.2]
 exact ded_map (occL l) [] (fun x hx y hy=>hg x (by simpa using hx) y (by simpa using hy))
theorem place_apart (l:List Tm):∀x∈occL l,∀y∈occL l,placeS (varsL l) x=placeS (varsL l) y→x=y:=fun x hx y hy h=>place_inj ((mem_varsL l x).2 hx) ((mem_varsL l y).2 hy) h
theorem vars_num (l:List Tm):varsL (rrL l (placeS (varsL l)))=(List.range (varsL l).length).map fun (i:Nat)=>(i:Int):=by
 rw [vars_map (place_apart l),place_places (varsL_nodup l)]
theorem rrL_flat {α:Type} (f:α→List Tm) (r:α→α) (g:Int→Int) (h:∀x,f (r x)=rrL (f x) g):∀l:List α,(l.map r).flatMap f=rrL (l.flatMap f) g
 | []=>by simp [rrL]
 | x :: l=>by
  have e:∀a b:List Tm,rrL (a++b) g=rrL a g++rrL b g:=fun a b=>by rw [rrL_map,rrL_map,rrL_map,List.map_append]
  rw [List.map_cons,List.flatMap_cons,List.flatMap_cons,e,h,rrL_flat f r g h l]
theorem rrL_app (g:Int→Int) (a b:List Tm):rrL (a++b) g=rrL a g++rrL b g:=by rw [rrL_map,rrL_map,rrL_map,List.map_append]
def Rl.to (r:Rl) (g:Int→Int) (n:Int):Rl:={ r with keep:=r.keep.map fun x=>x.rr g,remove:=r.remove.map fun x=>x.rr g,guard:=r.guard.map fun x=>x.rr g,body:=r.body.map fun x=>x.rr g,vars:=n }
theorem numR_to (r:Rl):r.numR=r.to (placeS r.vs) (r.vs.length:Int):=rfl
theorem to_ts (r:Rl) (g:Int→Int) (n:Int):(r.to g n).ts=rrL r.ts g:=by
 unfold Rl.ts Rl.to
 simp only
 rw [rrL_flat Am.args (fun x=>x.rr g) g (fun _=>rfl),rrL_flat Am.args (fun x=>x.rr g) g (fun _=>rfl),rrL_flat Gl.args (fun x=>x.rr g) g (fun _=>rfl),rrL_flat Gl.args (fun x=>x.rr g) g (fun _=>rfl),rrL_app,rrL_app,rrL_app]
theorem mem_ts (r:Rl):(∀x∈r.keep,∀v∈occL x.args,v∈occL r.ts)∧(∀x∈r.remove,∀v∈occL x.args,v∈occL r.ts)∧(∀x∈r.guard,∀v∈occL x.args,v∈occL r.ts)∧(∀x∈r.body,∀v∈occL x.args,v∈occL r.ts):=by
 have app:∀a b:List Tm,occL (a++b)=occL a++occL b:=fun a b=>by
  induction a with
  | nil=>simp [occL]
  | cons t r ih=>simp only [List.cons_append,occL,ih,List.append_assoc]
 have flat:∀{α:Type} (f:α→List Tm) (l:List α) (x:α),x∈l→∀v∈occL (f x),v∈occL (l.flatMap f):=by
  intro α f l x hx v hv
  induction l with
  | nil=>cases hx
  | cons y l ih =>
   rw [List.flatMap_cons,app,List.mem_append]
   rcases List.mem_cons.1 hx with rfl|h
   ·exact .inl hv
   ·exact .inr (ih h)
 unfold Rl.ts
 simp only [app,List.mem_append]
 exact ⟨fun x hx v hv=>.inl (flat _ _ x hx v hv),fun x hx v hv=>.inr (.inl (flat _ _ x hx v hv)),fun x hx v hv=>.inr (.inr (.inl (flat _ _ x hx v hv))),fun x hx v hv=>.inr (.inr (.inr (flat _ _ x hx v hv)))⟩
theorem numR_vs (r:Rl):r.numR.vs=(List.range r.vs.length).map fun (i:Nat)=>(i:Int):=by
 unfold Rl.vs
 rw [numR_to,to_ts]
 exact vars_num r.ts
end Go.Proofs.YtnghanpmmbcbbaaGreatDoor
namespace Go.Proofs.YtnghanpmmbcbbaaGreatDoor
open Go.RowKit
def Am.sameP (x y:Am):Prop:=(cmpA x y==0)=true
theorem ref_same_am0_at (x y:Am) (w:World) (hx:x.At w) (hy:y.At w) (h:Am.sameP x y):Calls Tryz.prog 80 #[x.val,y.val] w fun e w'=>e=.returned (.bool true)∧Ext w w':=ref_same_atom_at x y w hx hy h
set_option maxHeartbeats 4000000 in
theorem same_ams_at (l m:List Am) (n:Nat) (A B:Option Addr) (c d:Nat) (w:World) (hl:AmLst w A l c) (hm:AmLst w B m d) (h1:l.length=n) (h2:m.length=n) (hn:n≤1000000) (hs:∀i,i < n→Am.sameP (l.getD i default) (m.getD i default)) :
  Calls Tryz.prog 43 #[.slice A n c,.slice B n d] w fun e w'=>e=.returned (.bool true)∧Ext w w':=by
 have HL:=Lib.hid hl
 have HM:=Lib.hid hm
 have HS:=Lib.hid hs
 have H1:=Lib.hid h1
 have H2:=Lib.hid h2
 clear hl hm hs h1 h2
 go_enter Tryz.func43,Tryz.ntmps43
 go_wp2_with fail
 go_loopw [5] (fun i wr=>∃j:Nat,j≤n∧i=.int .i64 j∧Hid (Ext w wr)) (fun i _=>n - (intOf i).toNat)
 case atStart=>exact ⟨0,Nat.zero_le _,rfl,Lib.hid (Ext.refl _)⟩
 case round =>
  obtain ⟨j,hj,rfl,HF⟩:=hrel
  by_cases hlt:j < n
  ·obtain ⟨b1,o1,rfl,hcs,hat⟩:=(HL.out.below HF.out).get (i:=j) (by rw [H1.out];exact hlt)
   obtain ⟨b2,o2,rfl,hcs2,hat2⟩:=(HM.out.below HF.out).get (i:=j) (by rw [H2.out];exact hlt)
   have hsj:=HS.out j hlt
   generalize l.getD j default=x at *
   generalize m.getD j default=y at *
   have Q:=Lib.hid (ref_same_am0_at x y wr.drew (hat.below (Ext.drew _)) (hat2.below (Ext.drew _)) hsj)
   have c0:=hcs 0 _ rfl
   have c1:=hcs 1 _ rfl
   have e0:=hcs2 0 _ rfl
   have e1:=hcs2 1 _ rfl
   simp only [Nat.add_zero] at c0 e0
   have HC:=Lib.hid (fun W (h:Ext wr W)=>(⟨keepv h c0,keepv h c1,keepv h e0,keepv h e1⟩:(fun W=>W.cell? ⟨b1,o1+j*2,none⟩=some (.string x.name)∧W.cell? ⟨b1,o1+j*2+1,none⟩=some (.slice x.at_ x.args.length x.cap)∧W.cell? ⟨b2,o2+j*2,none⟩=some (.string y.name)∧W.cell? ⟨b2,o2+j*2+1,none⟩=some (.slice y.at_ y.args.length y.cap)) W))
   obtain ⟨s1,A1,p1,a1⟩:=x
   obtain ⟨s2,A2,p2,a2⟩:=y
   simp only at c0 c1 e0 e1
   clear hcs hcs2 hat hat2 hsj
   go_wp2_with fail
   go_region_held3 (fun W=>W.cell? ⟨b1,o1+j*2,none⟩=some (.string s1)∧W.cell? ⟨b1,o1+j*2+1,none⟩=some (.slice A1 a1.length p1)∧W.cell? ⟨b2,o2+j*2,none⟩=some (.string s2)∧W.cell? ⟨b2,o2+j*2+1,none⟩=some (.slice A2 a2.length p2)) (first|(with_reducible exact HC.out _ (Ext.drew _))|(with_reducible exact HC.out _ E1.out)|fail) (first
    | (go_at_call 80;have hF:=Q.out;(with_reducible refine hF.mono ?_);rintro e y1 ⟨rfl,h1⟩;have E1:=Lib.hid (show Ext wr y1 from Ext.trans (Ext.drew _) h1);clear h1 hF)
    | fail)
   go_wp2_with fail
   go_roundw
   case rel=>exact ⟨j+1,by omega,by go_num,Lib.hid (HF.out.trans E1.out)⟩
   case measure=>simp [intOf];omega
  ·obtain rfl:j=n:=by omega
   go_wp2_with fail
   go_ret
   exact ⟨rfl,HF.out⟩
def weighAm (l:List Am) (m:Int):Int:=l.foldl (fun m x=>weighN x.name x.args m) m
theorem weighAm_neg (l:List Am) {m:Int} (h:m < 0):weighAm l m=m:=by
 unfold weighAm
 induction l with
 | nil=>rfl
 | cons x r ih=>rw [List.foldl_cons,show weighN x.name x.args m=m from if_pos h,ih]
theorem weighAm_next {l:List Am} {j:Nat} (h:j < l.length) (m:Int):weighAm (l.take (j+1)) m=weighN (l.getD j default).name (l.getD j default).args (weighAm (l.take j) m):=by
 rw [am_take_next h]
 simp [weighAm,List.foldl_append]
theorem weighAm_stop {l:List Am} {j:Nat} {m:Int} (h:weighAm (l.take j) m < 0):weighAm l m=weighAm (l.take j) m:=by
 have e:weighAm l m=weighAm (l.drop j) (weighAm (l.take j) m):=by
  unfold weighAm
  rw [←List.foldl_append,List.take_append_drop]
 rw [e,weighAm_neg _ h]
theorem weighAm_hi (l:List Am) (m:Int):weighAm l m≤m∨weighAm l m = -1:=by
 induction l generalizing m with
 | nil=>exact .inl (Int.le_refl _)
 | cons x r ih =>
  have h1:=weighN_hi x.name x.args m
  have h2:=ih (weighN x.name x.args m)
  show weighAm r (weighN x.name x.args m)≤m∨weighAm r (weighN x.name x.args m) = -1
  rcases h1 with h1|h1
  ·omega
  ·rw [h1];exact .inr (weighAm_neg r (by omega))
theorem weighAm_facts (l:List Am) (m:Int) (h:0≤weighAm l m):(l.length:Int)+weighAm l m≤m∧∀x∈l,(nodesL x.args:Int)≤m:=by
 induction l generalizing m with
 | nil=>exact ⟨by simp [weighAm],fun x hx=>by cases hx⟩
 | cons x r ih =>
  have e:weighAm (x :: r) m=weighAm r (weighN x.name x.args m):=rfl
  rw [e] at h ⊢
  have h1:=ih _ h
  have hn:0≤weighN x.name x.args m:=by
   rcases Int.lt_or_le (weighN x.name x.args m) 0 with h2|h2
   ·rw [weighAm_neg r h2] at h;omega
   ·exact h2
  have h3:=weighN_size hn
  have h4:weighN x.name x.args m+1≤m:=by
   unfold weighN at hn ⊢
   split at hn
   ·omega
   ·rename_i h5
    rw [if_neg h5]
    unfold weigh at hn ⊢
    split at hn
    ·omega
    ·rename_i h6
     rw [if_neg h6]
     have:=(weigh_facts.2 x.args (m - 1 - (x.name.size:Int) / 8) 64).1 hn
     omega
  refine ⟨by rw [List.length_cons];omega,fun y hy=>?_⟩
  rcases List.mem_cons.1 hy with rfl|hy
  ·exact h3
  ·have:=h1.2 y hy;omega
set_option maxHeartbeats 4000000 in
theorem great_ams_at (l:List Am) (A:Option Addr) (c:Nat) (most:Int) (w:World) (hl:AmLst w A l c) (h0:0≤most) (h1:most≤1000000) {r:Bool} (hr:decide (weighAm l most < 0)=r) :
  Calls Tryz.prog 68 #[.slice A l.length c,.int .i64 most] w fun e w'=>e=.returned (.bool r)∧Ext w w':=by
 have HL:=Lib.hid hl
 have HR:=Lib.hid hr
 have hlen:=hl.len
 clear hl hr
 go_enter Tryz.func68,Tryz.ntmps68
 go_wp2_with fail
 go_loopw [1,5] (fun z i wr=>∃j:Nat,j≤l.length∧i=.int .i64 j∧z=.int .i64 (weighAm (l.take j) most)∧Hid (Ext w wr)) (fun _ i _=>l.length - (intOf i).toNat)
 case atStart=>exact ⟨0,Nat.zero_le _,rfl,rfl,Lib.hid (Ext.refl _)⟩
 case round =>
  obtain ⟨j,hj,rfl,rfl,HF⟩:=hrel
  have hhi:=weighAm_hi (l.take j) most
  by_cases hlt:j < l.length
  ·have hjl:((j:Nat):Int) < (l.length:Int):=by omega
   have HT:=Lib.hid (weighAm_next hlt most)
   have HST:=Lib.hid (fun (h:weighAm (l.take j) most < 0)=>weighAm_stop h)
   obtain ⟨b,o,rfl,hcs,hat⟩:=(HL.out.below HF.out).get hlt
   generalize weighAm (l.take j) most=v at *
   by_cases hv:0≤v
   ·generalize l.getD j default=x at *
    have hsz:x.name.size≤9223372036854775807:=by have:=hat.1;unfold maxLen at this;exact this
    have P1:=Lib.hid (fun n=>weigh64 x.args x.at_ x.cap (v - 1 - (x.name.size:Int) / 8) (wr.drewN n) ((hat.2).below (below_drewN (Below.refl _ _) n)) (by omega) (by omega))
    have hW:weighN x.name x.args v=weigh x.args (v - 1 - (x.name.size:Int) / 8) 64:=if_neg (by omega)
    rw [←hW] at P1
    rw [←HT.out]at P1
    have c0:=hcs 0 _ rfl
    have c1:=hcs 1 _ rfl
    simp only [Nat.add_zero] at c0
    obtain ⟨s',A',c',a'⟩:=x
    simp only at c0 c1 hsz
    clear hcs hat hW
    obtain ⟨v2,hv2⟩:∃v2,weighAm (l.take (j+1)) most=v2:=⟨_,rfl⟩
    have HV2:=Lib.hid hv2
    rw [hv2] at P1
    clear hv2 HT
    go_wp2_with fail
    go_quiet ((go_at_call 47;exact Calls.quiet_of (P1.out _)))
    rename_i nq
    go_wp2_with fail
    go_roundw
    case rel=>exact ⟨j+1,by omega,by go_num,by rw [HV2.out],Lib.hid (Ext.trans HF.out (below_drewN (Below.refl _ _) nq))⟩
    case measure=>simp [intOf];omega
   ·have hv':v < 0:=by omega
    have HE:=Lib.hid (HST.out hv')
    go_wp2_with fail
    go_ret
    exact ⟨by rw [←HR.out,HE.out,decide_eq_true hv'];rfl,HF.out⟩
  ·obtain rfl:j=l.length:=by omega
   rw [List.take_length]
   generalize weighAm l most=v at *
   go_wp2_with fail
   go_ret
   exact ⟨by rw [←HR.out];rfl,HF.out⟩
end Go.Proofs.YtnghanpmmbcbbaaGreatDoor
namespace Go.Proofs.YtnghanpmmbcbbaaGreatDoor
open Go.RowKit
def Gl.sameP (x y:Gl):Prop:=sameG x y=true
theorem ref_same_gl0_at (x y:Gl) (w:World) (hx:x.At w) (hy:y.At w) (h:Gl.sameP x y):Calls Tryz.prog 66 #[x.val,y.val] w fun e w'=>e=.returned (.bool true)∧Ext w w':=ref_same_goal_at x y w hx hy h
set_option maxHeartbeats 4000000 in
theorem same_gls_at (l m:List Gl) (n:Nat) (A B:Option Addr) (c d:Nat) (w:World) (hl:GlLst w A l c) (hm:GlLst w B m d) (h1:l.length=n) (h2:m.length=n) (hn:n≤1000000) (hs:∀i,i < n→Gl.sameP (l.getD i default) (m.getD i default)) :
  Calls Tryz.prog 27 #[.slice A n c,.slice B n d] w fun e w'=>e=.returned (.bool true)∧Ext w w':=by
 have HL:=Lib.hid hl
 have HM:=Lib.hid hm
 have HS:=Lib.hid hs
 have H1:=Lib.hid h1
 have H2:=Lib.hid h2
 clear hl hm hs h1 h2
 go_enter Tryz.func27,Tryz.ntmps27
 go_wp2_with fail
 go_loopw [5] (fun i wr=>∃j:Nat,j≤n∧i=.int .i64 j∧Hid (Ext w wr)) (fun i _=>n - (intOf i).toNat)
 case atStart=>exact ⟨0,Nat.zero_le _,rfl,Lib.hid (Ext.refl _)⟩
 case round =>
  obtain ⟨j,hj,rfl,HF⟩:=hrel
  by_cases hlt:j < n
  ·obtain ⟨b1,o1,rfl,hcs,hat⟩:=(HL.out.below HF.out).get (i:=j) (by rw [H1.out];exact hlt)
   obtain ⟨b2,o2,rfl,hcs2,hat2⟩:=(HM.out.below HF.out).get (i:=j) (by rw [H2.out];exact hlt)
   have hsj:=HS.out j hlt
   generalize l.getD j default=x at *
   generalize m.getD j default=y at *
   have Q:=Lib.hid (ref_same_gl0_at x y wr.drew (hat.below (Ext.drew _)) (hat2.below (Ext.drew _)) hsj)
   have c0:=hcs 0 _ rfl
   have c1:=hcs 1 _ rfl
   have c2:=hcs 2 _ rfl
   have e0:=hcs2 0 _ rfl
   have e1:=hcs2 1 _ rfl
   have e2:=hcs2 2 _ rfl
   simp only [Nat.add_zero] at c0 e0
   have HC:=Lib.hid (fun W (h:Ext wr W)=>(⟨keepv h c0,keepv h c1,keepv h c2,keepv h e0,keepv h e1,keepv h e2⟩:(fun W=>W.cell? ⟨b1,o1+j*3,none⟩=some (.int .i64 x.op)∧W.cell? ⟨b1,o1+j*3+1,none⟩=some (.string x.name)∧W.cell? ⟨b1,o1+j*3+2,none⟩=some (.slice x.at_ x.args.length x.cap)∧W.cell? ⟨b2,o2+j*3,none⟩=some (.int .i64 y.op)∧W.cell? ⟨b2,o2+j*3+1,none⟩=some (.string y.name)∧W.cell? ⟨b2,o2+j*3+2,none⟩=some (.slice y.at_ y.args.length y.cap)) W))
   obtain ⟨k1,s1,A1,p1,a1⟩:=x
   obtain ⟨k2,s2,A2,p2,a2⟩:=y
   simp only at c0 c1 c2 e0 e1 e2
   clear hcs hcs2 hat hat2 hsj
   go_wp2_with fail
   go_region_held3 (fun W=>W.cell? ⟨b1,o1+j*3,none⟩=some (.int .i64 k1)∧W.cell? ⟨b1,o1+j*3+1,none⟩=some (.string s1)∧W.cell? ⟨b1,o1+j*3+2,none⟩=some (.slice A1 a1.length p1)∧W.cell? ⟨b2,o2+j*3,none⟩=some (.int .i64 k2)∧W.cell? ⟨b2,o2+j*3+1,none⟩=some (.string s2)∧W.cell? ⟨b2,o2+j*3+2,none⟩=some (.slice A2 a2.length p2)) (first|(with_reducible exact HC.out _ (Ext.drew _))|(with_reducible exact HC.out _ E1.out)|fail) (first
    | (go_at_call 66;have hF:=Q.out;(with_reducible refine hF.mono ?_);rintro e y1 ⟨rfl,h1⟩;have E1:=Lib.hid (show Ext wr y1 from Ext.trans (Ext.drew _) h1);clear h1 hF)
    | fail)
   go_wp2_with fail
   go_roundw
   case rel=>exact ⟨j+1,by omega,by go_num,Lib.hid (HF.out.trans E1.out)⟩
   case measure=>simp [intOf];omega
  ·obtain rfl:j=n:=by omega
   go_wp2_with fail
   go_ret
   exact ⟨rfl,HF.out⟩
def weighGl (l:List Gl) (m:Int):Int:=l.foldl (fun m x=>weighN x.name x.args m) m
theorem weighGl_neg (l:List Gl) {m:Int} (h:m < 0):weighGl l m=m:=by
 unfold weighGl
 induction l with
 | nil=>rfl
 | cons x r ih=>rw [List.foldl_cons,show weighN x.name x.args m=m from if_pos h,ih]
theorem weighGl_next {l:List Gl} {j:Nat} (h:j < l.length) (m:Int):weighGl (l.take (j+1)) m=weighN (l.getD j default).name (l.getD j default).args (weighGl (l.take j) m):=by
 rw [gl_take_next h]
 simp [weighGl,List.foldl_append]
theorem weighGl_stop {l:List Gl} {j:Nat} {m:Int} (h:weighGl (l.take j) m < 0):weighGl l m=weighGl (l.take j) m:=by
 have e:weighGl l m=weighGl (l.drop j) (weighGl (l.take j) m):=by
  unfold weighGl
  rw [←List.foldl_append,List.take_append_drop]
 rw [e,weighGl_neg _ h]
theorem weighGl_hi (l:List Gl) (m:Int):weighGl l m≤m∨weighGl l m = -1:=by
 induction l generalizing m with
 | nil=>exact .inl (Int.le_refl _)
 | cons x r ih =>
  have h1:=weighN_hi x.name x.args m
  have h2:=ih (weighN x.name x.args m)
  show weighGl r (weighN x.name x.args m)≤m∨weighGl r (weighN x.name x.args m) = -1
  rcases h1 with h1|h1
  ·omega
  ·rw [h1];exact .inr (weighGl_neg r (by omega))
theorem weighGl_facts (l:List Gl) (m:Int) (h:0≤weighGl l m):(l.length:Int)+weighGl l m≤m∧∀x∈l,(nodesL x.args:Int)≤m:=by
 induction l generalizing m with
 | nil=>exact ⟨by simp [weighGl],fun x hx=>by cases hx⟩
 | cons x r ih =>
  have e:weighGl (x :: r) m=weighGl r (weighN x.name x.args m):=rfl
  rw [e] at h ⊢
  have h1:=ih _ h
  have hn:0≤weighN x.name x.args m:=by
   rcases Int.lt_or_le (weighN x.name x.args m) 0 with h2|h2
   ·rw [weighGl_neg r h2] at h;omega
   ·exact h2
  have h3:=weighN_size hn
  have h4:weighN x.name x.args m+1≤m:=by
   unfold weighN at hn ⊢
   split at hn
   ·omega
   ·rename_i h5
    rw [if_neg h5]
    unfold weigh at hn ⊢
    split at hn
    ·omega
    ·rename_i h6
     rw [if_neg h6]
     have:=(weigh_facts.2 x.args (m - 1 - (x.name.size:Int) / 8) 64).1 hn
     omega
  refine ⟨by rw [List.length_cons];omega,fun y hy=>?_⟩
  rcases List.mem_cons.1 hy with rfl|hy
  ·exact h3
  ·have:=h1.2 y hy;omega
set_option maxHeartbeats 4000000 in
theorem great_gls_at (l:List Gl) (A:Option Addr) (c:Nat) (most:Int) (w:World) (hl:GlLst w A l c) (h0:0≤most) (h1:most≤1000000) {r:Bool} (hr:decide (weighGl l most < 0)=r) :
  Calls Tryz.prog 15 #[.slice A l.length c,.int .i64 most] w fun e w'=>e=.returned (.bool r)∧Ext w w':=by
 have HL:=Lib.hid hl
 have HR:=Lib.hid hr
 have hlen:=hl.len
 clear hl hr
 go_enter Tryz.func15,Tryz.ntmps15
 go_wp2_with fail
 go_loopw [1,5] (fun z i wr=>∃j:Nat,j≤l.length∧i=.int .i64 j∧z=.int .i64 (weighGl (l.take j) most)∧Hid (Ext w wr)) (fun _ i _=>l.length - (intOf i).toNat)
 case atStart=>exact ⟨0,Nat.zero_le _,rfl,rfl,Lib.hid (Ext.refl _)⟩
 case round =>
  obtain ⟨j,hj,rfl,rfl,HF⟩:=hrel
  have hhi:=weighGl_hi (l.take j) most
  by_cases hlt:j < l.length
  ·have hjl:((j:Nat):Int) < (l.length:Int):=by omega
   have HT:=Lib.hid (weighGl_next hlt most)
   have HST:=Lib.hid (fun (h:weighGl (l.take j) most < 0)=>weighGl_stop h)
   obtain ⟨b,o,rfl,hcs,hat⟩:=(HL.out.below HF.out).get hlt
   generalize weighGl (l.take j) most=v at *
   by_cases hv:0≤v
   ·generalize l.getD j default=x at *
    have hsz:x.name.size≤9223372036854775807:=by have:=hat.2.1;unfold maxLen at this;exact this
    have P1:=Lib.hid (fun n=>weigh64 x.args x.at_ x.cap (v - 1 - (x.name.size:Int) / 8) (wr.drewN n) ((hat.2.2).below (below_drewN (Below.refl _ _) n)) (by omega) (by omega))
    have hW:weighN x.name x.args v=weigh x.args (v - 1 - (x.name.size:Int) / 8) 64:=if_neg (by omega)
    rw [←hW] at P1
    rw [←HT.out]at P1
    have c0:=hcs 0 _ rfl
    have c1:=hcs 1 _ rfl
    have c2:=hcs 2 _ rfl
    simp only [Nat.add_zero] at c0
    obtain ⟨o',s',A',c',a'⟩:=x
    simp only at c0 c1 c2 hsz
    clear hcs hat hW
    obtain ⟨v2,hv2⟩:∃v2,weighGl (l.take (j+1)) most=v2:=⟨_,rfl⟩
    have HV2:=Lib.hid hv2
    rw [hv2] at P1
    clear hv2 HT
    go_wp2_with fail
    go_quiet ((go_at_call 47;exact Calls.quiet_of (P1.out _)))
    rename_i nq
    go_wp2_with fail
    go_roundw
    case rel=>exact ⟨j+1,by omega,by go_num,by rw [HV2.out],Lib.hid (Ext.trans HF.out (below_drewN (Below.refl _ _) nq))⟩
    case measure=>simp [intOf];omega
   ·have hv':v < 0:=by omega
    have HE:=Lib.hid (HST.out hv')
    go_wp2_with fail
    go_ret
    exact ⟨by rw [←HR.out,HE.out,decide_eq_true hv'];rfl,HF.out⟩
  ·obtain rfl:j=l.length:=by omega
   rw [List.take_length]
   generalize weighGl l most=v at *
   go_wp2_with fail
   go_ret
   exact ⟨by rw [←HR.out];rfl,HF.out⟩
end Go.Proofs.YtnghanpmmbcbbaaGreatDoor
namespace Go.Proofs.YtnghanpmmbcbbaaGreatDoor
open Go.RowKit
end Go.Proofs.YtnghanpmmbcbbaaGreatDoor
namespace Go.Proofs.YtnghanpmmbcbbaaGreatDoor
open Go.RowKit
theorem am_key_get {l m:List Am} {f:Am→Am} (h:l.map Am.key=(m.map f).map Am.key) {i:Nat} (hi:i < m.length):(l.getD i default).key=(f (m.getD i default)).key:=by
 have hl:l.length=m.length:=by have:=congrArg List.length h;simpa using this
 have h2:=congrArg (fun x=>x[i]?) h
 simp only [List.getElem?_map,List.getElem?_eq_getElem (show i < l.length by omega),List.getElem?_eq_getElem hi,Option.map_some,Option.some.injEq] at h2
 simpa [List.getD,List.getElem?_eq_getElem (show i < l.length by omega),List.getElem?_eq_getElem hi] using h2
theorem gl_key_get {l m:List Gl} {f:Gl→Gl} (h:l.map Gl.key=(m.map f).map Gl.key) {i:Nat} (hi:i < m.length):(l.getD i default).key=(f (m.getD i default)).key:=by
 have hl:l.length=m.length:=by have:=congrArg List.length h;simpa using this
 have h2:=congrArg (fun x=>x[i]?) h
 simp only [List.getElem?_map,List.getElem?_eq_getElem (show i < l.length by omega),List.getElem?_eq_getElem hi,Option.map_some,Option.some.injEq] at h2
 simpa [List.getD,List.getElem?_eq_getElem (show i < l.length by omega),List.getElem?_eq_getElem hi] using h2
def greatR (r:Rl):Bool:=decide ((300:Int) < (r.name.size:Int) / 8+(r.keep.length:Int)+(r.remove.length:Int))||(decide (weighAm r.keep 300 < 0)||(decide (weighAm r.remove 300 < 0)||(decide (weighGl r.guard 300 < 0)||decide (weighGl r.body 300 < 0))))
theorem great_eq {r:Rl} {q b0 b1 b2 b3 b4:Bool} (hq:greatR r=q) (e0:decide ((300:Int) < wrap64 (wrap64 ((r.name.size:Int) / 8+(r.keep.length:Int))+(r.remove.length:Int)))=b0) (e1:decide (weighAm r.keep 300 < 0)=b1) (e2:decide (weighAm r.remove 300 < 0)=b2) (e3:decide (weighGl r.guard 300 < 0)=b3) (e4:decide (weighGl r.body 300 < 0)=b4) (hn:r.name.size≤9223372036854775807) :
  (b0||(b1||(b2||(b3||b4))))=q:=by
 by_cases hs:r.keep.length≤300∧r.remove.length≤300
 ·have e:decide ((300:Int) < (r.name.size:Int) / 8+(r.keep.length:Int)+(r.remove.length:Int))=b0:=by
   rw [←e0]
   rw [decide_eq_decide]
   unfold wrap64
   omega
  rw [←hq,← e,← e1,← e2,← e3,← e4]
  rfl
 ·have h0:decide ((300:Int) < (r.name.size:Int) / 8+(r.keep.length:Int)+(r.remove.length:Int))=true:=decide_eq_true (by omega)
  have hq2:q=true:=by rw [←hq];unfold greatR;rw [h0];rfl
  have h12:b1=true∨b2=true:=by
   by_cases hk:r.keep.length≤300
   ·right
    rw [←e2]
    refine decide_eq_true (Int.not_le.1 fun h=>?_)
    have:=(weighAm_facts _ _ h).1
    omega
   ·left
    rw [←e1]
    refine decide_eq_true (Int.not_le.1 fun h=>?_)
    have:=(weighAm_facts _ _ h).1
    omega
  rw [hq2]
  rcases h12 with rfl|rfl<;>simp
end Go.Proofs.YtnghanpmmbcbbaaGreatDoor
namespace Go.Proofs.YtnghanpmmbcbbaaGreatDoor
open Go.ChangeShapes Go.WideShapes Go.ChangeAt Go.RowKit
def Rl.cells (x:Rl):List Value:=[.string x.name,.slice x.kA x.keep.length x.kc,.slice x.rA x.remove.length x.rc,.slice x.gA x.guard.length x.gc,.slice x.bA x.body.length x.bc,.int .i64 x.vars]
instance:Inhabited Rl:=⟨⟨⟨#[]⟩,none,0,[],none,0,[],none,0,[],none,0,[],0⟩⟩
theorem Rl.cells_lt {x:Rl} {j:Nat} {u:Value} (h:x.cells[j]?=some u):j < 6:=by
 have:=(List.getElem?_eq_some_iff.1 h).1
 simpa [Rl.cells] using this
structure Dc where
 name:ByteArray
 arity:Int
instance:Inhabited Dc:=⟨⟨⟨#[]⟩,0⟩⟩
def Dc.cells (x:Dc):List Value:=[.string x.name,.int .i64 x.arity]
def Dc.At (_:World) (x:Dc):Prop:=x.name.size≤maxLen∧Fits x.arity
theorem Dc.At.below {w w':World} {x:Dc} (h:x.At w) (_:Below w.heap.size w w'):x.At w':=h
theorem Dc.cells_lt {x:Dc} {j:Nat} {u:Value} (h:x.cells[j]?=some u):j < 2:=by
 have:=(List.getElem?_eq_some_iff.1 h).1
 simpa [Dc.cells] using this
def RlRow (w:World) (l:List Rl) (b o:Nat):Prop:=∀i,i < l.length→(∀j u,(l.getD i default).cells[j]?=some u→w.cell? ⟨b,o+i*6+j,none⟩=some u)∧(l.getD i default).At w
def RlLst (w:World) (A:Option Addr) (l:List Rl) (c:Nat):Prop:=l.length≤c∧c≤maxLen∧(0 < l.length→∃b o,A=some ⟨b,o,none⟩∧RlRow w l b o)
theorem rl_getD_mem {l:List Rl} {k:Nat} (h:k < l.length):l.getD k default∈l:=by
 rw [show l.getD k default=l[k] from by simp [List.getD,h]]
 exact List.getElem_mem h
theorem rl_take_next {l:List Rl} {k:Nat} (h:k < l.length):l.take (k+1)=l.take k++[l.getD k default]:=by
 rw [List.take_add_one,List.getElem?_eq_getElem h]
 simp [List.getD,h]
section
variable {w w':World} {A:Option Addr} {l:List Rl} {b o c:Nat}
theorem RlRow.below (h:RlRow w l b o) (hb:Below w.heap.size w w'):RlRow w' l b o:=fun i hi=>⟨fun j u hu=>keepv hb ((h i hi).1 j u hu),(h i hi).2.below hb⟩
theorem RlLst.below (h:RlLst w A l c) (hb:Below w.heap.size w w'):RlLst w' A l c:=⟨h.1,h.2.1,fun hn=>by
 obtain ⟨b,o,e,hr⟩:=h.2.2 hn
 exact ⟨b,o,e,hr.below hb⟩⟩
theorem RlLst.get (h:RlLst w A l c) {i:Nat} (hi:i < l.length):∃b o,A=some ⟨b,o,none⟩∧(∀j u,(l.getD i default).cells[j]?=some u→w.cell? ⟨b,o+i*6+j,none⟩=some u)∧(l.getD i default).At w:=by
 obtain ⟨b,o,e,hr⟩:=h.2.2 (by omega)
 exact ⟨b,o,e,hr i hi⟩
theorem RlLst.mem (h:RlLst w A l c) {x:Rl} (hx:x∈l):x.At w:=by
 obtain ⟨i,hi,e⟩:=List.mem_iff_getElem.1 hx
 obtain ⟨_,_,_,_,h2⟩:=h.get hi
 simpa [List.getD,List.getElem?_eq_getElem hi,e] using h2
theorem RlLst.len (h:RlLst w A l c):l.length≤9223372036854775807:=by have:=h.1;have:=h.2.1;unfold maxLen at *;omega
theorem RlLst.nil (w:World):RlLst w none [] 0:=⟨Nat.le_refl _,Nat.zero_le _,fun h=>absurd h (by simp)⟩
end
def DcRow (w:World) (l:List Dc) (b o:Nat):Prop:=∀i,i < l.length→(∀j u,(l.getD i default).cells[j]?=some u→w.cell? ⟨b,o+i*2+j,none⟩=some u)∧(l.getD i default).At w
def DcLst (w:World) (A:Option Addr) (l:List Dc) (c:Nat):Prop:=l.length≤c∧c≤maxLen∧(0 < l.length→∃b o,A=some ⟨b,o,none⟩∧DcRow w l b o)
theorem dc_getD_mem {l:List Dc} {k:Nat} (h:k < l.length):l.getD k default∈l:=by
 rw [show l.getD k default=l[k] from by simp [List.getD,h]]
 exact List.getElem_mem h
theorem dc_take_next {l:List Dc} {k:Nat} (h:k < l.length):l.take (k+1)=l.take k++[l.getD k default]:=by
 rw [List.take_add_one,List.getElem?_eq_getElem h]
 simp [List.getD,h]
section
variable {w w':World} {A:Option Addr} {l:List Dc} {b o c:Nat}
theorem DcRow.below (h:DcRow w l b o) (hb:Below w.heap.size w w'):DcRow w' l b o:=fun i hi=>⟨fun j u hu=>keepv hb ((h i hi).1 j u hu),(h i hi).2.below hb⟩
theorem DcLst.below (h:DcLst w A l c) (hb:Below w.heap.size w w'):DcLst w' A l c:=⟨h.1,h.2.1,fun hn=>by
 obtain ⟨b,o,e,hr⟩:=h.2.2 hn
 exact ⟨b,o,e,hr.below hb⟩⟩
theorem DcLst.get (h:DcLst w A l c) {i:Nat} (hi:i < l.length):∃b o,A=some ⟨b,o,none⟩∧(∀j u,(l.getD i default).cells[j]?=some u→w.cell? ⟨b,o+i*2+j,none⟩=some u)∧(l.getD i default).At w:=by
 obtain ⟨b,o,e,hr⟩:=h.2.2 (by omega)
 exact ⟨b,o,e,hr i hi⟩
theorem DcLst.mem (h:DcLst w A l c) {x:Dc} (hx:x∈l):x.At w:=by
 obtain ⟨i,hi,e⟩:=List.mem_iff_getElem.1 hx
 obtain ⟨_,_,_,_,h2⟩:=h.get hi
 simpa [List.getD,List.getElem?_eq_getElem hi,e] using h2
theorem DcLst.len (h:DcLst w A l c):l.length≤9223372036854775807:=by have:=h.1;have:=h.2.1;unfold maxLen at *;omega
theorem DcLst.nil (w:World):DcLst w none [] 0:=⟨Nat.le_refl _,Nat.zero_le _,fun h=>absurd h (by simp)⟩
end
section
variable {H:Type} {enc:TypeId×Value→H} {W:World} {base:Nat} {spare:Nat→Bool} {held:Bool}
set_option maxRecDepth 100000 in
theorem rl_of (n:Nat) (cs:List Value) (x:DataW H×List MemPlace) (h:DataW.trod enc Tryz.prog W base spare held n 25 cs=some x):∃y:Rl,cs=y.cells∧y.At W:=by
 obtain ⟨xs,m,_,_,hcl,hxl,hg⟩:=DataW.trod_struct Tryz.underlying25 h
 have hcl':cs.length=6:=hcl.trans (by kernel_rfl)
 match cs,hcl' with
 | [c0,c1,c2,c3,c4,c5],_ =>
  have hxs:xs.length=6:=hxl
  have g0:=hg 0 _ rfl
  have g1:=hg 1 _ rfl
  have g2:=hg 2 _ rfl
  have g3:=hg 3 _ rfl
  have g4:=hg 4 _ rfl
  have g5:=hg 5 _ rfl
  rw [List.getElem?_eq_getElem (by omega)] at g0 g1 g2 g3 g4 g5
  have e0:(Tryz.prog.cellsOf 9)=1:=by kernel_rfl
  have e1:(Tryz.prog.cellsOf 22)=1:=by kernel_rfl
  have e2:(Tryz.prog.cellsOf 23)=1:=by kernel_rfl
  have e3:(Tryz.prog.cellsOf 3)=1:=by kernel_rfl
  simp only [List.getElem_toArray,List.getElem_cons_zero,List.getElem_cons_succ] at g0 g1 g2 g3 g4 g5
  obtain ⟨s,hs,_,ws⟩:=DataW.trod_string (cs:=[c0]) Tryz.underlying9 (by simpa [e0] using g0)
  obtain ⟨A1,l1,n1,hv1,hl1⟩:=ams_of (v:=c1) (by simpa [e1] using g1)
  obtain ⟨A2,l2,n2,hv2,hl2⟩:=ams_of (v:=c2) (by simpa [e1] using g2)
  obtain ⟨A3,l3,n3,hv3,hl3⟩:=gls_of (v:=c3) (by simpa [e2] using g3)
  obtain ⟨A4,l4,n4,hv4,hl4⟩:=gls_of (v:=c4) (by simpa [e2] using g4)
  obtain ⟨k,hk,_,wk⟩:=DataW.trod_int (cs:=[c5]) Tryz.underlying3 (by simpa [e3] using g5)
  obtain rfl:c0=.string s:=by simpa using hs
  obtain rfl:c5=.int .i64 k:=by simpa using hk
  subst hv1 hv2 hv3 hv4
  exact ⟨⟨s,A1,n1,l1,A2,n2,l2,A3,n3,l3,A4,n4,l4,k⟩,rfl,⟨ws,hl1,hl2,hl3,hl4,int_fits wk⟩⟩
set_option maxRecDepth 100000 in
theorem dc_of (n:Nat) (cs:List Value) (x:DataW H×List MemPlace) (h:DataW.trod enc Tryz.prog W base spare held n 38 cs=some x):∃y:Dc,cs=y.cells∧y.At W:=by
 obtain ⟨xs,m,_,_,hcl,hxl,hg⟩:=DataW.trod_struct Tryz.underlying38 h
 have hcl':cs.length=2:=hcl.trans (by kernel_rfl)
 match cs,hcl' with
 | [c0,c1],_ =>
  have hxs:xs.length=2:=hxl
  have g0:=hg 0 _ rfl
  have g1:=hg 1 _ rfl
  rw [List.getElem?_eq_getElem (by omega)] at g0 g1
  have e0:(Tryz.prog.cellsOf 9)=1:=by kernel_rfl
  have e3:(Tryz.prog.cellsOf 3)=1:=by kernel_rfl
  simp only [List.getElem_toArray,List.getElem_cons_zero,List.getElem_cons_succ] at g0 g1
  obtain ⟨s,hs,_,ws⟩:=DataW.trod_string (cs:=[c0]) Tryz.underlying9 (by simpa [e0] using g0)
  obtain ⟨k,hk,_,wk⟩:=DataW.trod_int (cs:=[c1]) Tryz.underlying3 (by simpa [e3] using g1)
  obtain rfl:c0=.string s:=by simpa using hs
  obtain rfl:c1=.int .i64 k:=by simpa using hk
  exact ⟨⟨s,k⟩,rfl,ws,int_fits wk⟩
set_option maxRecDepth 100000 in
theorem rls_of {n:Nat} {v:Value} {x:DataW H×List MemPlace} (h:DataW.trod enc Tryz.prog W base spare held n 27 [v]=some x) :
  ∃(A:Option Addr) (l:List Rl) (c:Nat),v=.slice A l.length c∧RlLst W A l c:=by
 rcases DataW.trod_slice Tryz.underlying27 h with ⟨hcs,_⟩|⟨a,len,cap,elems,rest,n',hn,hcs,_,_,hl,hm,hlen,hel,_⟩
 ·obtain rfl:v=.slice none 0 0:=by simpa using hcs
  exact ⟨none,[],0,rfl,RlLst.nil W⟩
 ·obtain rfl:v=.slice (some a) len cap:=by simpa using hcs
  have cT:Tryz.prog.cellsOf 25=6:=by kernel_rfl
  obtain ⟨f,hf⟩:=Deep.choose_lt (α:=Rl) (p:=fun i y=>W.cells? base (a.add (i*6)) 6=some y.cells∧y.At W) (n:=len) (fun i hi=>by
   have h1:=hel i hi
   rw [cT,List.getElem?_eq_getElem (by omega)] at h1
   obtain ⟨cs',h2,h3⟩:=Option.bind_eq_some_iff.1 h1
   obtain ⟨y,rfl,hy'⟩:=rl_of _ _ _ h3
   exact ⟨y,h2,hy'⟩)
  have hll:((List.range len).map f).length=len:=by simp
  refine ⟨some a,(List.range len).map f,cap,by rw [hll],by rw [hll];exact hl,hm,fun h0=>?_⟩
  rw [hll] at h0
  obtain ⟨b,o,sp⟩:=a
  have c0:=(World.cells?_some (hf 0 h0).1).2.2 0 (by omega)
  obtain rfl:sp=none:=by
   have e0:∃u,(f 0).cells[0]?=some u:=⟨_,rfl⟩
   obtain ⟨u,e0⟩:=e0
   rw [e0] at c0
   simpa [Addr.add] using World.cell?_spot c0
  refine ⟨b,o,rfl,fun i hi=>?_⟩
  rw [hll] at hi
  have e:((List.range len).map f).getD i default=f i:=by simp [List.getD,hi]
  rw [e]
  refine ⟨fun j u hu=>?_,(hf i hi).2⟩
  have hj:=Rl.cells_lt hu
  have:=(World.cells?_some (hf i hi).1).2.2 j hj
  rw [add_plain,add_plain,hu] at this
  exact this
set_option maxRecDepth 100000 in
theorem dcs_of {n:Nat} {v:Value} {x:DataW H×List MemPlace} (h:DataW.trod enc Tryz.prog W base spare held n 33 [v]=some x) :
  ∃(A:Option Addr) (l:List Dc) (c:Nat),v=.slice A l.length c∧DcLst W A l c:=by
 rcases DataW.trod_slice Tryz.underlying33 h with ⟨hcs,_⟩|⟨a,len,cap,elems,rest,n',hn,hcs,_,_,hl,hm,hlen,hel,_⟩
 ·obtain rfl:v=.slice none 0 0:=by simpa using hcs
  exact ⟨none,[],0,rfl,DcLst.nil W⟩
 ·obtain rfl:v=.slice (some a) len cap:=by simpa using hcs
  have cT:Tryz.prog.cellsOf 38=2:=by kernel_rfl
  obtain ⟨f,hf⟩:=Deep.choose_lt (α:=Dc) (p:=fun i y=>W.cells? base (a.add (i*2)) 2=some y.cells∧y.At W) (n:=len) (fun i hi=>by
   have h1:=hel i hi
   rw [cT,List.getElem?_eq_getElem (by omega)] at h1
   obtain ⟨cs',h2,h3⟩:=Option.bind_eq_some_iff.1 h1
   obtain ⟨y,rfl,hy'⟩:=dc_of _ _ _ h3
   exact ⟨y,h2,hy'⟩)
  have hll:((List.range len).map f).length=len:=by simp
  refine ⟨some a,(List.range len).map f,cap,by rw [hll],by rw [hll];exact hl,hm,fun h0=>?_⟩
  rw [hll] at h0
  obtain ⟨b,o,sp⟩:=a
  have c0:=(World.cells?_some (hf 0 h0).1).2.2 0 (by omega)
  obtain rfl:sp=none:=by
   have e0:∃u,(f 0).cells[0]?=some u:=⟨_,rfl⟩
   obtain ⟨u,e0⟩:=e0
   rw [e0] at c0
   simpa [Addr.add] using World.cell?_spot c0
  refine ⟨b,o,rfl,fun i hi=>?_⟩
  rw [hll] at hi
  have e:((List.range len).map f).getD i default=f i:=by simp [List.getD,hi]
  rw [e]
  refine ⟨fun j u hu=>?_,(hf i hi).2⟩
  have hj:=Dc.cells_lt hu
  have:=(World.cells?_some (hf i hi).1).2.2 j hj
  rw [add_plain,add_plain,hu] at this
  exact this
end
structure Pm where
 dA:Option Addr
 dc:Nat
 decls:List Dc
 rA:Option Addr
 rc:Nat
 rules:List Rl
abbrev Pm.val (p:Pm):Value:=.agg #[.slice p.dA p.decls.length p.dc,.slice p.rA p.rules.length p.rc]
structure Pm.At (w:World) (p:Pm):Prop where
 decls:DcLst w p.dA p.decls p.dc
 rules:RlLst w p.rA p.rules p.rc
theorem Pm.At.below {w w':World} {p:Pm} (h:p.At w) (hb:Below w.heap.size w w'):p.At w':=⟨h.decls.below hb,h.rules.below hb⟩
section
variable {H:Type} {enc:TypeId×Value→H} {W:World} {base:Nat} {spare:Nat→Bool} {held:Bool}
set_option maxRecDepth 100000 in
theorem open_pm {r:Reach} {b0:Nat} {v:Value} {d:DataW H} {p:List MemPlace} (hv:Value.okWide Tryz.prog W r b0 35 v) (h:DataW.Trod enc Tryz.prog W base spare held 35 v d p) :
  ∃u:Pm,v=u.val∧u.At W:=by
 obtain ⟨cs,rfl,hsz⟩:=okWide_struct Tryz.underlying35 hv
 obtain ⟨fuel,hf⟩:=h
 obtain ⟨xs,m,_,_,hcl,hxl,hg⟩:=DataW.trod_struct Tryz.underlying35 hf
 have hcl':cs.toList.length=2:=hcl.trans (by kernel_rfl)
 have hcs:(Value.agg cs).cells.toList=cs.toList:=rfl
 rw [hcs] at hg
 match hl:cs.toList,hcl' with
 | [c0,c1],_ =>
  rw [hl] at hg
  have hxs:xs.length=2:=hxl
  have g0:=hg 0 _ rfl
  have g1:=hg 1 _ rfl
  rw [List.getElem?_eq_getElem (by omega)] at g0 g1
  have e0:(Tryz.prog.cellsOf 33)=1:=by kernel_rfl
  have e1:(Tryz.prog.cellsOf 27)=1:=by kernel_rfl
  simp only [List.getElem_toArray,List.getElem_cons_zero,List.getElem_cons_succ] at g0 g1
  obtain ⟨A1,l1,n1,hv1,hl1⟩:=dcs_of (v:=c0) (by simpa [e0] using g0)
  obtain ⟨A2,l2,n2,hv2,hl2⟩:=rls_of (v:=c1) (by simpa [e1] using g1)
  subst hv1 hv2
  refine ⟨⟨A1,n1,l1,A2,n2,l2⟩,?_,⟨hl1,hl2⟩⟩
  rw [←Array.toArray_toList (xs:=cs),hl]
end
end Go.Proofs.YtnghanpmmbcbbaaGreatDoor
namespace Go.Proofs.YtnghanpmmbcbbaaGreatDoor
open Go.RowKit
structure Rl.Same (u v:Rl):Prop where
 name:u.name=v.name
 vars:u.vars=v.vars
 kl:u.keep.length=v.keep.length
 keep:∀i,i < u.keep.length→Am.sameP (u.keep.getD i default) (v.keep.getD i default)
 rl:u.remove.length=v.remove.length
 remove:∀i,i < u.remove.length→Am.sameP (u.remove.getD i default) (v.remove.getD i default)
 gl:u.guard.length=v.guard.length
 guard:∀i,i < u.guard.length→Gl.sameP (u.guard.getD i default) (v.guard.getD i default)
 bl:u.body.length=v.body.length
 body:∀i,i < u.body.length→Gl.sameP (u.body.getD i default) (v.body.getD i default)
theorem am_same_of {x y:Am} (h1:x.name=y.name) (h2:cmpL x.args y.args=0):Am.sameP x y:=by
 unfold Am.sameP cmpA
 rw [h1,texts_self,cmpL_len h2,ints_self,h2]
 rfl
theorem gl_same_of {x y:Gl} (h0:x.op=y.op) (h1:x.name=y.name) (h2:cmpL x.args y.args=0):Gl.sameP x y:=by
 unfold Gl.sameP sameG
 rw [h0,h1,h2]
 simp
theorem cmpL_same {l m:List Tm} (h:stripL l=stripL m):cmpL l m=0:=by rw [←cmp_strip.2,h,cmp_self.2]
theorem am_same_key2 {x y:Am} (h:x.key=y.key):Am.sameP x y:=by
 obtain ⟨h1,h2⟩:=Prod.ext_iff.1 h
 exact am_same_of (by simpa [Am.key,Am.hd] using h1) (cmpL_same h2)
theorem gl_same_key2 {x y:Gl} (h:x.key=y.key):Gl.sameP x y:=by
 obtain ⟨h1,h2⟩:=Prod.ext_iff.1 h
 have e:x.op=y.op∧x.name=y.name:=by simpa [Gl.key,Gl.hd] using h1
 exact gl_same_of e.1 e.2 (cmpL_same h2)
theorem Rl.Twin.same {u v:Rl} (h:u.Twin v) (hv:u.vars=v.vars):u.Same v :=
 ⟨h.name, hv, map_len h.keep, fun i hi => am_same_key2 (by simpa using am_key_get (f := id) (by simpa using h.keep) (by rw [← map_len h.keep]; exact hi)),
  map_len h.remove, fun i hi => am_same_key2 (by simpa using am_key_get (f := id) (by simpa using h.remove) (by rw [← map_len h.remove]; exact hi)),
  map_len h.guard, fun i hi => gl_same_key2 (by simpa using gl_key_get (f := id) (by simpa using h.guard) (by rw [← map_len h.guard]; exact hi)),
  map_len h.body, fun i hi => gl_same_key2 (by simpa using gl_key_get (f := id) (by simpa using h.body) (by rw [← map_len h.body]; exact hi))⟩
structure Rl.Short (u:Rl):Prop where
 k:u.keep.length≤1000000
 r:u.remove.length≤1000000
 g:u.guard.length≤1000000
 b:u.body.length≤1000000
set_option maxHeartbeats 8000000 in
theorem ssame_rule_at (u v:Rl) (w:World) (hs:u.Short) (hu:u.At w) (hv:v.At w) (h:u.Same v) :
  Calls Tryz.prog 12 #[u.val,v.val] w fun e w'=>e=.returned (.bool true)∧Ext w w':=by
 have Q1:=Lib.hid (fun W (g:Below w.heap.size w W)=>same_ams_at u.keep v.keep u.keep.length u.kA v.kA u.kc v.kc W (hu.keep.below g) (hv.keep.below g) rfl h.kl.symm hs.k h.keep)
 have Q2:=Lib.hid (fun W (g:Below w.heap.size w W)=>same_ams_at u.remove v.remove u.remove.length u.rA v.rA u.rc v.rc W (hu.remove.below g) (hv.remove.below g) rfl h.rl.symm hs.r h.remove)
 have Q3:=Lib.hid (fun W (g:Below w.heap.size w W)=>same_gls_at u.guard v.guard u.guard.length u.gA v.gA u.gc v.gc W (hu.guard.below g) (hv.guard.below g) rfl h.gl.symm hs.g h.guard)
 have Q4:=Lib.hid (fun W (g:Below w.heap.size w W)=>same_gls_at u.body v.body u.body.length u.bA v.bA u.bc v.bc W (hu.body.below g) (hv.body.below g) rfl h.bl.symm hs.b h.body)
 have ev:v.val=.agg #[.string u.name,.slice v.kA u.keep.length v.kc,.slice v.rA u.remove.length v.rc,.slice v.gA u.guard.length v.gc,.slice v.bA u.body.length v.bc,.int .i64 u.vars]:=by rw [h.name,h.vars,h.kl,h.rl,h.gl,h.bl]
 rw [ev]
 clear ev h hu hv hs
 obtain ⟨X,hX⟩:∃X,(w.alloc (.cells #[.string u.name,.slice u.kA u.keep.length u.kc,.slice u.rA u.remove.length u.rc,.slice u.gA u.guard.length u.gc,.slice u.bA u.body.length u.bc,.int .i64 u.vars] 25)).alloc (.cells #[.string u.name,.slice v.kA u.keep.length v.kc,.slice v.rA u.remove.length v.rc,.slice v.gA u.guard.length v.gc,.slice v.bA u.body.length v.bc,.int .i64 u.vars] 25)=X:=⟨_,rfl⟩
 obtain ⟨HB0,HB1⟩:=two_boxesL w [.string u.name,.slice u.kA u.keep.length u.kc,.slice u.rA u.remove.length u.rc,.slice u.gA u.guard.length u.gc,.slice u.bA u.body.length u.bc,.int .i64 u.vars] [.string u.name,.slice v.kA u.keep.length v.kc,.slice v.rA u.remove.length v.rc,.slice v.gA u.guard.length v.gc,.slice v.bA u.body.length v.bc,.int .i64 u.vars] 25
 have H0:=Lib.hid (show HeldL w.heap.size X [.string u.name,.slice u.kA u.keep.length u.kc,.slice u.rA u.remove.length u.rc,.slice u.gA u.guard.length u.gc,.slice u.bA u.body.length u.bc,.int .i64 u.vars] from by rw [←hX];exact HB0)
 have H1:=Lib.hid (show HeldL (w.heap.size+1) X [.string u.name,.slice v.kA u.keep.length v.kc,.slice v.rA u.remove.length v.rc,.slice v.gA u.guard.length v.gc,.slice v.bA u.body.length v.bc,.int .i64 u.vars] from by rw [←hX];exact HB1)
 have HX:=Lib.hid (show Ext w X from by rw [←hX];exact Ext.al2 _ _ _)
 have R1:=Lib.hid (fun W (h:Ext X W)=>Q1.out W (Ext.trans HX.out h))
 have R2:=Lib.hid (fun W (h:Ext X W)=>Q2.out W (Ext.trans HX.out h))
 have R3:=Lib.hid (fun W (h:Ext X W)=>Q3.out W (Ext.trans HX.out h))
 have R4:=Lib.hid (fun W (h:Ext X W)=>Q4.out W (Ext.trans HX.out h))
 have a00:=H0.out.cell 0 _ rfl
 have b00:=H1.out.cell 0 _ rfl
 have a05:=H0.out.cell 5 _ rfl
 have b05:=H1.out.cell 5 _ rfl
 have a01:=H0.out.cell 1 _ rfl
 have b01:=H1.out.cell 1 _ rfl
 clear HB0 HB1 Q1 Q2 Q3 Q4
 show Calls Tryz.prog 12 #[.agg #[.string u.name,.slice u.kA u.keep.length u.kc,.slice u.rA u.remove.length u.rc,.slice u.gA u.guard.length u.gc,.slice u.bA u.body.length u.bc,.int .i64 u.vars],.agg #[.string u.name,.slice v.kA u.keep.length v.kc,.slice v.rA u.remove.length v.rc,.slice v.gA u.guard.length v.gc,.slice v.bA u.body.length v.bc,.int .i64 u.vars]] w _
 go_enter Tryz.func12,Tryz.ntmps12
 go_wp2_with fail
 (try rw [hX])
 clear hX
 (with_reducible refine (R1.out X (Ext.refl X)).mono ?_)
 rintro e y1 ⟨rfl,h1⟩
 have E1:=Lib.hid (show Ext X y1 from Ext.trans (Ext.refl X) h1)
 have a12:=(H0.out.below E1.out).cell 2 _ rfl
 have b12:=(H1.out.below E1.out).cell 2 _ rfl
 clear h1
 go_wp2_with fail
 (with_reducible refine (R2.out y1 E1.out).mono ?_)
 rintro e y2 ⟨rfl,h1⟩
 have E2:=Lib.hid (show Ext X y2 from Ext.trans E1.out h1)
 have a23:=(H0.out.below E2.out).cell 3 _ rfl
 have b23:=(H1.out.below E2.out).cell 3 _ rfl
 clear h1
 go_wp2_with fail
 (with_reducible refine (R3.out y2 E2.out).mono ?_)
 rintro e y3 ⟨rfl,h1⟩
 have E3:=Lib.hid (show Ext X y3 from Ext.trans E2.out h1)
 have a34:=(H0.out.below E3.out).cell 4 _ rfl
 have b34:=(H1.out.below E3.out).cell 4 _ rfl
 clear h1
 go_wp2_with fail
 (with_reducible refine (R4.out y3 E3.out).mono ?_)
 rintro e y4 ⟨rfl,h1⟩
 have E4:=Lib.hid (show Ext X y4 from Ext.trans E3.out h1)
 clear h1
 go_wp2_with fail
 go_ret
 exact ⟨rfl,Ext.trans HX.out E4.out⟩
end Go.Proofs.YtnghanpmmbcbbaaGreatDoor
