/-
  SwGoals.
-/
import Derived.Test.YtnghanpmmbcbbaaGreatDoorMq21
import Derived.Test.YtnghanpmmbcbbaaGreatDoorMq28
import Derived.Test.YtnghanpmmbcbbaaGreatDoorMq9
import Derived.Test.YtnghanpmmbcbbaaGreatDoorMq20
namespace Go.Proofs.YtnghanpmmbcbbaaGreatDoor
open Go.RowKit
theorem form_occ:(∀t:Tm,t.form=true→∀v∈t.occ,0≤v∧v≤1048576)∧(∀l,formL l=true→∀v∈occL l,0≤v∧v≤1048576):=by
 refine Tm.induct2 (fun k n s A c a ih h v hv=>?_) (fun _ v hv=>by simp [occL] at hv) (fun t r h1 h2 h v hv=>?_)
 ·simp only [Tm.form] at h
  by_cases k0:k=0
  ·simp [Tm.occ,k0] at hv
  ·rw [if_neg k0] at h
   by_cases k1:k=1
   ·simp [Tm.occ,k1] at hv
    simp [k1] at h
    omega
   ·rw [if_neg k1] at h
    by_cases k2:k=2
    ·simp [Tm.occ,k2] at hv
     rw [if_pos k2] at h
     simp only [Bool.and_eq_true] at h
     exact ih h.2.2 v hv
    ·rw [if_neg k2] at h;cases h
 ·simp only [formL,Bool.and_eq_true] at h
  simp only [occL,List.mem_append] at hv
  exact hv.elim (h1 h.1 v) (h2 h.2 v)
theorem rr_num2:(∀(t:Tm) (f:Int→Int),t.form=true→(t.rr f).strip=t.num2 f)∧(∀(l:List Tm) (f:Int→Int),formL l=true→stripL (rrL l f)=numL2 f l):=by
 refine Tm.induct2 (fun k n s A c a ih f h=>?_) (fun f _=>by simp [rrL,stripL,numL2]) (fun t r h1 h2 f h=>?_)
 ·simp only [Tm.form] at h
  by_cases k2:k=2
  ·subst k2
   simp at h
   simp only [Tm.rr,Tm.strip,Tm.num2,if_pos,ih f h.2.2]
  ·have ha:a=[]:=by
    by_cases k0:k=0
    ·simp [k0] at h;exact h.2.2.2
    ·by_cases k1:k=1
     ·simp [k1] at h;exact h.2.2.2
     ·simp [k0,k1,k2] at h
   subst ha
   simp [Tm.rr,Tm.strip,Tm.num2,stripL,numL2,k2]
 ·simp only [formL,Bool.and_eq_true] at h
  simp only [rrL,stripL,numL2,h1 f h.1,h2 f h.2]
theorem vs_small {l:List Gl} (h:AllG (l.map sG)):∀v∈vsGl l,0≤v∧v≤1048576:=by
 intro v hv
 have hv2:=(mem_varsL _ v).1 hv
 have key:∀l:List Gl,(∀x∈l,formL x.args=true)→∀v∈occL (l.flatMap Gl.args),0≤v∧v≤1048576:=by
  have app:∀a b:List Tm,occL (a++b)=occL a++occL b:=fun a b=>by
   induction a with
   | nil=>simp [occL]
   | cons t r ih=>simp only [List.cons_append,occL,ih,List.append_assoc]
  intro l
  induction l with
  | nil=>intro _ v hv;simp [occL] at hv
  | cons x r ih =>
   intro h v hv
   rw [List.flatMap_cons,app,List.mem_append] at hv
   exact hv.elim (form_occ.2 _ (h x (by simp)) v) (ih (fun y hy=>h y (List.mem_cons_of_mem _ hy)) v)
 refine key l (fun x hx=>?_) v hv2
 have:=rightG_form (h (sG x) (List.mem_map_of_mem hx))
 rwa [show (sG x).2.2=stripL x.args from rfl,form_strip.2] at this
theorem read_same {l m k:List Gl} (h:AllG (l.map sG)) (hm:m.map sG=(l.map sG).map (Gs.num2 (placeS (vsGl l)))) (hk:k.map Gl.key=(l.map fun x=>x.rr (placeS (vsGl l))).map Gl.key) :
  m.length=l.length∧∀i,i < l.length→Gl.sameP (m.getD i default) (k.getD i default):=by
 have hl:m.length=l.length:=by have:=congrArg List.length hm;simpa using this
 refine ⟨hl,fun i hi=>?_⟩
 have h1:=gl_key_get (f:=fun x=>x.rr (placeS (vsGl l))) hk hi
 have h2:sG (m.getD i default)=Gs.num2 (placeS (vsGl l)) (sG (l.getD i default)):=by
  have e:=congrArg (fun x=>x[i]?) hm
  simp only [List.getElem?_map,List.getElem?_eq_getElem (show i < m.length by omega),List.getElem?_eq_getElem hi,Option.map_some,Option.some.injEq] at e
  simpa [List.getD,List.getElem?_eq_getElem (show i < m.length by omega),List.getElem?_eq_getElem hi] using e
 have hf:formL (l.getD i default).args=true:=by
  have:=rightG_form (h (sG (l.getD i default)) (List.mem_map_of_mem (gl_getD_mem hi)))
  rwa [show (sG (l.getD i default)).2.2=stripL (l.getD i default).args from rfl,form_strip.2] at this
 refine gl_same_key2 ?_
 rw [h1]
 generalize l.getD i default=x at *
 generalize m.getD i default=y at *
 obtain ⟨e1,e2⟩:=Prod.ext_iff.1 h2
 obtain ⟨e3,e4⟩:=Prod.ext_iff.1 e2
 have en:y.name=x.name:=WideShapes.bytes_inj e3
 have eo:y.op=x.op:=e1
 have es:stripL y.args=numL2 (placeS (vsGl l)) (stripL x.args):=e4
 refine Prod.ext (by show [Value.int .i64 y.op,.string y.name]=[.int .i64 x.op,.string x.name];rw [en,eo]) ?_
 show stripL y.args=stripL (rrL x.args (placeS (vsGl l)))
 rw [es,rr_num2.2 x.args _ hf,← rr_num2.2 (stripL x.args) _ (by rw [form_strip.2];exact hf)]
 have e5:stripL (rrL (stripL x.args) (placeS (vsGl l)))=stripL (rrL x.args (placeS (vsGl l))):=by
  have:∀(g:Int→Int),(∀t:Tm,(t.strip.rr g).strip=(t.rr g).strip)∧(∀l,stripL (rrL (stripL l) g)=stripL (rrL l g)):=fun g=>by
   refine Tm.induct2 (fun k n s A c a ih=>?_) rfl (fun t r h1 h2=>?_)
   ·by_cases k2:k=2
    ·subst k2;simp only [Tm.strip,Tm.rr,if_pos,ih]
    ·simp only [Tm.strip,Tm.rr,if_neg k2,strip_strip.2]
   ·simp only [stripL,rrL,h1,h2]
  exact (this _).2 _
 rw [e5,rr_num2.2 x.args _ hf]
theorem nmC_flat (ns:List (List UInt8)):nmC ns=ns.flatMap fun x=>[Value.string (S x)]:=by
 induction ns with
 | nil=>rfl
 | cons x r ih=>rw [List.flatMap_cons,← ih];rfl
theorem names_get {lo:Nat} {w:World} {T:TypeId} {zA:Option Addr} {zn zc n:Nat} {ns:List (List UInt8)} (h:w.ownsRow lo T 1 (.slice zA zn zc) n (nmC ns)) (hn:n=ns.length) :
  zn=ns.length∧(0 < ns.length→∃b,zA=some ⟨b,0,none⟩∧∀i,i < ns.length→w.cell? ⟨b,i,none⟩=some (.string (S (ns.getD i [])))):=by
 subst hn
 rw [nmC_flat] at h
 obtain ⟨h1,_,_,h4⟩:=own_get (fun x:List UInt8=>[Value.string (S x)]) (fun _=>rfl) h
 refine ⟨h1,fun h0=>?_⟩
 obtain ⟨b,e,hc⟩:=h4 h0
 refine ⟨b,e,fun i hi=>?_⟩
 have:=hc i hi 0 _ rfl
 rw [Nat.zero_add,Nat.mul_one,Nat.add_zero] at this
 exact this
theorem labs_get {vs:List Int} {i:Nat} (hi:i < vs.length):(labs vs).getD i []=label (vs.getD i 0).toNat:=by
 simp [labs,List.getD,hi]
end Go.Proofs.YtnghanpmmbcbbaaGreatDoor
