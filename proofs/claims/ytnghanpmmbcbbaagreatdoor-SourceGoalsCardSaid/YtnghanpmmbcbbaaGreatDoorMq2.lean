/-
  TmMem.
  TmBelow.
  TkMem.
 TmStrip.
 PaKeep.
 SyScan.
 SyPlain.
 PrTok.
 PrFail.
-/
import Derived.Test.YtnghanpmmbcbbaaGreatDoorMq1
import Derived.WalkKit
import Derived.Below
import Derived.Lib.Hide
import Derived.Deep.Draws
import Derived.Deep.Slices
import Derived.ProofKit
import Derived.OpenShut
import Derived.BigQuiet
import Derived.Lib.QuietBelow
import Derived.Test.YtnghanpmmbcbbaaGreatDoorProg
import Derived.Deep.AppendLies
import Derived.Deep.QuietTactic
import Derived.BigRegion
import Derived.Deep.LoopGhost
import Derived.WalkSpells
import Derived.Lib.Strings
namespace Go.Proofs.YtnghanpmmbcbbaaGreatDoor
open Go.ChangeShapes Go.WideShapes Go.ChangeAt Go.RowKit
theorem add_plain (b o k:Nat):(⟨b,o,none⟩:Addr).add k=⟨b,o+k,none⟩:=by unfold Addr.add;split<;>simp_all
theorem below_drewN {B:Nat} {a w:World} (h:Below B a w) (n:Nat):Below B a (w.drewN n):=⟨h.os,h.tape,h.output,h.size,h.block⟩
theorem undrew {B:Nat} {w w':World} (h:Below B w.drew w'):Below B w w':=⟨h.os,h.tape,h.output,h.size,h.block⟩
theorem box4 {w w':World} {v0 v1 v2 v3:Value} {T:TypeId} (hb:Below (w.alloc (.cells #[v0,v1,v2,v3] T)).heap.size (w.alloc (.cells #[v0,v1,v2,v3] T)) w') :
  w'.cell? ⟨w.heap.size,0,none⟩=some v0∧w'.cell? ⟨w.heap.size,1,none⟩=some v1∧w'.cell? ⟨w.heap.size,2,none⟩=some v2∧w'.cell? ⟨w.heap.size,3,none⟩=some v3∧Below w.heap.size w w':=by
 have h:∀j,w'.cell? ⟨w.heap.size,j,none⟩=(#[v0,v1,v2,v3]:Array Value)[j]?:=fun j=>by
  rw [hb.cell (p:=⟨w.heap.size,j,none⟩) (by simp),World.cell?_alloc_at _ _ _ _ rfl]
 exact ⟨h 0,h 1,h 2,h 3,((Below.refl _ _).alloc (Nat.le_refl _) _).trans (hb.mono (by simp))⟩
abbrev Tm.val (t:Tm):Value:=.agg #[.int .i64 t.kind,.int .i64 t.num,.string t.name,.slice t.at_ t.args.length t.cap]
def Tm.cells (t:Tm):List Value:=[.int .i64 t.kind,.int .i64 t.num,.string t.name,.slice t.at_ t.args.length t.cap]
def Fits (n:Int):Prop := -9223372036854775808≤n∧n≤9223372036854775807
mutual
def Tm.At (w:World):Tm→Prop
 | .mk k n s A c a=>(Fits k∧Fits n∧s.size≤maxLen)∧a.length≤c∧c≤maxLen∧(0 < a.length→∃b o,A=some ⟨b,o,none⟩∧RowAt w a b o)
def RowAt (w:World):List Tm→Nat→Nat→Prop
 | [],_,_=>True
 | t :: r,b,o=>(w.cell? ⟨b,o,none⟩=some (.int .i64 t.kind)∧w.cell? ⟨b,o+1,none⟩=some (.int .i64 t.num)∧w.cell? ⟨b,o+2,none⟩=some (.string t.name) ∧
   w.cell? ⟨b,o+3,none⟩=some (.slice t.at_ t.args.length t.cap))∧t.At w∧RowAt w r b (o+4)
end
def Lst (w:World) (A:Option Addr) (l:List Tm) (c:Nat):Prop:=l.length≤c∧c≤maxLen∧(0 < l.length→∃b o,A=some ⟨b,o,none⟩∧RowAt w l b o)
theorem At_iff (w:World) (t:Tm):t.At w↔(Fits t.kind∧Fits t.num∧t.name.size≤maxLen)∧Lst w t.at_ t.args t.cap:=by
 cases t with
 | mk k n s A c a=>simp only [Tm.At,Lst,Tm.kind,Tm.num,Tm.name,Tm.at_,Tm.args,Tm.cap]
theorem RowAt.get {w:World} {l:List Tm} {b o:Nat} (h:RowAt w l b o) {i:Nat} (hi:i < l.length) :
  (w.cell? ⟨b,o+i*4,none⟩=some (.int .i64 (l.getD i default).kind)∧w.cell? ⟨b,o+i*4+1,none⟩=some (.int .i64 (l.getD i default).num)∧w.cell? ⟨b,o+i*4+2,none⟩=some (.string (l.getD i default).name) ∧
   w.cell? ⟨b,o+i*4+3,none⟩=some (.slice (l.getD i default).at_ (l.getD i default).args.length (l.getD i default).cap))∧(l.getD i default).At w:=by
 induction l generalizing o i with
 | nil=>simp at hi
 | cons t r ih =>
  simp only [RowAt] at h
  cases i with
  | zero=>simpa using ⟨h.1,h.2.1⟩
  | succ i =>
   have:=ih h.2.2 (i:=i) (by simpa using hi)
   rw [show o+4+i*4=o+(i+1)*4 by omega] at this
   simpa using this
theorem RowAt.of {w:World} {l:List Tm} {b o:Nat}
  (h:∀i,i < l.length→(∀j u,(l.getD i default).cells[j]?=some u→w.cell? ⟨b,o+4*i+j,none⟩=some u)∧(l.getD i default).At w):RowAt w l b o:=by
 induction l generalizing o with
 | nil=>simp [RowAt]
 | cons t r ih =>
  simp only [RowAt]
  have h0:=h 0 (by simp)
  refine ⟨⟨h0.1 0 _ rfl,h0.1 1 _ rfl,h0.1 2 _ rfl,h0.1 3 _ rfl⟩,h0.2,ih fun i hi=>?_⟩
  have:=h (i+1) (by simpa using hi)
  rw [show o+4*(i+1)=o+4+4*i by omega] at this
  simpa using this
theorem At_keep {w w':World} (hb:Below w.heap.size w w'):(∀t:Tm,t.At w→t.At w')∧(∀(l:List Tm) b o,RowAt w l b o→RowAt w' l b o):=by
 have hc:∀p v,w.cell? p=some v→w'.cell? p=some v:=fun p v h=>by rw [hb.cell (World.block_lt_of_cell? w _ h)];exact h
 refine Tm.induct2 (fun k n s A c a ih h=>?_) (fun _ _ _=>by simp [RowAt]) (fun t r h1 h2 b o h=>?_)
 ·simp only [Tm.At] at h ⊢
  refine ⟨h.1,h.2.1,h.2.2.1,fun hn=>?_⟩
  obtain ⟨b,o,e,hr⟩:=h.2.2.2 hn
  exact ⟨b,o,e,ih b o hr⟩
 ·simp only [RowAt] at h ⊢
  exact ⟨⟨hc _ _ h.1.1,hc _ _ h.1.2.1,hc _ _ h.1.2.2.1,hc _ _ h.1.2.2.2⟩,h1 h.2.1,h2 b (o+4) h.2.2⟩
theorem Tm.At.below {w w':World} {t:Tm} (h:t.At w) (hb:Below w.heap.size w w'):t.At w':=(At_keep hb).1 t h
theorem Lst.below {w w':World} {A:Option Addr} {l:List Tm} {c:Nat} (h:Lst w A l c) (hb:Below w.heap.size w w'):Lst w' A l c :=
 ⟨h.1,h.2.1,fun hn=>by
  obtain ⟨b,o,e,hr⟩:=h.2.2 hn
  exact ⟨b,o,e,(At_keep hb).2 _ _ _ hr⟩⟩
theorem Tm.At.alloc {w:World} {t:Tm} (h:t.At w) (o:Obj):t.At (w.alloc o):=h.below ((Below.refl _ _).alloc (Nat.le_refl _) o)
theorem Tm.At.lst {w:World} {t:Tm} (h:t.At w):Lst w t.at_ t.args t.cap:=((At_iff w t).1 h).2
theorem Lst.get {w:World} {A:Option Addr} {l:List Tm} {c:Nat} (h:Lst w A l c) {i:Nat} (hi:i < l.length):∃b o,A=some ⟨b,o,none⟩ ∧
  (w.cell? ⟨b,o+i*4,none⟩=some (.int .i64 (l.getD i default).kind)∧w.cell? ⟨b,o+i*4+1,none⟩=some (.int .i64 (l.getD i default).num)∧w.cell? ⟨b,o+i*4+2,none⟩=some (.string (l.getD i default).name) ∧
   w.cell? ⟨b,o+i*4+3,none⟩=some (.slice (l.getD i default).at_ (l.getD i default).args.length (l.getD i default).cap))∧(l.getD i default).At w:=by
 obtain ⟨b,o,e,hr⟩:=h.2.2 (by omega)
 exact ⟨b,o,e,hr.get hi⟩
theorem Lst.mem {w:World} {A:Option Addr} {l:List Tm} {c:Nat} (h:Lst w A l c) {t:Tm} (ht:t∈l):t.At w:=by
 obtain ⟨i,hi,e⟩:=List.mem_iff_getElem.1 ht
 obtain ⟨_,_,_,_,h2⟩:=h.get hi
 simpa [List.getD,List.getElem?_eq_getElem hi,e] using h2
theorem Lst.nil (w:World):Lst w none [] 0:=⟨Nat.le_refl _,Nat.zero_le _,fun h=>absurd h (by simp)⟩
theorem Lst.used {w:World} {t:Tm} (h:t.At w) (hk:t.kind=2):Lst w t.at_ t.used t.cap:=by
 unfold Tm.used
 rw [if_pos hk]
 exact h.lst
def Tm.uat (t:Tm):Option Addr:=if t.kind=2 then t.at_ else none
def Tm.ucap (t:Tm):Nat:=if t.kind=2 then t.cap else 0
theorem Tm.At.ulst {w:World} {t:Tm} (h:t.At w):Lst w t.uat t.used t.ucap:=by
 unfold Tm.used Tm.uat Tm.ucap
 by_cases hk:t.kind=2
 ·rw [if_pos hk,if_pos hk,if_pos hk];exact h.lst
 ·rw [if_neg hk,if_neg hk,if_neg hk];exact Lst.nil w
theorem int_fits {x:Int} (h:(Lit.int .i64 x).wf=true):Fits x:=by
 have h1:IntKind.i64.min = -9223372036854775808:=rfl
 have h2:IntKind.i64.max=9223372036854775807:=rfl
 simp only [Lit.wf,Bool.and_eq_true,decide_eq_true_eq] at h
 unfold Fits
 omega
structure Types (P:Program) (I S L T:TypeId):Prop where
 int:P.underlying I=some (.int .i64)
 str:P.underlying S=some .string
 lst:P.underlying L=some (.slice T)
 tm:∃f0 f1 f2 f3:Field,P.underlying T=some (.struct #[f0,f1,f2,f3])∧(f0.type=I∧f0.offset=0)∧(f1.type=I∧f1.offset=1)∧(f2.type=S∧f2.offset=2)∧(f3.type=L∧f3.offset=3)
 cI:P.cellsOf I=1
 cS:P.cellsOf S=1
 cL:P.cellsOf L=1
 cT:P.cellsOf T=4
section
variable {H:Type} {enc:TypeId×Value→H} {P:Program} {W:World} {base:Nat} {spare:Nat→Bool} {held:Bool} {I S L T:TypeId}
theorem lst_of (hy:Types P I S L T) {n:Nat} {v:Value} {x:DataW H×List MemPlace}
  (ih:∀m,m < n→∀cs x,DataW.trod enc P W base spare held m T cs=some x→∃t:Tm,cs=t.cells∧t.At W) (h:DataW.trod enc P W base spare held n L [v]=some x) :
  ∃(A:Option Addr) (l:List Tm) (c:Nat),v=.slice A l.length c∧Lst W A l c:=by
 rcases DataW.trod_slice hy.lst h with ⟨hcs,_⟩|⟨a,len,cap,elems,rest,n',hn,hcs,_,_,hl,hm,hlen,hel,_⟩
 ·obtain rfl:v=.slice none 0 0:=by simpa using hcs
  exact ⟨none,[],0,rfl,Lst.nil W⟩
 ·obtain rfl:v=.slice (some a) len cap:=by simpa using hcs
  obtain ⟨f,hf⟩:=Deep.choose_lt (α:=Tm) (p:=fun i t=>W.cells? base (a.add (i*4)) 4=some t.cells∧t.At W) (n:=len) (fun i hi=>by
   have h1:=hel i hi
   rw [hy.cT,List.getElem?_eq_getElem (by omega)] at h1
   obtain ⟨cs',h2,h3⟩:=Option.bind_eq_some_iff.1 h1
   obtain ⟨t,rfl,ht⟩:=ih n' (by omega) _ _ h3
   exact ⟨t,h2,ht⟩)
  have hll:((List.range len).map f).length=len:=by simp
  refine ⟨some a,(List.range len).map f,cap,by rw [hll],by rw [hll];exact hl,hm,fun h0=>?_⟩
  rw [hll] at h0
  obtain ⟨b,o,sp⟩:=a
  have c0:=(World.cells?_some (hf 0 h0).1).2.2 0 (by omega)
  obtain rfl:sp=none:=by
   rw [show (f 0).cells[0]?=some (.int .i64 (f 0).kind) from rfl] at c0
   simpa [Addr.add] using World.cell?_spot c0
  refine ⟨b,o,rfl,RowAt.of fun i hi=>?_⟩
  rw [hll] at hi
  have e:((List.range len).map f).getD i default=f i:=by simp [List.getD,hi]
  rw [e]
  refine ⟨fun j u hu=>?_,(hf i hi).2⟩
  have hj:j < 4:=by
   have:=(List.getElem?_eq_some_iff.1 hu).1
   simpa [Tm.cells] using this
  have:=(World.cells?_some (hf i hi).1).2.2 j hj
  rw [add_plain,add_plain,hu,Nat.mul_comm i 4] at this
  exact this
theorem tm_of (hy:Types P I S L T):∀(n:Nat) (cs:List Value) (x:DataW H×List MemPlace),DataW.trod enc P W base spare held n T cs=some x→∃t:Tm,cs=t.cells∧t.At W:=by
 intro n
 induction n using Nat.strongRecOn with
 | _ n ih =>
  intro cs x h
  obtain ⟨f0,f1,f2,f3,hT,⟨t0,o0⟩,⟨t1,o1⟩,⟨t2,o2⟩,⟨t3,o3⟩⟩:=hy.tm
  obtain ⟨xs,m,hn,_,hcl,hxl,hg⟩:=DataW.trod_struct hT h
  rw [hy.cT] at hcl
  match cs,hcl with
  | [c0,c1,c2,c3],_ =>
   have hxs:xs.length=4:=hxl
   have g0:=hg 0 f0 rfl
   have g1:=hg 1 f1 rfl
   have g2:=hg 2 f2 rfl
   have g3:=hg 3 f3 rfl
   rw [t0,o0,hy.cI] at g0
   rw [t1,o1,hy.cI] at g1
   rw [t2,o2,hy.cS] at g2
   rw [t3,o3,hy.cL] at g3
   rw [List.getElem?_eq_getElem (by omega)] at g0 g1 g2 g3
   obtain ⟨k,hk,_,wk⟩:=DataW.trod_int hy.int g0
   obtain ⟨q,hq,_,wq⟩:=DataW.trod_int hy.int g1
   obtain ⟨s,hs,_,ws⟩:=DataW.trod_string hy.str g2
   obtain ⟨A,l,c,hv,hl⟩:=lst_of (v:=c3) hy (fun m' hm'=>ih m' (by omega)) g3
   obtain rfl:c0=.int .i64 k:=by simpa using hk
   obtain rfl:c1=.int .i64 q:=by simpa using hq
   obtain rfl:c2=.string s:=by simpa using hs
   subst hv
   exact ⟨.mk k q s A c l,rfl,(At_iff _ _).2 ⟨⟨int_fits wk,int_fits wq,ws⟩,hl⟩⟩
theorem open_lst (hy:Types P I S L T) {n:Nat} {v:Value} {x:DataW H×List MemPlace} (h:DataW.trod enc P W base spare held n L [v]=some x) :
  ∃(A:Option Addr) (l:List Tm) (c:Nat),v=.slice A l.length c∧Lst W A l c:=lst_of hy (fun m _=>tm_of hy m) h
end
end Go.Proofs.YtnghanpmmbcbbaaGreatDoor
namespace Go.Proofs.YtnghanpmmbcbbaaGreatDoor
open Go.RowKit Go.Sort
theorem regrown_below {W w1:World} (h:∃p:Regrown,w1=grow (redrawn W p.d) p.os):Below W.heap.size W w1:=by
 obtain ⟨p,rfl⟩:=h
 exact below_regrown _ _ _
theorem withBelow {P:Program} {f:FuncId} {args:Array Value} {w:World} {v:Value} (h:Calls P f args w fun e w'=>e=.returned v∧w=w'):Calls P f args w fun e w'=>e=.returned v∧Below w.heap.size w w' :=
 h.mono fun _ _ ⟨he,hw⟩=>⟨he,by rw [←hw];exact Below.refl _ _⟩
theorem below1 (w:World) (o:Obj):Below w.heap.size w (w.alloc o):=(Below.refl _ _).alloc (Nat.le_refl _) _
end Go.Proofs.YtnghanpmmbcbbaaGreatDoor
namespace Go.Proofs.YtnghanpmmbcbbaaGreatDoor
open Go.RowKit
theorem keepk {w w':World} (hb:Below w.heap.size w w') {p:Addr} {v:Value} (h:w.cell? p=some v):w'.cell? p=some v:=by
 have hp:p.block < w.heap.size:=by
  rcases Nat.lt_or_ge p.block w.heap.size with h1|h1
  ·exact h1
  ·simp [World.cell?,Array.getElem?_eq_none h1] at h
 rw [hb.cell hp,h]
def kcells (l:List Tk):List Value:=l.flatMap tokC
theorem kcells_len (l:List Tk):(kcells l).length=l.length*3:=by
 induction l with
 | nil=>rfl
 | cons t r ih=>simp only [kcells,List.flatMap_cons,List.length_append,List.length_cons] at *;simp only [tokC,List.length_cons,List.length_nil];omega
theorem kcells_append (l m:List Tk):kcells (l++m)=kcells l++kcells m:=by simp [kcells]
theorem kcells_one (x:Tk):∀v∈tokC x,v.oneCell'=true:=by
 intro v hv
 simp only [tokC,List.mem_cons,List.not_mem_nil,or_false] at hv
 rcases hv with rfl|rfl|rfl<;>rfl
theorem kcells_get (l:List Tk) {i j:Nat} (hi:i < l.length) (hj:j < 3):(kcells l)[i*3+j]?=(tokC (l.getD i default))[j]?:=by
 induction l generalizing i with
 | nil=>simp at hi
 | cons t r ih =>
  have hl:(tokC t).length=3:=rfl
  simp only [kcells,List.flatMap_cons]
  cases i with
  | zero =>
   rw [List.getElem?_append_left (by rw [hl];omega)]
   simp
  | succ i =>
   rw [List.getElem?_append_right (by rw [hl];omega),hl,show (i+1)*3+j - 3=i*3+j by omega]
   simpa [kcells] using ih (by simpa using hi)
theorem token_info:(Tryz.prog.info? 135).map (fun i=>(i.zero,i.size,i.bytes))=some (some (.agg #[.int .i64 0,.int .i64 0,.string ⟨#[]⟩]),3,32):=by kernel_rfl
theorem info_parts {P:Program} {T:TypeId} {z:Value} {n m:Nat} (h:(P.info? T).map (fun i=>(i.zero,i.size,i.bytes))=some (some z,n,m)):∃i,P.info? T=some i∧i.zero=some z∧i.size=n∧i.bytes=m:=by
 obtain ⟨i,hi,e⟩:=Option.map_eq_some_iff.1 h
 simp only [Prod.mk.injEq] at e
 exact ⟨i,hi,e.1,e.2.1,e.2.2⟩
def TLst (w:World) (A:Option Addr) (l:List Tk) (c:Nat):Prop:=l.length≤c∧c≤maxLen∧(0 < l.length→∃g,A=some ⟨g,0,none⟩∧∀i,i < l.length→∀j u,(tokC (l.getD i default))[j]?=some u→w.cell? ⟨g,i*3+j,none⟩=some u)
section
variable {w w':World} {A:Option Addr} {l:List Tk} {c:Nat}
theorem TLst.nil (w:World):TLst w none [] 0:=⟨Nat.le_refl _,Nat.zero_le _,fun h=>absurd h (by simp)⟩
theorem TLst.below (h:TLst w A l c) (hb:Below w.heap.size w w'):TLst w' A l c:=⟨h.1,h.2.1,fun hn=>by
 obtain ⟨g,e,hr⟩:=h.2.2 hn
 exact ⟨g,e,fun i hi j u hu=>keepk hb (hr i hi j u hu)⟩⟩
theorem TLst.get (h:TLst w A l c) {i:Nat} (hi:i < l.length):∃g,A=some ⟨g,0,none⟩ ∧
  w.cell? ⟨g,i*3,none⟩=some (.int .i64 (l.getD i default).1)∧w.cell? ⟨g,i*3+1,none⟩=some (.int .i64 ((l.getD i default).2.1:Int))∧w.cell? ⟨g,i*3+2,none⟩=some (.string (S (l.getD i default).2.2)):=by
 obtain ⟨g,e,hr⟩:=h.2.2 (by omega)
 exact ⟨g,e,hr i hi 0 _ rfl,hr i hi 1 _ rfl,hr i hi 2 _ rfl⟩
end
theorem own_lt {w:World} {base:Nat} {e:TypeId} {size:Nat} {v:Value} {n:Nat} {xs:List Value} (h:w.ownsRow base e size v n xs):∀k,v.ownBlock=some k→base≤k∧k < w.heap.size:=by
 intro k hk
 rcases h.2 with ⟨rfl,_⟩|⟨g,cap,cur,rfl,hb,hg,_⟩
 ·simp [Value.ownBlock] at hk
 ·simp only [Value.ownBlock,Option.some.injEq] at hk
  subst hk
  refine ⟨hb,?_⟩
  rcases Nat.lt_or_ge g w.heap.size with h|h
  ·exact h
  ·rw [Array.getElem?_eq_none h] at hg;cases hg
theorem own_below {w w':World} {base:Nat} {e:TypeId} {size:Nat} {v:Value} {n:Nat} {xs:List Value} (h:w.ownsRow base e size v n xs) (hb:Below w.heap.size w w'):w'.ownsRow base e size v n xs :=
 World.ownsRow.kept (row:=none) h ⟨hb.os,hb.tape,hb.output,hb.size,fun k hk _=>hb.block k hk⟩ (by
  rcases h.2 with ⟨rfl,_⟩|⟨g,cap,cur,rfl,_⟩
  ·exact .inl rfl
  ·exact .inr (by simp [Value.ownBlock]))
def RowK (lo:Nat) (w:World) (z:Value) (acc:List Tk):Prop:=w.ownsRow lo 135 3 z acc.length (kcells acc)
section
variable {lo:Nat} {w w':World} {z:Value} {acc:List Tk}
theorem RowK.nil (lo:Nat) (w:World):RowK lo w (.slice none 0 0) []:=⟨rfl,.inl ⟨rfl,rfl⟩⟩
theorem RowK.below (h:RowK lo w z acc) (hb:Below w.heap.size w w'):RowK lo w' z acc:=own_below h hb
theorem RowK.next {g cap:Nat} {w4:World} {u:Tk}
  (hown:w4.ownsRow lo 135 3 (.slice (some ⟨g,0,none⟩) (acc.length+1) cap) (acc.length+1) (kcells acc++tokC u)) :
  RowK lo w4 (.slice (some ⟨g,0,none⟩) (acc.length+1) cap) (acc++[u]):=by
 unfold RowK
 rw [List.length_append,kcells_append]
 simpa [kcells] using hown
theorem RowK.form (h:RowK lo w z acc):∃A c,z=.slice A acc.length c∧acc.length≤c:=by
 rcases h.2 with ⟨rfl,h1⟩|⟨g,cap,cur,rfl,hb,hg,hle,_⟩
 ·exact ⟨none,0,by rw [h1],by omega⟩
 ·exact ⟨_,cap,rfl,hle⟩
theorem RowK.lies {A:Option Addr} {c n:Nat} (h:RowK lo w (.slice A n c) acc):TLst w A acc c:=by
 have hl:=kcells_len acc
 rcases h.2 with ⟨e,h1⟩|⟨g,cap,cur,e,hb,hg,hle,hcap,hcs,hcur⟩
 ·injection e with e1 _ e3
  obtain rfl:acc=[]:=List.length_eq_zero_iff.1 h1
  rw [e1,e3];exact TLst.nil w
 ·injection e with e1 e2 e3
  subst e1 e2 e3
  refine ⟨hle,hcap,fun _=>⟨g,rfl,fun i hi j u hu=>?_⟩⟩
  have hj:j < 3:=by
   have:=(List.getElem?_eq_some_iff.1 hu).1
   simpa [tokC] using this
  have hc:=World.ownsRow.cellAt h (i*3+j) (by omega)
  rw [hc]
  exact (kcells_get acc hi hj).trans hu
end
theorem knews1 (w:World) (u:Tk) (T:TypeId):∀j v,(tokC u)[j]?=some v→(w.alloc (.cells #[.int .i64 u.1,.int .i64 (u.2.1:Int),.string (S u.2.2)] T)).cell? ((⟨w.heap.size,0,none⟩:Addr).add j)=some v:=by
 intro j v hv
 rw [add_plain,Nat.zero_add,World.cell?_alloc_at _ _ _ _ rfl,← hv,show (#[Value.int .i64 u.1,.int .i64 (u.2.1:Int),.string (S u.2.2)]:Array Value)=(tokC u).toArray from rfl,List.getElem?_toArray]
def fin (acc:List Tk) (r:List Tk×Nat×Int):List Tk×Nat×Int:=if r.2.2≠0 then r else (acc++r.1,0,0)
theorem fin_nil (s:ByteArray):∀(n p:Nat),fin [] (toksAt s n p)=toksAt s n p
 | 0,p=>rfl
 | n+1,p=>by
  unfold fin
  split
  ·rfl
  ·rename_i h
   unfold toksAt at h ⊢
   split at h
   ·rename_i h1;exact absurd h1 h
   ·rename_i h1
    rw [if_neg h1]
    split at h
    ·rename_i h2;rw [if_pos h2];rfl
    ·rename_i h2
     rw [if_neg h2]
     split at h
     ·rename_i h3;exact absurd h3 h
     ·rename_i h3;rw [if_neg h3];rfl
theorem toks_err {s:ByteArray} {n p:Nat} (h:(tokAt s p).2.2≠0):toksAt s (n+1) p=([],(tokAt s p).2.1,(tokAt s p).2.2):=by
 unfold toksAt
 rw [if_pos h]
theorem toks_end {s:ByteArray} {n p:Nat} (h:(tokAt s p).2.2=0) (hk:(tokAt s p).1.1=0):toksAt s (n+1) p=([(tokAt s p).1],0,0):=by
 unfold toksAt
 rw [if_neg (fun h'=>h' h),if_pos hk]
theorem toks_next {s:ByteArray} {n p:Nat} (h:(tokAt s p).2.2=0) (hk:(tokAt s p).1.1≠0):toksAt s (n+1) p=if (toksAt s n (tokAt s p).2.1).2.2≠0 then toksAt s n (tokAt s p).2.1 else ((tokAt s p).1 :: (toksAt s n (tokAt s p).2.1).1,0,0):=by
 conv=>lhs;unfold toksAt
 rw [if_neg (fun h'=>h' h),if_neg hk]
theorem fin_err {s:ByteArray} {n p:Nat} (acc:List Tk) (h:(tokAt s p).2.2≠0):fin acc (toksAt s (n+1) p)=([],(tokAt s p).2.1,(tokAt s p).2.2):=by
 rw [toks_err h,fin,if_pos h]
theorem fin_end {s:ByteArray} {n p:Nat} (acc:List Tk) (h:(tokAt s p).2.2=0) (hk:(tokAt s p).1.1=0):fin acc (toksAt s (n+1) p)=(acc++[(tokAt s p).1],0,0):=by
 rw [toks_end h hk];rfl
theorem fin_next {s:ByteArray} {n p:Nat} (acc:List Tk) (h:(tokAt s p).2.2=0) (hk:(tokAt s p).1.1≠0):fin acc (toksAt s (n+1) p)=fin (acc++[(tokAt s p).1]) (toksAt s n (tokAt s p).2.1):=by
 rw [toks_next h hk]
 unfold fin
 by_cases h3:(toksAt s n (tokAt s p).2.1).2.2≠0
 ·simp [h3]
 ·simp [h3]
theorem tokAt_facts {s:ByteArray} {p:Nat} (hp:p≤s.size) (h:(tokAt s p).2.2=0) :
  (tokAt s p).1.2.1=skipP s p∧(tokAt s p).2.1=skipP s p+(tokAt s p).1.2.2.length∧p≤skipP s p∧(tokAt s p).2.1≤s.size∧((tokAt s p).1.1≠0→0 < (tokAt s p).1.2.2.length)∧((tokAt s p).1.1=0→(tokAt s p).1.2.2=[]∧skipP s p=s.size)∧(tokAt s p).1.2.2 <+: rest s (skipP s p):=by
 obtain ⟨f1,f2,f3⟩:=skipP_facts hp
 by_cases he:(tokL (gap false (rest s p))).2.2≠0
 ·unfold tokAt at h;rw [if_pos he] at h;exact absurd h he
 ·have e:tokAt s p=(((tokL (gap false (rest s p))).1,skipP s p,(tokL (gap false (rest s p))).2.1),skipP s p+(tokL (gap false (rest s p))).2.1.length,0):=by unfold tokAt;rw [if_neg he]
  have he':(tokL (gap false (rest s p))).2.2=0:=Classical.not_not.1 he
  have ht:tokL (gap false (rest s p))=((tokL (gap false (rest s p))).1,(tokL (gap false (rest s p))).2.1,0):=by rw [←he']
  obtain ⟨t1,t2,t3⟩:=tok_head ht
  rw [e]
  refine ⟨rfl,rfl,f1,?_,t2,fun hk=>⟨(t3 hk).2,?_⟩,by rw [f3];exact t1⟩
  ·have:=t1.length_le
   rw [←f3,rest_len] at this
   simp only
   rw [←f3]
   omega
  ·have:=(t3 hk).1
   rw [←f3] at this
   have h5:=rest_len s (skipP s p)
   rw [this] at h5
   simp only [List.length_nil] at h5
   omega
theorem tokAt_in {s:ByteArray} {p:Nat} (hp:p≤s.size):(tokAt s p).2.1≤s.size:=by
 by_cases h:(tokAt s p).2.2=0
 ·exact (tokAt_facts hp h).2.2.2.1
 ·unfold tokAt
  split
  ·exact (skipP_facts hp).2.1
  ·rename_i h1;unfold tokAt at h;rw [if_neg h1] at h;exact absurd rfl h
end Go.Proofs.YtnghanpmmbcbbaaGreatDoor
namespace Go.Proofs.YtnghanpmmbcbbaaGreatDoor
open Go
mutual
def Tm.strip:Tm→Tm
 | .mk k n s _ _ a=>.mk k n s none 0 (stripL a)
def stripL:List Tm→List Tm
 | []=>[]
 | t :: r=>t.strip :: stripL r
end
theorem stripL_map (l:List Tm):stripL l=l.map Tm.strip:=by
 induction l with
 | nil=>rfl
 | cons t r ih=>simp [stripL,ih]
theorem stripL_len (l:List Tm):(stripL l).length=l.length:=by rw [stripL_map,List.length_map]
theorem stripL_append (l m:List Tm):stripL (l++m)=stripL l++stripL m:=by simp [stripL_map]
theorem strip_strip:(∀t:Tm,t.strip.strip=t.strip)∧(∀l,stripL (stripL l)=stripL l):=by
 refine Tm.induct2 (fun k n s A c a ih=>?_) rfl (fun t r h1 h2=>?_)
 ·simp only [Tm.strip,ih]
 ·simp only [stripL,h1,h2]
theorem form_strip:(∀t:Tm,t.strip.form=t.form)∧(∀l,formL (stripL l)=formL l):=by
 refine Tm.induct2 (fun k n s A c a ih=>?_) rfl (fun t r h1 h2=>?_)
 ·simp only [Tm.strip,Tm.form,ih,stripL_len]
 ·simp only [stripL,formL,h1,h2]
theorem size_strip:(∀t:Tm,t.strip.size=t.size)∧(∀l,sizeL (stripL l)=sizeL l):=by
 refine Tm.induct2 (fun k n s A c a ih=>?_) rfl (fun t r h1 h2=>?_)
 ·simp only [Tm.strip,Tm.size,ih]
 ·simp only [stripL,sizeL,h1,h2]
theorem depth_strip:(∀t:Tm,t.strip.depth=t.depth)∧(∀l,depthL (stripL l)=depthL l):=by
 refine Tm.induct2 (fun k n s A c a ih=>?_) rfl (fun t r h1 h2=>?_)
 ·simp only [Tm.strip,Tm.depth,ih]
 ·simp only [stripL,depthL,h1,h2]
theorem cmp_strip:(∀t u:Tm,cmpT t.strip u.strip=cmpT t u)∧(∀l m,cmpL (stripL l) (stripL m)=cmpL l m):=by
 suffices H:(∀t:Tm,∀u:Tm,cmpT t.strip u.strip=cmpT t u)∧(∀l,∀m,cmpL (stripL l) (stripL m)=cmpL l m) from ⟨H.1,H.2⟩
 refine Tm.induct2 (fun k n s A c a ih u=>?_) (fun m=>?_) (fun t r h1 h2 m=>?_)
 ·obtain ⟨k',n',s',A',c',a'⟩:=u
  simp only [Tm.strip,cmpT,Tm.kind,Tm.num,Tm.name,Tm.args,ih,stripL_len]
 ·cases m<;>simp [stripL,cmpL]
 ·cases m with
  | nil=>simp [stripL,cmpL]
  | cons u q=>simp only [stripL,cmpL,h1,h2]
end Go.Proofs.YtnghanpmmbcbbaaGreatDoor
namespace Go.Proofs.YtnghanpmmbcbbaaGreatDoor
open Go.RowKit
structure Kp (R:Nat) (z z':Value) (w w':World):Prop where
 os:w'.os=w.os
 tape:w'.tape=w.tape
 output:w'.output=w.output
 size:w.heap.size≤w'.heap.size
 block:∀k,k < w.heap.size→k≠R→z.ownBlock≠some k→w'.heap[k]?=w.heap[k]?
 own:∀k,z'.ownBlock=some k→z.ownBlock=some k∨w.heap.size≤k
section
variable {R:Nat} {z z1 z2:Value} {a b c w w':World}
theorem Kp.refl (R:Nat) (z:Value) (w:World):Kp R z z w w:=⟨rfl,rfl,rfl,Nat.le_refl _,fun _ _ _ _=>rfl,fun _ h=>.inl h⟩
theorem Kp.trans (h:Kp R z z1 a b) (k:Kp R z1 z2 b c):Kp R z z2 a c:=by
 refine ⟨k.os.trans h.os,k.tape.trans h.tape,k.output.trans h.output,Nat.le_trans h.size k.size,fun i hi hr ho=>?_,fun i hi=>?_⟩
 ·refine (k.block i (Nat.lt_of_lt_of_le hi h.size) hr fun e=>?_).trans (h.block i hi hr ho)
  rcases h.own i e with h1|h1
  ·exact ho h1
  ·omega
 ·rcases k.own i hi with h1|h1
  ·exact h.own i h1
  ·exact .inr (Nat.le_trans h.size h1)
theorem Below.kp (h:Below w.heap.size w w') (R:Nat) (z:Value):Kp R z z w w':=⟨h.os,h.tape,h.output,h.size,fun k hk _ _=>h.block k hk,fun _ h=>.inl h⟩
theorem Kp.drewN (h:Kp R z z1 a w) (n:Nat):Kp R z z1 a (w.drewN n):=⟨h.os,h.tape,h.output,h.size,h.block,h.own⟩
theorem Kp.drew (h:Kp R z z1 a w):Kp R z z1 a w.drew:=⟨h.os,h.tape,h.output,h.size,h.block,h.own⟩
theorem Kp.alloc (h:Kp R z z1 a w) (o:Obj):Kp R z z1 a (w.alloc o):=h.trans (Below.kp ((Below.refl _ _).alloc (Nat.le_refl _) o) R z1)
theorem Kp.set (h:Kp R z z1 a w) (q:Nat) (sp:Option Nat) (v:Value):Kp R z z1 a (w.setCell ⟨R,q,sp⟩ v) :=
 h.trans ⟨rfl,rfl,rfl,by simp [World.setCell],fun k _ hr _=>Below.heap_setCell _ _ _ _ hr,fun _ h=>.inl h⟩
theorem Kp.put (h:Kp R z z1 a w) {p:Addr} (hp:a.heap.size≤p.block) (v:Value):Kp R z z1 a (w.setCell p v) :=
 ⟨h.os,h.tape,h.output,by simpa [World.setCell] using h.size,fun k hk hr ho=>(Below.heap_setCell _ _ _ _ (by omega)).trans (h.block k hk hr ho),h.own⟩
theorem Kp.grown {row:Option Nat} (h:Kp R z z1 a w) (hg:w.grownBy w' row) (hr:∀k,row=some k→a.heap.size≤k):Kp R z z1 a w' :=
 ⟨hg.os.trans h.os,hg.tape.trans h.tape,hg.output.trans h.output,Nat.le_trans h.size hg.size,fun k hk hR ho =>
  (hg.block k (Nat.lt_of_lt_of_le hk h.size) (fun e=>by have:=hr k e.symm;omega)).trans (h.block k hk hR ho),h.own⟩
theorem Kp.cell (h:Kp R z z1 w w') {p:Addr} (hp:p.block < w.heap.size) (hr:p.block≠R) (ho:z.ownBlock≠some p.block):w'.cell? p=w.cell? p:=by
 have:=h.block p.block hp hr ho
 simp only [World.cell?,this]
end
def Agr (lo:Nat) (X:Nat→Prop) (w W:World):Prop:=∀b,lo≤b→b < w.heap.size→¬X b→W.heap[b]?=w.heap[b]?
theorem Agr.refl (lo:Nat) (X:Nat→Prop) (w:World):Agr lo X w w:=fun _ _ _ _=>rfl
theorem Agr.cell {lo:Nat} {X:Nat→Prop} {w W:World} (h:Agr lo X w W) {p:Addr} (h1:lo≤p.block) (h2:p.block < w.heap.size) (h3:¬X p.block):W.cell? p=w.cell? p:=by
 have:=h p.block h1 h2 h3
 simp only [World.cell?,this]
abbrev Own (z:Value):Nat→Prop:=fun k=>z.ownBlock=some k
abbrev Own2 (r z:Value):Nat→Prop:=fun k=>r.ownBlock=some k∨z.ownBlock=some k
def Liv (lo:Nat) (X:Nat→Prop) (w:World) (t:Tm):Prop:=∀W,Agr lo X w W→t.At W
def LivL (lo:Nat) (X:Nat→Prop) (w:World) (A:Option Addr) (l:List Tm) (c:Nat):Prop:=∀W,Agr lo X w W→Lst W A l c
section
variable {lo lo':Nat} {X Y:Nat→Prop} {w w':World} {t:Tm} {A:Option Addr} {l:List Tm} {c:Nat}
theorem Liv.at (h:Liv lo X w t):t.At w:=h w (Agr.refl _ _ _)
theorem LivL.lst (h:LivL lo X w A l c):Lst w A l c:=h w (Agr.refl _ _ _)
theorem Agr.less {W:World} (h:Agr lo X w' W) (hs:w.heap.size≤w'.heap.size) (hc:∀b,lo'≤b→b < w.heap.size→¬Y b→lo≤b∧¬X b∧w'.heap[b]?=w.heap[b]?):Agr lo' Y w W:=fun b h1 h2 h3 =>
 (h b (hc b h1 h2 h3).1 (Nat.lt_of_lt_of_le h2 hs) (hc b h1 h2 h3).2.1).trans (hc b h1 h2 h3).2.2
theorem Liv.less (h:Liv lo' Y w t) (hs:w.heap.size≤w'.heap.size) (hc:∀b,lo'≤b→b < w.heap.size→¬Y b→lo≤b∧¬X b∧w'.heap[b]?=w.heap[b]?):Liv lo X w' t:=fun W hW=>h W (hW.less hs hc)
theorem LivL.less (h:LivL lo' Y w A l c) (hs:w.heap.size≤w'.heap.size) (hc:∀b,lo'≤b→b < w.heap.size→¬Y b→lo≤b∧¬X b∧w'.heap[b]?=w.heap[b]?):LivL lo X w' A l c:=fun W hW=>h W (hW.less hs hc)
theorem Liv.below (h:Liv lo X w t) (k:Below w.heap.size w w'):Liv lo X w' t:=h.less k.size fun b h1 h2 h3=>⟨h1,h3,k.block b h2⟩
theorem LivL.below (h:LivL lo X w A l c) (k:Below w.heap.size w w'):LivL lo X w' A l c:=h.less k.size fun b h1 h2 h3=>⟨h1,h3,k.block b h2⟩
theorem Liv.alloc (h:Liv lo X w t) (o:Obj):Liv lo X (w.alloc o) t:=h.below ((Below.refl _ _).alloc (Nat.le_refl _) o)
theorem LivL.alloc (h:LivL lo X w A l c) (o:Obj):LivL lo X (w.alloc o) A l c:=h.below ((Below.refl _ _).alloc (Nat.le_refl _) o)
theorem Liv.drewN (h:Liv lo X w t) (n:Nat):Liv lo X (w.drewN n) t:=h
theorem LivL.drewN (h:LivL lo X w A l c) (n:Nat):LivL lo X (w.drewN n) A l c:=h
theorem Liv.low (h:Liv lo X w t) (hl:lo'≤lo):Liv lo' X w t:=h.less (Nat.le_refl _) fun b h1 _ h3=>⟨by omega,h3,rfl⟩
theorem LivL.low (h:LivL lo X w A l c) (hl:lo'≤lo):LivL lo' X w A l c:=h.less (Nat.le_refl _) fun b h1 _ h3=>⟨by omega,h3,rfl⟩
theorem Liv.out (h:Liv lo Y w t) (hY:∀b,lo≤b→b < w.heap.size→X b→Y b):Liv lo X w t:=h.less (Nat.le_refl _) fun b h1 h2 h3=>⟨h1,fun hx=>h3 (hY b h1 h2 hx),rfl⟩
theorem LivL.out (h:LivL lo Y w A l c) (hY:∀b,lo≤b→b < w.heap.size→X b→Y b):LivL lo X w A l c:=h.less (Nat.le_refl _) fun b h1 h2 h3=>⟨h1,fun hx=>h3 (hY b h1 h2 hx),rfl⟩
theorem Liv.set (h:Liv lo X w t) {p:Addr} (hp:p.block < lo∨X p.block) (v:Value):Liv lo X (w.setCell p v) t:=h.less (by simp [World.setCell]) fun b h1 _ h3=>⟨h1,h3,Below.heap_setCell _ _ _ _ (fun e=>hp.elim (fun h=>by omega) (fun h=>h3 (e ▸ h)))⟩
theorem LivL.set (h:LivL lo X w A l c) {p:Addr} (hp:p.block < lo∨X p.block) (v:Value):LivL lo X (w.setCell p v) A l c:=h.less (by simp [World.setCell]) fun b h1 _ h3=>⟨h1,h3,Below.heap_setCell _ _ _ _ (fun e=>hp.elim (fun h=>by omega) (fun h=>h3 (e ▸ h)))⟩
theorem Liv.any (ht:∀W,t.At W):Liv lo X w t:=fun W _=>ht W
variable {R:Nat} {z z':Value}
theorem Liv.kp (h:Liv lo (Own z) w t) (k:Kp R z z' w w') (hR:R < lo):Liv lo (Own z') w' t:=h.less k.size fun b h1 h2 h3=>⟨h1,fun e=>(k.own b e).elim h3 (fun h=>by omega),k.block b h2 (by omega) h3⟩
theorem LivL.kp (h:LivL lo (Own z) w A l c) (k:Kp R z z' w w') (hR:R < lo):LivL lo (Own z') w' A l c:=h.less k.size fun b h1 h2 h3=>⟨h1,fun e=>(k.own b e).elim h3 (fun h=>by omega),k.block b h2 (by omega) h3⟩
end
def pcells (l:List Tm):List Value:=l.flatMap Tm.cells
theorem pcell_len (t:Tm):t.cells.length=4:=rfl
theorem pcells_length (l:List Tm):(pcells l).length=l.length*4:=by
 induction l with
 | nil=>rfl
 | cons t r ih=>simp only [pcells,List.flatMap_cons,List.length_append,pcell_len,List.length_cons] at *;omega
theorem pcells_one (l:List Tm):∀u∈pcells l,u.oneCell'=true:=by
 intro u hu
 obtain ⟨t,_,ht⟩:=List.mem_flatMap.1 hu
 simp only [Tm.cells,List.mem_cons,List.not_mem_nil,or_false] at ht
 rcases ht with rfl|rfl|rfl|rfl<;>rfl
theorem pcells_get (l:List Tm) {i j:Nat} (hi:i < l.length) (hj:j < 4):(pcells l)[4*i+j]?=(l.getD i default).cells[j]?:=by
 induction l generalizing i with
 | nil=>simp at hi
 | cons t r ih =>
  simp only [pcells,List.flatMap_cons]
  cases i with
  | zero =>
   rw [List.getElem?_append_left (by rw [pcell_len];omega)]
   simp
  | succ i =>
   rw [List.getElem?_append_right (by rw [pcell_len];omega),pcell_len,show 4*(i+1)+j - 4=4*i+j by omega]
   simpa [pcells] using ih (by simpa using hi)
theorem own_of {w w':World} {base:Nat} {e:TypeId} {size:Nat} {v:Value} {n:Nat} {xs:List Value} (h:w.ownsRow base e size v n xs) (hb:∀k,v.ownBlock=some k→w'.heap[k]?=w.heap[k]?):w'.ownsRow base e size v n xs:=by
 refine ⟨h.1,?_⟩
 rcases h.2 with hn|⟨g,cap,cur,rfl,hb1,hgg,rest⟩
 ·exact .inl hn
 ·exact .inr ⟨g,cap,cur,rfl,hb1,by rw [hb g rfl];exact hgg,rest⟩
structure RowP (lo:Nat) (w:World) (z r:Value) (acc:List Tm):Prop where
 row:w.ownsRow lo 69 4 r acc.length (pcells acc)
 apart:∀k,r.ownBlock=some k→z.ownBlock≠some k
 each:∀x∈acc,Liv lo (Own2 r z) w x
theorem RowP.kp {lo R:Nat} {w w':World} {z z' r:Value} {acc:List Tm} (h:RowP lo w z r acc) (k:Kp R z z' w w') (hR:R < lo):RowP lo w' z' r acc:=by
 have hlt:=own_lt h.row
 refine ⟨own_of h.row fun j hj=>k.block j (hlt j hj).2 (by have:=(hlt j hj).1;omega) (h.apart j hj),fun j hj e=>?_,fun x hx=>(h.each x hx).less k.size fun b h1 h2 h3=>?_⟩
 ·rcases k.own j e with h1|h1
  ·exact h.apart j hj h1
  ·have:=(hlt j hj).2;omega
 ·refine ⟨h1,fun e=>?_,k.block b h2 (by omega) (fun e=>h3 (.inr e))⟩
  rcases e with e|e
  ·exact h3 (.inl e)
  ·rcases k.own b e with h4|h4
   ·exact h3 (.inr h4)
   ·omega
theorem RowP.nil (lo:Nat) (w:World) (z:Value):RowP lo w z (.slice none 0 0) []:=⟨⟨rfl,.inl ⟨rfl,rfl⟩⟩,fun k hk=>(by cases hk),fun x hx=>(by cases hx)⟩
theorem pcells_append (l m:List Tm):pcells (l++m)=pcells l++pcells m:=by simp [pcells]
theorem RowP.next {lo g cap:Nat} {w2 w3 w4:World} {z r:Value} {acc:List Tm} {u:Tm} (h:RowP lo w2 z r acc) (hz:∀k,z.ownBlock=some k→k < w2.heap.size) (hu:Liv lo (Own2 r z) w2 u) (hb:Below w2.heap.size w2 w3)
  (hown:w4.ownsRow lo 69 4 (.slice (some ⟨g,0,none⟩) (acc.length+1) cap) (acc.length+1) (pcells acc++u.cells)) (hg:w3.grownBy w4 r.ownBlock) (hat:r.ownBlock=some g∨g=w3.heap.size) :
  RowP lo w4 z (.slice (some ⟨g,0,none⟩) (acc.length+1) cap) (acc++[u]):=by
 refine ⟨by rw [List.length_append,pcells_append];simpa [pcells] using hown,fun k hk e=>?_,fun x hx=>?_⟩
 ·have e':g=k:=by simpa [Value.ownBlock] using hk
  subst e'
  rcases hat with h1|h1
  ·exact h.apart g h1 e
  ·have:=hz g e;have:=hb.size;omega
 have hx2:Liv lo (Own2 r z) w2 x:=by
  rcases List.mem_append.1 hx with hx|hx
  ·exact h.each x hx
  ·rw [List.mem_singleton.1 hx];exact hu
 refine (hx2.below hb).less hg.size fun b h1 h2 h3=>⟨h1,fun e=>?_,hg.block b h2 (fun e=>h3 (.inl e.symm))⟩
 rcases e with e|e
 ·have e':g=b:=by simpa [Value.ownBlock] using e
  rcases hat with h|h
  ·exact h3 (.inl (by rw [h,e']))
  ·omega
 ·exact h3 (.inr e)
theorem RowP.lst {lo:Nat} {w:World} {z r:Value} {acc:List Tm} (h:RowP lo w z r acc) (h0:0 < acc.length):∃g c,r=.slice (some ⟨g,0,none⟩) acc.length c∧LivL lo (Own z) w (some ⟨g,0,none⟩) acc c:=by
 rcases h.row.2 with ⟨_,h1⟩|⟨g,cap,cur,rfl,hb,hg,hle,hcap,hcs,hcur⟩
 ·omega
 ·have hlt:=own_lt h.row g rfl
  have hap:=h.apart g rfl
  have hl:=pcells_length acc
  refine ⟨g,cap,rfl,fun W hW=>⟨hle,hcap,fun _=>⟨g,0,rfl,RowAt.of fun i hi=>⟨fun j u hu=>?_,?_⟩⟩⟩⟩
  ·have hj:j < 4:=by
    have:=(List.getElem?_eq_some_iff.1 hu).1
    simpa [Tm.cells] using this
   rw [hW.cell (p:=⟨g,0+4*i+j,none⟩) hlt.1 hlt.2 hap]
   have hc:=World.ownsRow.cellAt h.row (4*i+j) (by omega)
   rw [Nat.zero_add,hc]
   exact (pcells_get acc hi hj).trans hu
  ·exact h.each _ (getD_mem hi) W fun b h1 h2 h3=>hW b h1 h2 (fun h=>h3 (.inr h))
def nmC (ns:List (List UInt8)):List Value:=ns.map fun x=>.string (S x)
structure Pr (w:World) (R:Nat) (A:Option Addr) (c:Nat) (l:List Tk) (i:Nat) (z:Value) (ns:List (List UInt8)) (at_:Nat) (er:Int):Prop where
 lt:R < w.heap.size
 l0:w.cell? ⟨R,0,none⟩=some (.slice A l.length c)
 l1:w.cell? ⟨R,1,none⟩=some (.int .i64 (i:Int))
 l2:w.cell? ⟨R,2,none⟩=some z
 l3:w.cell? ⟨R,3,none⟩=some (.int .i64 (at_:Int))
 l4:w.cell? ⟨R,4,none⟩=some (.int .i64 er)
 fr:∀j,w.frozen? ⟨R,j,none⟩=false
 toks:TLst w A l c
 low:∀g,A=some ⟨g,0,none⟩→g < R
 ilt:i < l.length
 own:w.ownsRow (R+1) 9 1 z ns.length (nmC ns)
section
variable {w w':World} {R:Nat} {A:Option Addr} {c:Nat} {l:List Tk} {i:Nat} {z:Value} {ns:List (List UInt8)} {at_:Nat} {er:Int}
theorem Pr.of (h:Pr w R A c l i z ns at_ er) (hs:w.heap.size≤w'.heap.size) (hb:∀k,k < w.heap.size→(k≤R∨z.ownBlock=some k)→w'.heap[k]?=w.heap[k]?):Pr w' R A c l i z ns at_ er:=by
 have hR:=hb R h.lt (.inl (Nat.le_refl _))
 have hc:∀j,w'.cell? ⟨R,j,none⟩=w.cell? ⟨R,j,none⟩:=fun j=>World.cell?_of_block hR
 refine ⟨Nat.lt_of_lt_of_le h.lt hs,by rw [hc,h.l0],by rw [hc,h.l1],by rw [hc,h.l2],by rw [hc,h.l3],by rw [hc,h.l4],fun j=>by rw [World.frozen?_of_block (a:=⟨R,j,none⟩) hR];exact h.fr j,?_,h.low,h.ilt,own_of h.own fun k hk=>hb k (own_lt h.own k hk).2 (.inr hk)⟩
 refine ⟨h.toks.1,h.toks.2.1,fun hn=>?_⟩
 obtain ⟨g,e,hr⟩:=h.toks.2.2 hn
 have hg:=h.low g e
 have hlt:=h.lt
 exact ⟨g,e,fun i hi j u hu=>by rw [World.cell?_of_block (a:=⟨g,i*3+j,none⟩) (hb g (by omega) (.inl (by omega)))];exact hr i hi j u hu⟩
theorem Pr.below (h:Pr w R A c l i z ns at_ er) (hb:Below w.heap.size w w'):Pr w' R A c l i z ns at_ er:=h.of hb.size fun k hk _=>hb.block k hk
theorem Pr.drewN (h:Pr w R A c l i z ns at_ er) (n:Nat):Pr (w.drewN n) R A c l i z ns at_ er:=h.of (Nat.le_refl _) fun _ _ _=>rfl
theorem Pr.drew (h:Pr w R A c l i z ns at_ er):Pr w.drew R A c l i z ns at_ er:=h.of (Nat.le_refl _) fun _ _ _=>rfl
theorem Pr.alloc (h:Pr w R A c l i z ns at_ er) (o:Obj):Pr (w.alloc o) R A c l i z ns at_ er:=h.below ((Below.refl _ _).alloc (Nat.le_refl _) o)
theorem Pr.put (h:Pr w R A c l i z ns at_ er) {p:Addr} (hp:R < p.block) (hz:z.ownBlock≠some p.block) (v:Value):Pr (w.setCell p v) R A c l i z ns at_ er :=
 h.of (by simp [World.setCell]) fun k _ hk=>Below.heap_setCell _ _ _ _ (fun e=>hk.elim (fun h=>by omega) (fun h=>hz (e ▸ h)))
theorem Pr.grown {row:Option Nat} (h:Pr w R A c l i z ns at_ er) (hg:w.grownBy w' row) (hr:∀k,row=some k→R < k∧z.ownBlock≠some k):Pr w' R A c l i z ns at_ er :=
 h.of hg.size fun k hk ho=>hg.block k hk fun e=>by
  obtain ⟨h1,h2⟩:=hr k e.symm
  exact ho.elim (fun h=>by omega) h2
theorem Pr.apart (h:Pr w R A c l i z ns at_ er):∀k,z.ownBlock=some k→R < k∧k < w.heap.size:=own_lt h.own
theorem Pr.tok (h:Pr w R A c l i z ns at_ er):∃g,A=some ⟨g,0,none⟩∧w.cell? ⟨g,i*3,none⟩=some (.int .i64 (l.getD i default).1)∧w.cell? ⟨g,i*3+1,none⟩=some (.int .i64 ((l.getD i default).2.1:Int))∧w.cell? ⟨g,i*3+2,none⟩=some (.string (S (l.getD i default).2.2)):=h.toks.get h.ilt
end
end Go.Proofs.YtnghanpmmbcbbaaGreatDoor
namespace Go.Proofs.YtnghanpmmbcbbaaGreatDoor
open Go
abbrev Tok:=Int×List UInt8×Bool
def scanG:Nat→List UInt8→List UInt8→Option (List Tok)
 | 0,_,_=>some []
 | n+1,prev,l =>
  let g:=gap false l
  let t:=tokL g
  if t.2.2≠0 then none
  else if t.1=0 then some [(0,[],false)]
  else (scanG n t.2.1 (g.drop t.2.1.length)).map fun r=>(t.1,t.2.1,(t.1==3&&(prev==[45]&&g.length==l.length))) :: r
theorem scanG_err {n:Nat} {prev l t:List UInt8} {k e:Int} (h:tokL (gap false l)=(k,t,e)) (he:e≠0):scanG (n+1) prev l=none:=by
 unfold scanG;simp [h,he]
theorem scanG_end {n:Nat} {prev l t:List UInt8} (h:tokL (gap false l)=(0,t,0)):scanG (n+1) prev l=some [(0,[],false)]:=by
 unfold scanG;simp [h]
theorem scanG_next {n:Nat} {prev l t:List UInt8} {k:Int} (h:tokL (gap false l)=(k,t,0)) (hk:k≠0) :
  scanG (n+1) prev l=(scanG n t ((gap false l).drop t.length)).map fun r=>(k,t,(k==3&&(prev==[45]&&(gap false l).length==l.length))) :: r:=by
 conv=>lhs;unfold scanG
 simp [h,hk]
theorem symP_line {l r:List UInt8} {c:UInt8} (hc:spcB c=true):symP (l++c :: r)=symP l:=by
 obtain ⟨h1,h2,h3⟩:=symP_facts l
 obtain ⟨g1,g2,g3⟩:=symP_facts (l++c :: r)
 have hno:∀y∈syms,c∉y:=fun y hy hm=>by
  have:=(sym_bytes y hy c hm).1
  rw [hc] at this;cases this
 have hp:symP (l++c :: r) <+: l:=by
  rcases g1 with g1|g1
  ·rw [g1];exact List.nil_prefix
  ·exact pre_of g2 (hno _ g1)
 rcases g1 with g1|g1
 ·rcases h1 with h1|h1
  ·rw [g1,h1]
  ·have:=g3 _ h1 (h2.trans (List.prefix_append _ _))
   rw [g1] at this
   have h5:=(show ∀y∈syms,0 < y.length by decide) _ h1
   simp only [List.length_nil] at this
   omega
 ·exact (symP_unique g1 hp fun y hy hyp=>g3 y hy (hyp.trans (List.prefix_append _ _))).symm
theorem sym_minus (y:List UInt8):symP (45 :: y)=[45]:=by
 refine symP_unique (by decide) (by simp) fun x hx hp=>?_
 have:∀x∈syms,x.head?=some 45→x.length≤1:=by decide
 refine this x hx ?_
 cases x with
 | nil=>exact absurd hx (by decide)
 | cons a x =>
  obtain ⟨z,hz⟩:=hp
  simp only [List.cons_append,List.cons.injEq] at hz
  rw [hz.1];rfl
theorem tok_minus (y:List UInt8):tokL (45 :: y)=(4,[45],0):=by
 unfold tokL
 simp only
 rw [sym_minus,if_neg (by decide),if_neg (by decide),if_neg (by simp)]
def SepIn (sep:List UInt8):Prop:=∀s,gap false (sep++s)=gap false s
def spreadT (l:List (List UInt8×Tok)):List UInt8:=l.flatMap fun x=>x.1++x.2.2.1
def Spread:List UInt8→List (List UInt8×Tok)→Prop
 | _,[]=>False
 | _,[(sep,k,t,f)]=>SepOk sep∧k=0∧t=[]∧f=false
 | prev,(sep,k,t,f) :: r=>k≠0∧(∃l,tokL l=(k,t,0))∧((f=false∧SepOk sep)∨(f=true∧sep=[]∧k=3∧prev=[45]))∧Spread t r
def TokOk:Tok→Prop:=fun t=>t.1=0∨∃l,tokL l=(t.1,t.2.1,0)
end Go.Proofs.YtnghanpmmbcbbaaGreatDoor
namespace Go.Proofs.YtnghanpmmbcbbaaGreatDoor
open Go
inductive PS (α:Type) where
 | ok (v:α) (ts:List Tok) (ns:List (List UInt8))
 | err (left:Nat) (e:Int)
abbrev Rd1 (α:Type):=List Tok→List (List UInt8)→PS α
def isS (s:List UInt8):List Tok→Bool
 | []=>false
 | (k,t,_) :: _=>k==4&&t==s
def isW (s:List UInt8):List Tok→Bool
 | []=>false
 | (k,t,_) :: _=>k==1&&t==s
def wantS (s:List UInt8) {α:Type} (v:α):Rd1 α:=fun ts ns=>if isS s ts then .ok v ts.tail ns else .err ts.length 16
def intS (n:Int):Tm:=.mk 0 n ⟨#[]⟩ none 0 []
def varS (n:Nat):Tm:=.mk 1 (n:Int) ⟨#[]⟩ none 0 []
def funS (s:List UInt8) (l:List Tm):Tm:=.mk 2 0 ⟨s.toArray⟩ none 0 l
def nameS (t:List UInt8) (ns:List (List UInt8)):Nat×List (List UInt8) :=
 if t≠[95]∧t∈ns then (ns.idxOf t,ns) else (ns.length,ns++[t])
def argsS (ex:Rd1 Tm) (acc:List Tm) (ts:List Tok) (ns:List (List UInt8)):PS (List Tm) :=
 match ex ts.tail ns with
 | .err l e=>.err l e
 | .ok x r ns2=>if isS [44] r then (if _h:r.length < ts.length then argsS ex (acc++[x]) r ns2 else .err 0 0) else wantS [41] (acc++[x]) r ns2
termination_by ts.length
def nmS:Rd1 (List UInt8):=fun ts ns =>
 match ts with
 | []=>.err 0 0
 | (k,t,_) :: r=>if k≠1 then .err ts.length 16 else if resB t then .err ts.length 7 else .ok t r ns
def atomS (ex:Rd1 Tm):Rd1 (List UInt8×List Tm):=fun ts ns =>
 match nmS ts ns with
 | .err l e=>.err l e
 | .ok t r ns1=>if isS [40] r then (match argsS ex [] r ns1 with
   | .ok l r2 ns2=>.ok (t,l) r2 ns2
   | .err l e=>.err l e) else .ok (t,[]) r ns1
def opndS (ex:Rd1 Tm):Rd1 Tm:=fun ts ns =>
 match ts with
 | []=>.err 0 0
 | (k,t,_) :: r =>
  if k=3 then .ok (intS (valD t)) r ns
  else if k=2 then .ok (varS (nameS t ns).1) r (nameS t ns).2
  else if k=1 then (match atomS ex ts ns with
   | .ok x r2 ns2=>.ok (funS x.1 x.2) r2 ns2
   | .err l e=>.err l e)
  else if isS [45] ts then (match r with
   | []=>.err 0 0
   | (k2,t2,g2) :: r2=>if k2=3∧g2=true then .ok (intS (-valD t2)) r2 ns else .err r.length 16)
  else if isS [40] ts then (match ex r ns with
   | .ok x r2 ns2=>wantS [41] x r2 ns2
   | .err l e=>.err l e)
  else .err ts.length 16
def chainS (ops:List (List UInt8)) (o:Rd1 Tm) (x:Tm) (ts:List Tok) (ns:List (List UInt8)):PS Tm :=
 match ts with
 | []=>.ok x [] ns
 | (k,t,g) :: r=>if k=4∧t∈ops then (match o r ns with
   | .ok y r2 ns2=>if _h:r2.length < ((k,t,g) :: r).length then chainS ops o (funS t [x,y]) r2 ns2 else .err 0 0
   | .err l e=>.err l e) else .ok x ((k,t,g) :: r) ns
termination_by ts.length
def levelS (ops:List (List UInt8)) (o:Rd1 Tm):Rd1 Tm:=fun ts ns =>
 match o ts ns with
 | .ok x r ns2=>chainS ops o x r ns2
 | .err l e=>.err l e
def mulS:List (List UInt8):=[[42],[47],[37]]
def addS:List (List UInt8):=[[43],[45]]
def exprS:Nat→Rd1 Tm
 | 0=>fun _ _=>.err 0 0
 | n+1=>levelS addS (levelS mulS (opndS (exprS n)))
abbrev Gs:=Int×List UInt8×List Tm
def cmpS:List Tok→Int×Bool
 | []=>(0,false)
 | (k,t,_) :: _ =>
  if k=1∧t=[105,115] then (4,false)
  else if k≠4 then (0,false)
  else if t=[61] then (3,false)
  else if t=[61,61] then (5,false)
  else if t=[92,61] then (6,false)
  else if t=[60] then (7,false)
  else if t=[61,60] then (8,false)
  else if t=[62] then (7,true)
  else if t=[62,61] then (8,true)
  else if t=[61,58,61] then (9,false)
  else if t=[61,92,61] then (10,false)
  else (0,false)
def goalS (ex:Rd1 Tm):Rd1 Gs:=fun ts ns =>
 match ts with
 | []=>.err 0 0
 | (k,t,_) :: r =>
  if k=1∧resB t=true then
   if t=[116,114,117,101] then .ok (1,[],[]) r ns
   else if t=[102,97,105,108] then .ok (2,[],[]) r ns
   else if t=[105,110,116]∨t=[103,114,111,117,110,100] then
    (if isS [40] r then (match ex r.tail ns with
     | .ok x r2 ns2=>wantS [41] (if t=[105,110,116] then 11 else 12,[],[x]) r2 ns2
     | .err l e=>.err l e) else .err r.length 16)
   else .err ts.length 7
  else (match ex ts ns with
   | .err l e=>.err l e
   | .ok x r2 ns2 =>
    if (cmpS r2).1=0 then (if k=1∧x.name.data.toList=t then .ok (0,t,x.args) r2 ns2 else .err r2.length 16)
    else (match ex r2.tail ns2 with
     | .ok y r3 ns3=>.ok ((cmpS r2).1,[],if (cmpS r2).2 then [y,x] else [x,y]) r3 ns3
     | .err l e=>.err l e))
def rightT (l:List Tm):Bool:=formL l&&(decide (sizeL l≤200)&&decide (depthL l≤20))
def rightA (s:List UInt8) (l:List Tm):Bool:=rightB s&&(decide (l.length≤6)&&rightT l)
def arityS (op:Int):Int:=if op=1∨op=2 then 0 else if op=11∨op=12 then 1 else if 2 < op∧op < 11 then 2 else -1
def rightG (g:Gs):Bool:=if g.1=0 then rightA g.2.1 g.2.2 else decide (g.2.1=[])&&(decide ((g.2.2.length:Int)=arityS g.1)&&rightT g.2.2)
def goalsS (ex:Rd1 Tm) (most:Nat) (acc:List Gs) (ts:List Tok) (ns:List (List UInt8)):PS (List Gs) :=
 if most≤acc.length then .err ts.length 6
 else match goalS ex ts ns with
  | .err l e=>.err l e
  | .ok g r ns2 =>
   if rightG g=false then .err ts.length 6
   else if isS [44] r then (if _h:r.tail.length < ts.length then goalsS ex most (acc++[g]) r.tail ns2 else .err 0 0)
   else .ok (acc++[g]) r ns2
termination_by ts.length
decreasing_by exact _h
abbrev As:=List UInt8×List Tm
def headsS (ex:Rd1 Tm) (before:Nat) (acc:List As) (ts:List Tok) (ns:List (List UInt8)):PS (List As) :=
 if 4≤before+acc.length then .err ts.length 6
 else match atomS ex ts ns with
  | .err l e=>.err l e
  | .ok a r ns2 =>
   if rightA a.1 a.2=false then .err ts.length 6
   else if isS [44] r then (if _h:r.tail.length < ts.length then headsS ex before (acc++[a]) r.tail ns2 else .err 0 0)
   else .ok (acc++[a]) r ns2
termination_by ts.length
decreasing_by exact _h
structure Rs where
 name:List UInt8
 keep:List As
 remove:List As
 guard:List Gs
 body:List Gs
 vars:Nat
def bothS (ex:Rd1 Tm):Rd1 (List As×List As):=fun ts ns =>
 match headsS ex 0 [] ts ns with
 | .err l e=>.err l e
 | .ok h r ns2 =>
  if isS [60,61,62] r then .ok ([],h) r.tail ns2
  else if isS [61,61,62] r then .ok (h,[]) r.tail ns2
  else if isS [92] r then (match headsS ex h.length [] r.tail ns2 with
   | .err l e=>.err l e
   | .ok h2 r2 ns3=>if isS [60,61,62] r2 then .ok (h,h2) r2.tail ns3 else .err r2.length 16)
  else .err r.length 16
def goals2S (ex:Rd1 Tm):Rd1 (List Gs×List Gs):=fun ts ns =>
 match goalsS ex 12 [] ts ns with
 | .err l e=>.err l e
 | .ok b r ns2 =>
  if isS [124] r then (match goalsS ex 12 [] r.tail ns2 with
   | .err l e=>.err l e
   | .ok b2 r2 ns3=>wantS [46] (b,b2) r2 ns3)
  else wantS [46] ([],b) r ns2
def labelS:Rd1 (List UInt8):=fun ts ns =>
 match ts with
 | []=>.ok [] ts ns
 | (k,_,_) :: r=>if k=1∧isS [64] r=true then (match nmS ts ns with
   | .ok t r2 ns2=>.ok t r2.tail ns2
   | .err l e=>.err l e) else .ok [] ts ns
def bodyS (b:List Gs):List Gs:=match b with
 | [g]=>if g.1=1 then [] else b
 | _=>b
def partsS (ex:Rd1 Tm):Rd1 Rs:=fun ts ns =>
 match labelS ts ns with
 | .err l e=>.err l e
 | .ok t r ns1=>match bothS ex r ns1 with
  | .err l e=>.err l e
  | .ok h r2 ns2=>match goals2S ex r2 ns2 with
   | .err l e=>.err l e
   | .ok g r3 ns3=>.ok ⟨t,h.1,h.2,g.1,bodyS g.2,0⟩ r3 ns3
def Rs.terms (r:Rs):List Tm:=r.keep.flatMap (·.2)++(r.remove.flatMap (·.2)++(r.guard.flatMap (·.2.2)++r.body.flatMap (·.2.2)))
mutual
def Tm.num2 (f:Int→Int):Tm→Tm
 | .mk k n s _ _ a=>.mk k (if k=1 then f n else n) s none 0 (numL2 f a)
def numL2 (f:Int→Int):List Tm→List Tm
 | []=>[]
 | t :: r=>t.num2 f :: numL2 f r
end
def placeS (vs:List Int) (n:Int):Int:=if n∈vs then (vs.idxOf n:Int) else -1
def As.num2 (f:Int→Int) (a:As):As:=(a.1,numL2 f a.2)
def Gs.num2 (f:Int→Int) (g:Gs):Gs:=(g.1,g.2.1,numL2 f g.2.2)
def putS (l:List Int) (x:Int):List Int:=if x∈l then l else l++[x]
def orderS (l:List Tm):List Int:=(occL l).foldl putS []
def numberS (r:Rs):Rs :=
 let f:=placeS (orderS r.terms)
 ⟨r.name,r.keep.map (As.num2 f),r.remove.map (As.num2 f),r.guard.map (Gs.num2 f),r.body.map (Gs.num2 f),(orderS r.terms).length⟩
def ruleS (ex:Rd1 Tm):List Tok→PS Rs:=fun ts =>
 match partsS ex ts [] with
 | .err l e=>.err l e
 | .ok r ts2 ns=>.ok (numberS r) ts2 ns
def declsS (acc:List (List UInt8×Int)) (ts:List Tok):PS (List (List UInt8×Int)) :=
 if 30≤acc.length then .err ts.tail.length 6
 else match nmS ts.tail [] with
  | .err l e=>.err l e
  | .ok t r _=>match wantS [47] t r [] with
   | .err l e=>.err l e
   | .ok _ r2 _=>match r2 with
    | []=>.err 0 0
    | (k,d,_) :: r3=>if k≠3 then .err r2.length 16 else if 6 < valD d then .err r2.length 6
      else if isS [44] r3 then (if _h:r3.length < ts.length then declsS (acc++[(t,valD d)]) r3 else .err 0 0) else wantS [46] (acc++[(t,valD d)]) r3 []
termination_by ts.length
def allDecls (acc:List (List UInt8×Int)) (ts:List Tok):PS (List (List UInt8×Int)) :=
 if isW [99,111,110,115,116,114,97,105,110,116] ts then
  match declsS acc ts with
  | .ok l r _=>if _h:r.length < ts.length then allDecls l r else .err 0 0
  | .err l e=>.err l e
 else .ok acc ts []
termination_by ts.length
def rulesS (ex:Rd1 Tm) (acc:List Rs) (ts:List Tok):PS (List Rs) :=
 match ts with
 | []=>.err 0 0
 | (k,t,g) :: r =>
  if k=0 then .ok acc ((k,t,g) :: r) []
  else if 40≤acc.length then .err ((k,t,g) :: r).length 6
  else match ruleS ex ((k,t,g) :: r) with
   | .ok x r2 _=>if _h:r2.length < ((k,t,g) :: r).length then rulesS ex (acc++[x]) r2 else .err 0 0
   | .err l e=>.err l e
termination_by ts.length
def programS (ex:Rd1 Tm) (ts:List Tok):PS (List (List UInt8×Int)×List Rs) :=
 match allDecls [] ts with
 | .err l e=>.err l e
 | .ok d r _=>match rulesS ex [] r with
  | .ok l r2 _=>.ok (d,l) r2 []
  | .err l e=>.err l e
def onlyS {α:Type}:PS α→PS α
 | .ok v ts ns=>if (ts.headD (0,[],false)).1=0 then .ok v ts ns else .err ts.length 16
 | .err l e=>.err l e
def queryS (ex:Rd1 Tm) (ts:List Tok):PS (List Gs×List (List UInt8)) :=
 match onlyS (goalsS ex 40 [] ts []) with
 | .ok l r ns=>.ok (l.map (Gs.num2 (placeS (orderS (l.flatMap (·.2.2))))),(orderS (l.flatMap (·.2.2))).map fun v=>ns.getD v.toNat []) r ns
 | .err l e=>.err l e
end Go.Proofs.YtnghanpmmbcbbaaGreatDoor
namespace Go.Proofs.YtnghanpmmbcbbaaGreatDoor
open Go.RowKit
theorem put3_cells {X:World} {b:Nat} {u0 u1 u2 v0 v1 v2:Value} (h0:X.cell? ⟨b,0,none⟩=some u0) (h1:X.cell? ⟨b,1,none⟩=some u1) (h2:X.cell? ⟨b,2,none⟩=some u2) :
  (((X.setCell ⟨b,0,none⟩ v0).setCell ⟨b,1,none⟩ v1).setCell ⟨b,2,none⟩ v2).drew.cell? ⟨b,0,none⟩=some v0 ∧
  (((X.setCell ⟨b,0,none⟩ v0).setCell ⟨b,1,none⟩ v1).setCell ⟨b,2,none⟩ v2).drew.cell? ⟨b,1,none⟩=some v1 ∧
  (((X.setCell ⟨b,0,none⟩ v0).setCell ⟨b,1,none⟩ v1).setCell ⟨b,2,none⟩ v2).drew.cell? ⟨b,2,none⟩=some v2:=by
 refine ⟨?_,?_,?_⟩
 ·show (((X.setCell ⟨b,0,none⟩ v0).setCell ⟨b,1,none⟩ v1).setCell ⟨b,2,none⟩ v2).cell? ⟨b,0,none⟩=some v0
  rw [World.cell?_setCell_other _ _ _ _ (by simp),World.cell?_setCell_other _ _ _ _ (by simp)]
  exact World.cell?_setCell_same _ _ _ (by rw [h0])
 ·show (((X.setCell ⟨b,0,none⟩ v0).setCell ⟨b,1,none⟩ v1).setCell ⟨b,2,none⟩ v2).cell? ⟨b,1,none⟩=some v1
  rw [World.cell?_setCell_other _ _ _ _ (by simp)]
  exact World.cell?_setCell_same _ _ _ (by rw [World.cell?_setCell_other _ _ _ _ (by simp),h1])
 ·show (((X.setCell ⟨b,0,none⟩ v0).setCell ⟨b,1,none⟩ v1).setCell ⟨b,2,none⟩ v2).cell? ⟨b,2,none⟩=some v2
  exact World.cell?_setCell_same _ _ _ (by rw [World.cell?_setCell_other _ _ _ _ (by simp),World.cell?_setCell_other _ _ _ _ (by simp),h2])
section
variable {w:World} {R:Nat} {A:Option Addr} {c:Nat} {l:List Tk} {i:Nat} {z:Value} {ns:List (List UInt8)} {at_:Nat} {er:Int}
end
end Go.Proofs.YtnghanpmmbcbbaaGreatDoor
namespace Go.Proofs.YtnghanpmmbcbbaaGreatDoor
open Go.RowKit
section
variable {w:World} {R:Nat} {A:Option Addr} {c:Nat} {l:List Tk} {i:Nat} {z:Value} {ns:List (List UInt8)} {at_:Nat} {er:Int}
def FailedAt (R:Nat) (A:Option Addr) (c:Nat) (l:List Tk) (i:Nat) (z:Value) (ns:List (List UInt8)) (w:World) (p:Nat) (e:Int) (w':World):Prop:=Kp R z z w w'∧Pr w' R A c l i z ns p e
def stepI (l:List Tk) (i:Nat):Nat:=if i+1 < l.length then i+1 else i
def isT (kd:Int) (s:List UInt8) (t:Tk):Bool:=t.1==kd&&t.2.2==s
theorem tok_kind (k p:Int) (x:ByteArray) (W:World):Sem.run Tryz.prog (Instr.field 135 (.agg #[.int .i64 k,.int .i64 p,.string x]) 0) W=.ok (.int .i64 k) W:=by kernel_rfl
theorem tok_at (k p:Int) (x:ByteArray) (W:World):Sem.run Tryz.prog (Instr.field 135 (.agg #[.int .i64 k,.int .i64 p,.string x]) 1) W=.ok (.int .i64 p) W:=by kernel_rfl
theorem tok_text (k p:Int) (x:ByteArray) (W:World):Sem.run Tryz.prog (Instr.field 135 (.agg #[.int .i64 k,.int .i64 p,.string x]) 2) W=.ok (.string x) W:=by kernel_rfl
end
end Go.Proofs.YtnghanpmmbcbbaaGreatDoor
