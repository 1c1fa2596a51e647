/-
  VaRen.
  VaProg.
  SuSort.
 SuRow.
 VgAm.
 VpAm.
 VgGl.
 VpGl.
 SuFun.
 MaShift.
 VaShiftP.
 SuIdx.
 SuRight.
 TmVarsOf.
 SuRefL.
 SuRefA.
 VrShift.
 VaNums.
 VaNumP.
 VrNum.
 SuOpen.
 TmOne.
 TmTwo.
 TmGreat.
 TmPair.
-/
import Derived.Test.YtnghanpmmbcbbaaGreatDoorMq7
import Derived.Test.YtnghanpmmbcbbaaGreatDoorMq6
import Derived.Test.YtnghanpmmbcbbaaGreatDoorMq2
import Derived.Deep.AppendLies
import Derived.Test.YtnghanpmmbcbbaaGreatDoorMq4
import Derived.BigQuiet
import Derived.Deep.QuietTactic
import Derived.Test.YtnghanpmmbcbbaaGreatDoorMq5
namespace Go.Proofs.YtnghanpmmbcbbaaGreatDoor
mutual
def Tm.ren:Tm→(Int→Int)→Tm
 | .mk k n s A c a,g=>.mk k (if k=1 then g n else n) s A c (renL a (if k=2 then g else fun v=>v))
def renL:List Tm→(Int→Int)→List Tm
 | [],_=>[]
 | t :: r,g=>t.ren g :: renL r g
end
mutual
def Tm.rr:Tm→(Int→Int)→Tm
 | .mk k n s A c a,g=>.mk k (if k=1 then g n else n) s A c (if k=2 then rrL a g else a)
def rrL:List Tm→(Int→Int)→List Tm
 | [],_=>[]
 | t :: r,g=>t.rr g :: rrL r g
end
theorem rrL_map (l:List Tm) (g:Int→Int):rrL l g=l.map fun t=>t.rr g:=by
 induction l with
 | nil=>simp [rrL]
 | cons t r ih=>simp [rrL,ih]
theorem rr_var (n:Int) (s:ByteArray) (A:Option Addr) (c:Nat) (a:List Tm) (g:Int→Int):(Tm.mk 1 n s A c a).rr g=.mk 1 (g n) s A c a:=by simp [Tm.rr]
theorem rr_fun (n:Int) (s:ByteArray) (A:Option Addr) (c:Nat) (a:List Tm) (g:Int→Int):(Tm.mk 2 n s A c a).rr g=.mk 2 n s A c (rrL a g):=by simp [Tm.rr]
theorem rr_else {k:Int} (n:Int) (s:ByteArray) (A:Option Addr) (c:Nat) (a:List Tm) (g:Int→Int) (h1:k≠1) (h2:k≠2):(Tm.mk k n s A c a).rr g=.mk k n s A c a:=by simp [Tm.rr,h1,h2]
theorem rr_canon:(∀(t:Tm) (g:Int→Int),(t.rr g).canon=t.vmap g)∧(∀(l:List Tm) (g:Int→Int),canonL (rrL l g)=vmapL g l):=by
 unfold Tm.canon canonL
 refine Tm.induct2 (fun k n s A c a ih g=>?_) (fun g=>by simp [rrL,vmapL]) (fun t r h1 h2 g=>by simp only [rrL,vmapL,h1,h2])
 by_cases h1:k=1
 ·subst h1;rw [rr_var,vmap_var,vmap_var]
 ·by_cases h2:k=2
  ·subst h2;rw [rr_fun,vmap_fun,vmap_fun,ih]
  ·rw [rr_else _ _ _ _ _ _ h1 h2]
   by_cases h0:k=0
   ·subst h0;rw [vmap_int,vmap_int]
   ·rw [vmap_else _ _ _ _ _ _ h2 h1 h0,vmap_else _ n s A c a h2 h1 h0]
theorem rr_nodes:(∀(t:Tm) (g:Int→Int),(t.rr g).nodes=t.nodes)∧(∀(l:List Tm) (g:Int→Int),nodesL (rrL l g)=nodesL l):=by
 refine Tm.induct2 (fun k n s A c a ih g=>?_) (fun g=>by simp [rrL,nodesL]) (fun t r h1 h2 g=>by simp only [rrL,nodesL,h1,h2])
 by_cases h2:k=2
 ·subst h2;rw [rr_fun];simp only [Tm.nodes,ih]
 ·simp [Tm.rr,Tm.nodes,h2]
theorem canonL_strip {l m:List Tm} (h:stripL l=stripL m):canonL l=canonL m:=cmpL_canon.1 (by rw [←cmp_strip.2,h,cmp_self.2])
theorem nodesL_strip {l m:List Tm} (h:stripL l=stripL m):nodesL l=nodesL m:=by
 have key:(∀t:Tm,t.strip.nodes=t.nodes)∧(∀l,nodesL (stripL l)=nodesL l):=by
  refine Tm.induct2 (fun k n s A c a ih=>?_) rfl (fun t r h1 h2=>?_)
  ·simp only [Tm.strip,Tm.nodes,ih]
  ·simp only [stripL,nodesL,h1,h2]
 rw [←key.2 l,h,key.2]
end Go.Proofs.YtnghanpmmbcbbaaGreatDoor
namespace Go.Proofs.YtnghanpmmbcbbaaGreatDoor
open Go.RowKit
structure Renames (F:FuncId) (caps:Array Value) (g:Int→Int) (w0:World):Prop where
 enter:∀(args:Array Value) (W:World),(callFunc F args).run Tryz.prog W=.ok (.enter F args) W
 fits:∀v,Fits v→Fits (g v)
 call:∀(v:Int) (W:World),Fits v→Below w0.heap.size w0 W→Calls Tryz.prog F (#[.int .i64 v]++caps) W fun e W'=>e=.returned (.int .i64 (g v))∧Below W.heap.size W W'
theorem Renames.below {F:FuncId} {caps:Array Value} {g:Int→Int} {w0 w1:World} (h:Renames F caps g w0) (hb:Below w0.heap.size w0 w1):Renames F caps g w1 :=
 ⟨h.enter,h.fits,fun v W hv hW=>h.call v W hv (hb.trans (hW.mono hb.size))⟩
theorem Held.set1 {B:Nat} {w:World} {v0 v1 v2 v3:Value} (h:Held B w v0 v1 v2 v3) (v:Value):Held B (w.setCell ⟨B,1,none⟩ v) v0 v v2 v3:=by
 have n:∀j,j≠1→(⟨B,1,none⟩:Addr)≠⟨B,j,none⟩:=fun j hj e=>by injection e with _ e _;omega
 refine ⟨by simpa [World.setCell] using h.lt,?_,?_,?_,?_,fun j=>by rw [World.frozen?_setCell];exact h.free j⟩
 ·rw [World.cell?_setCell_other _ _ _ _ (n 0 (by omega))];exact h.c0
 ·exact World.cell?_setCell_same' _ _ _ (by rw [h.c1];rfl)
 ·rw [World.cell?_setCell_other _ _ _ _ (n 2 (by omega))];exact h.c2
 ·rw [World.cell?_setCell_other _ _ _ _ (n 3 (by omega))];exact h.c3
end Go.Proofs.YtnghanpmmbcbbaaGreatDoor
namespace Go.Proofs.YtnghanpmmbcbbaaGreatDoor
open Go.RowKit
def Row5 (w:World) (g:Nat) (l:List Bd):Prop:=g < w.heap.size∧(∀j,w.frozen? ⟨g,j,none⟩=false)∧∀i j u,i < l.length→(l.getD i default).cells[j]?=some u→w.cell? ⟨g,i*5+j,none⟩=some u
end Go.Proofs.YtnghanpmmbcbbaaGreatDoor
namespace Go.Proofs.YtnghanpmmbcbbaaGreatDoor
open Go.RowKit
def bcells (l:List Bd):List Value:=l.flatMap Bd.cells
section
variable {B:World→Prop} {lo:Nat} {w w':World} {z:Value} {acc:List Bd}
theorem lie_apart {x:Tm} {B:World→Prop} {lo lo':Nat} {w0 w2:World} {z:Value} {n:Nat} {e:TypeId} {size:Nat} {xs:List Value} (hown:w0.ownsRow lo e size z n xs) (hx:Lie B lo' No w2 x) (h1:lo≤lo') (h2:w0.heap.size≤lo'):Lie B lo (fun k=>z.ownBlock=some k) w2 x :=
 (hx.out (X:=fun k=>z.ownBlock=some k) (fun b h3 _ h4=>by have:=(own_lt hown b h4).2;omega)).low h1
end
theorem tcells_append (l m:List Tm):tcells (l++m)=tcells l++tcells m:=by simp [tcells]
theorem cells_one (u:Tm):∀v∈u.cells,v.oneCell'=true:=by
 intro v hv
 simp only [Tm.cells,List.mem_cons,List.not_mem_nil,or_false] at hv
 rcases hv with rfl|rfl|rfl|rfl<;>rfl
def RowT (B:World→Prop) (lo:Nat) (w:World) (z:Value) (acc:List Tm):Prop :=
 w.ownsRow lo 69 4 z acc.length (tcells acc)∧∀x∈acc,Lie B lo (fun k=>z.ownBlock=some k) w x
section
variable {B:World→Prop} {lo:Nat} {w w':World} {z:Value} {acc:List Tm}
theorem RowT.nil (B:World→Prop) (lo:Nat) (w:World):RowT B lo w (.slice none 0 0) []:=⟨⟨rfl,.inl ⟨rfl,rfl⟩⟩,fun x hx=>by cases hx⟩
theorem RowT.below (h:RowT B lo w z acc) (hb:Below w.heap.size w w'):RowT B lo w' z acc:=⟨own_below h.1 hb,fun x hx=>(h.2 x hx).below hb⟩
theorem RowT.next {g cap:Nat} {w2 w3 w4:World} {u:Tm} (h:RowT B lo w2 z acc) (hu:Lie B lo (fun k=>z.ownBlock=some k) w2 u) (hb:Below w2.heap.size w2 w3)
  (hown:w4.ownsRow lo 69 4 (.slice (some ⟨g,0,none⟩) (acc.length+1) cap) (acc.length+1) (tcells acc++u.cells)) (hg:w3.grownBy w4 z.ownBlock) (hat:z.ownBlock=some g∨g=w3.heap.size) :
  RowT B lo w4 (.slice (some ⟨g,0,none⟩) (acc.length+1) cap) (acc++[u]):=by
 refine ⟨by rw [List.length_append,tcells_append];simpa [tcells] using hown,fun x hx=>?_⟩
 have hx2:Lie B lo (fun k=>z.ownBlock=some k) w2 x:=by
  rcases List.mem_append.1 hx with hx|hx
  ·exact h.2 x hx
  ·rw [List.mem_singleton.1 hx];exact hu
 refine (hx2.below hb).less hg.size fun b h1 h2 h3=>⟨h1,fun e=>?_,hg.block b h2 (fun e=>h3 e.symm)⟩
 have e':g=b:=by simpa [Value.ownBlock] using e
 rcases hat with h|h
 ·exact h3 (by rw [h,e'])
 ·omega
theorem RowT.form (h:RowT B lo w z acc):∃A c,z=.slice A acc.length c∧acc.length≤c:=by
 rcases h.1.2 with ⟨rfl,h1⟩|⟨g,cap,cur,rfl,hb,hg,hle,_⟩
 ·exact ⟨none,0,by rw [h1],by omega⟩
 ·exact ⟨_,cap,rfl,hle⟩
theorem RowT.lies {A:Option Addr} {c n:Nat} (h:RowT B lo w (.slice A n c) acc):∀W,B W→Agree lo No w W→Lst W A acc c:=by
 intro W hB hW
 have hl:=tcells_length acc
 rcases h.1.2 with ⟨e,h1⟩|⟨g,cap,cur,e,hb,hg,hle,hcap,hcs,hcur⟩
 ·injection e with e1 _ e3
  obtain rfl:acc=[]:=List.length_eq_zero_iff.1 h1
  rw [e1,e3];exact Lst.nil W
 ·injection e with e1 e2 e3
  subst e1 e2 e3
  have hlt:=own_lt h.1 g rfl
  refine ⟨hle,hcap,fun _=>⟨g,0,rfl,RowAt.of fun i hi=>⟨fun j u hu=>?_,?_⟩⟩⟩
  ·have hj:j < 4:=by
    have:=(List.getElem?_eq_some_iff.1 hu).1
    simpa [Tm.cells] using this
   rw [hW.cell (p:=⟨g,0+4*i+j,none⟩) hlt.1 hlt.2 (fun h=>h)]
   have hc:=World.ownsRow.cellAt h.1 (4*i+j) (by omega)
   rw [Nat.zero_add,hc]
   exact (tcells_get acc hi hj).trans hu
  ·exact h.2 _ (getD_mem hi) W hB fun b h1 h2 h3=>hW b h1 h2 (fun h=>h)
end
theorem tnews1 (w:World) (u:Tm) (T:TypeId):∀j v,u.cells[j]?=some v→(w.alloc (.cells #[.int .i64 u.kind,.int .i64 u.num,.string u.name,.slice u.at_ u.args.length u.cap] T)).cell? ((⟨w.heap.size,0,none⟩:Addr).add j)=some v:=by
 intro j v hv
 rw [add_plain,Nat.zero_add,World.cell?_alloc_at _ _ _ _ rfl,← hv,show (#[Value.int .i64 u.kind,.int .i64 u.num,.string u.name,.slice u.at_ u.args.length u.cap]:Array Value)=u.cells.toArray from rfl,List.getElem?_toArray]
end Go.Proofs.YtnghanpmmbcbbaaGreatDoor
namespace Go.Proofs.YtnghanpmmbcbbaaGreatDoor
open Go.ChangeShapes Go.WideShapes Go.ChangeAt Go.RowKit
def Am.hd (x:Am):List Value:=[.string x.name]
def Am.cells (x:Am):List Value:=x.hd++[.slice x.at_ x.args.length x.cap]
theorem Am.cells_len (x:Am):x.cells.length=2:=rfl
theorem Am.cells_sl (x:Am):x.cells[1]?=some (.slice x.at_ x.args.length x.cap):=rfl
theorem Am.cells_hd (x:Am) {j:Nat} (hj:j < 1):x.cells[j]?=x.hd[j]?:=List.getElem?_append_left (by simpa [Am.hd] using hj)
theorem Am.cells_lt {x:Am} {j:Nat} {u:Value} (h:x.cells[j]?=some u):j < 2:=by
 have:=(List.getElem?_eq_some_iff.1 h).1
 rwa [Am.cells_len] at this
def Am.key (x:Am):List Value×List Tm:=(x.hd,stripL x.args)
def Am.ren (x:Am) (g:Int→Int):Am:={ x with args:=renL x.args g }
def Am.rr (x:Am) (g:Int→Int):Am:={ x with args:=rrL x.args g }
def AmRow (w:World) (l:List Am) (b o:Nat):Prop:=∀i,i < l.length→(∀j u,(l.getD i default).cells[j]?=some u→w.cell? ⟨b,o+i*2+j,none⟩=some u)∧(l.getD i default).At w
def AmLst (w:World) (A:Option Addr) (l:List Am) (c:Nat):Prop:=l.length≤c∧c≤maxLen∧(0 < l.length→∃b o,A=some ⟨b,o,none⟩∧AmRow w l b o)
theorem am_getD_mem {l:List Am} {k:Nat} (h:k < l.length):l.getD k default∈l:=by
 simp only [List.getD,List.getElem?_eq_getElem h,Option.getD_some]
 exact List.getElem_mem h
theorem am_take_next {l:List Am} {k:Nat} (h:k < l.length):l.take (k+1)=l.take k++[l.getD k default]:=by
 rw [List.take_succ_eq_append_getElem h]
 simp [List.getD,List.getElem?_eq_getElem h]
section
variable {w w':World} {A:Option Addr} {l:List Am} {c b o:Nat}
theorem AmRow.below (h:AmRow w l b o) (hb:Below w.heap.size w w'):AmRow w' l b o:=fun i hi=>⟨fun j u hu=>keepv hb ((h i hi).1 j u hu),(h i hi).2.below hb⟩
theorem AmLst.below (h:AmLst w A l c) (hb:Below w.heap.size w w'):AmLst w' A l c:=⟨h.1,h.2.1,fun hn=>by
 obtain ⟨b,o,e,hr⟩:=h.2.2 hn
 exact ⟨b,o,e,hr.below hb⟩⟩
theorem AmLst.get (h:AmLst w A l c) {i:Nat} (hi:i < l.length):∃b o,A=some ⟨b,o,none⟩∧(∀j u,(l.getD i default).cells[j]?=some u→w.cell? ⟨b,o+i*2+j,none⟩=some u)∧(l.getD i default).At w:=by
 obtain ⟨b,o,e,hr⟩:=h.2.2 (by omega)
 exact ⟨b,o,e,hr i hi⟩
theorem AmLst.mem (h:AmLst w A l c) {x:Am} (hx:x∈l):x.At w:=by
 obtain ⟨i,hi,e⟩:=List.mem_iff_getElem.1 hx
 obtain ⟨_,_,_,_,h2⟩:=h.get hi
 simpa [List.getD,List.getElem?_eq_getElem hi,e] using h2
theorem AmLst.len (h:AmLst w A l c):l.length≤9223372036854775807:=by have:=h.1;have:=h.2.1;unfold maxLen at *;omega
theorem AmLst.nil (w:World):AmLst w none [] 0:=⟨Nat.le_refl _,Nat.zero_le _,fun h=>absurd h (by simp)⟩
end
section
variable {H:Type} {enc:TypeId×Value→H} {W:World} {base:Nat} {spare:Nat→Bool} {held:Bool}
set_option maxRecDepth 100000 in
theorem am_of (n:Nat) (cs:List Value) (x:DataW H×List MemPlace) (h:DataW.trod enc Tryz.prog W base spare held n 66 cs=some x):∃y:Am,cs=y.cells∧y.At W:=by
 obtain ⟨xs,m,_,_,hcl,hxl,hg⟩:=DataW.trod_struct Tryz.underlying66 h
 have hcl':cs.length=2:=hcl.trans (by kernel_rfl)
 match cs,hcl' with
 | [c0,c1],_ =>
  have hxs:xs.length=2:=hxl
  have g0:=hg 0 _ rfl
  have g1:=hg 1 _ rfl
  rw [List.getElem?_eq_getElem (by omega)] at g0 g1
  have eI:(Tryz.prog.cellsOf 3)=1:=by kernel_rfl
  have eS:(Tryz.prog.cellsOf 9)=1:=by kernel_rfl
  have eL:(Tryz.prog.cellsOf 51)=1:=by kernel_rfl
  simp only [List.getElem_toArray,List.getElem_cons_zero,List.getElem_cons_succ] at g0 g1
  obtain ⟨s,hs,_,ws⟩:=DataW.trod_string (cs:=[c0]) Tryz.underlying9 (by simpa [eS] using g0)
  obtain ⟨A,l,c,hv',hl'⟩:=open_lst types (v:=c1) (by simpa [eL] using g1)
  obtain rfl:c0=.string s:=by simpa using hs
  subst hv'
  exact ⟨⟨s,A,c,l⟩,rfl,ws,hl'⟩
set_option maxRecDepth 100000 in
theorem ams_of {n:Nat} {v:Value} {x:DataW H×List MemPlace} (h:DataW.trod enc Tryz.prog W base spare held n 22 [v]=some x) :
  ∃(A:Option Addr) (l:List Am) (c:Nat),v=.slice A l.length c∧AmLst W A l c:=by
 rcases DataW.trod_slice Tryz.underlying22 h with ⟨hcs,_⟩|⟨a,len,cap,elems,rest,n',hn,hcs,_,_,hl,hm,hlen,hel,_⟩
 ·obtain rfl:v=.slice none 0 0:=by simpa using hcs
  exact ⟨none,[],0,rfl,AmLst.nil W⟩
 ·obtain rfl:v=.slice (some a) len cap:=by simpa using hcs
  have cT:Tryz.prog.cellsOf 66=2:=by kernel_rfl
  obtain ⟨f,hf⟩:=Deep.choose_lt (α:=Am) (p:=fun i y=>W.cells? base (a.add (i*2)) 2=some y.cells∧y.At W) (n:=len) (fun i hi=>by
   have h1:=hel i hi
   rw [cT,List.getElem?_eq_getElem (by omega)] at h1
   obtain ⟨cs',h2,h3⟩:=Option.bind_eq_some_iff.1 h1
   obtain ⟨y,rfl,hy'⟩:=am_of _ _ _ h3
   exact ⟨y,h2,hy'⟩)
  have hll:((List.range len).map f).length=len:=by simp
  refine ⟨some a,(List.range len).map f,cap,by rw [hll],by rw [hll];exact hl,hm,fun h0=>?_⟩
  rw [hll] at h0
  obtain ⟨b,o,sp⟩:=a
  have c0:=(World.cells?_some (hf 0 h0).1).2.2 0 (by omega)
  obtain rfl:sp=none:=by
   have e0:∃u,(f 0).cells[0]?=some u:=⟨_,rfl⟩
   obtain ⟨u,e0⟩:=e0
   rw [e0] at c0
   simpa [Addr.add] using World.cell?_spot c0
  refine ⟨b,o,rfl,fun i hi=>?_⟩
  rw [hll] at hi
  have e:((List.range len).map f).getD i default=f i:=by simp [List.getD,hi]
  rw [e]
  refine ⟨fun j u hu=>?_,(hf i hi).2⟩
  have hj:=Am.cells_lt hu
  have:=(World.cells?_some (hf i hi).1).2.2 j hj
  rw [add_plain,add_plain,hu] at this
  exact this
end
def amcells (l:List Am):List Value:=l.flatMap Am.cells
theorem amcells_len (l:List Am):(amcells l).length=l.length*2:=by
 induction l with
 | nil=>rfl
 | cons t r ih=>simp only [amcells,List.flatMap_cons,List.length_append,Am.cells_len,List.length_cons] at *;omega
theorem amcells_append (l m:List Am):amcells (l++m)=amcells l++amcells m:=by simp [amcells]
theorem amcells_one (x:Am):∀v∈x.cells,v.oneCell'=true:=by
 intro v hv
 simp only [Am.cells,Am.hd,List.cons_append,List.nil_append,List.mem_cons,List.not_mem_nil,or_false] at hv
 rcases hv with rfl|rfl<;>rfl
theorem amcells_all (l:List Am):∀u∈amcells l,u.oneCell'=true:=by
 intro u hu
 obtain ⟨x,_,hx⟩:=List.mem_flatMap.1 hu
 exact amcells_one x u hx
theorem amcells_get (l:List Am) {i j:Nat} (hi:i < l.length) (hj:j < 2):(amcells l)[i*2+j]?=(l.getD i default).cells[j]?:=by
 induction l generalizing i with
 | nil=>simp at hi
 | cons t r ih =>
  simp only [amcells,List.flatMap_cons]
  cases i with
  | zero =>
   rw [List.getElem?_append_left (by rw [Am.cells_len];omega)]
   simp
  | succ i =>
   rw [List.getElem?_append_right (by rw [Am.cells_len];omega),Am.cells_len,show (i+1)*2+j - 2=i*2+j by omega]
   simpa [amcells] using ih (by simpa using hi)
theorem am_info:(Tryz.prog.info? 66).map (fun i=>(i.zero,i.size,i.bytes))=some (some (.agg #[.string ⟨#[]⟩,.slice none 0 0]),2,40):=by kernel_rfl
theorem AmRow.cells {w:World} {l:List Am} {b o:Nat} (h:AmRow w l b o):∀(j:Nat) (u:Value),(amcells l)[j]?=some u→w.cell? ((⟨b,o,none⟩:Addr).add j)=some u:=by
 intro j u hu
 have hj:j < l.length*2:=by rw [←amcells_len];exact (List.getElem?_eq_some_iff.1 hu).1
 have e:j=j / 2*2+j % 2:=by omega
 rw [e,amcells_get l (by omega) (by omega)] at hu
 have:=(h (j / 2) (by omega)).1 (j % 2) u hu
 rw [add_plain,e,← Nat.add_assoc]
 exact this
def AmOwn (w:World) (g:Nat) (l:List Am):Prop:=g < w.heap.size∧(∀j,w.frozen? ⟨g,j,none⟩=false)∧∀i j u,i < l.length→(l.getD i default).cells[j]?=some u→w.cell? ⟨g,i*2+j,none⟩=some u
theorem AmOwn.below {w w':World} {g:Nat} {l:List Am} (h:AmOwn w g l) (hb:Below w.heap.size w w'):AmOwn w' g l :=
 ⟨Nat.lt_of_lt_of_le h.1 hb.size,fun j=>(hb.frozen (p:=⟨g,j,none⟩) h.1).trans (h.2.1 j),fun i j u hi hu=>(hb.cell (p:=⟨g,i*2+j,none⟩) h.1).trans (h.2.2 i j u hi hu)⟩
theorem AmOwn.store {w:World} {g:Nat} {l:List Am} (h:AmOwn w g l) {i:Nat} (hi:i < l.length) (u:Am) (hu:u.hd=(l.getD i default).hd):AmOwn (w.setCell ⟨g,i*2+1,none⟩ (.slice u.at_ u.args.length u.cap)) g (l.set i u):=by
 refine ⟨by simpa [World.setCell] using h.1,fun j=>by rw [World.frozen?_setCell];exact h.2.1 j,fun i' j v hi' hv=>?_⟩
 rw [List.length_set] at hi'
 by_cases e:i'=i
 ·subst e
  have ev:(l.set i' u).getD i' default=u:=by simp [List.getD,hi']
  rw [ev] at hv
  have hj:=Am.cells_lt hv
  by_cases hl:j=1
  ·subst hl
   rw [Am.cells_sl] at hv
   injection hv with hv
   subst hv
   exact World.cell?_setCell_same' _ _ _ (by rw [h.2.2 i' 1 _ hi' (Am.cells_sl _)];rfl)
  ·rw [World.cell?_setCell_other _ _ _ _ (fun e=>by injection e with _ e _;omega)]
   rw [Am.cells_hd _ (by omega),hu,← Am.cells_hd _ (by omega)] at hv
   exact h.2.2 i' j v hi' hv
 ·have ev:(l.set i u).getD i' default=l.getD i' default:=by simp [List.getD,Ne.symm e]
  rw [ev] at hv
  have hj:=Am.cells_lt hv
  rw [World.cell?_setCell_other _ _ _ _ (fun e=>by injection e with _ e _;omega)]
  exact h.2.2 i' j v hi' hv
def AmLie (B:World→Prop) (lo:Nat) (X:Nat→Prop) (w:World) (t:Am):Prop:=∀W,B W→Agree lo X w W→t.At W
section
variable {B:World→Prop} {lo:Nat} {X:Nat→Prop} {w w':World} {t:Am}
theorem AmLie.less {lo':Nat} {Y:Nat→Prop} (h:AmLie B lo' Y w t) (hs:w.heap.size≤w'.heap.size) (hc:∀b,lo'≤b→b < w.heap.size→¬Y b→lo≤b∧¬X b∧w'.heap[b]?=w.heap[b]?):AmLie B lo X w' t:=fun W hB hW=>h W hB (hW.less hs hc)
theorem AmLie.below (h:AmLie B lo X w t) (k:Below w.heap.size w w'):AmLie B lo X w' t:=h.less k.size fun b h1 h2 h3=>⟨h1,h3,k.block b h2⟩
theorem AmLie.low (h:AmLie B lo X w t) {lo':Nat} (hl:lo'≤lo):AmLie B lo' X w t:=h.less (Nat.le_refl _) fun b h1 _ h3=>⟨by omega,h3,rfl⟩
theorem AmLie.out {Y:Nat→Prop} (h:AmLie B lo Y w t) (hY:∀b,lo≤b→b < w.heap.size→X b→Y b):AmLie B lo X w t:=h.less (Nat.le_refl _) fun b h1 h2 h3=>⟨h1,fun hx=>h3 (hY b h1 h2 hx),rfl⟩
theorem AmLie.set (h:AmLie B lo X w t) {p:Addr} (hp:p.block < lo∨X p.block) (v:Value):AmLie B lo X (w.setCell p v) t:=h.less (by simp [World.setCell]) fun b h1 _ h3=>⟨h1,h3,Below.heap_setCell _ _ _ _ (fun e=>hp.elim (fun h=>by omega) (fun h=>h3 (e ▸ h)))⟩
theorem AmLie.new_is {T:Nat} (h:AmLie B lo No w t) (hT:T < lo):AmLie B lo (Is T) w t:=h.out fun b h1 _ h3=>by have:b=T:=h3;omega
end
def AmMade (B:World→Prop) (n:Nat) (m:List Am) (w:World) (e:Ending) (w':World):Prop :=
 ∃A cap,∃cur:List Am,e=.returned (.slice A n cap)∧cur.length=n∧cur.map Am.key=m.map Am.key∧(∀W,B W→Agree w.heap.size No w' W→AmLst W A cur cap)∧Below w.heap.size w w'
end Go.Proofs.YtnghanpmmbcbbaaGreatDoor
namespace Go.Proofs.YtnghanpmmbcbbaaGreatDoor
open Go.RowKit
def AmCloned (w:World) (l:List Am) (e:Ending) (w':World):Prop:=∃A cap,e=.returned (.slice A l.length cap)∧l.length≤cap∧cap≤maxLen∧(0 < l.length→∃g,A=some ⟨g,0,none⟩∧w.heap.size≤g∧AmOwn w' g l)∧Below w.heap.size w w'
set_option maxHeartbeats 1000000 in
theorem clone_am_at (l:List Am) (b o c:Nat) (w:World) (h0:0 < l.length) (hl:AmRow w l b o) (hsz:l.length≤1000000) :
  Calls Tryz.prog 81 #[.slice (some ⟨b,o,none⟩) l.length c] w (AmCloned w l):=by
 obtain ⟨i0,hi,hz0,hz1,hz2⟩:=info_parts am_info
 have hn:=fun (W:World)=>Lib.run_eql_slice_nil (P:=Tryz.prog) W 22 66 (some ⟨b,o,none⟩) l.length c 0 0 Tryz.underlying22
 go_enter Tryz.func81,Tryz.ntmps81
 have hl1:AmRow (w.alloc (.cells #[] 66)) l b o:=hl.below ((Below.refl _ _).alloc (Nat.le_refl _) _)
 have HC:=Lib.hid hl1.cells
 have HO:=Lib.hid (World.ownsRow_lit (base:=w.heap.size) (e:=66) (size:=2) w #[] 0 (Nat.le_refl _) (Nat.zero_le _) rfl)
 clear hl hl1
 go_wp2_with (at_builtin;refine wpList_append_own _ rfl _ _ 22 rfl w.heap.size 66 i0 _ 2 40 Tryz.underlying22 hi hz0 hz1 hz2 rfl (by decide) _ 0 [] rfl HO.out ⟨b,o,none⟩ l.length c (amcells l) rfl (amcells_len l) HC.out (amcells_all l) (by unfold maxLen;omega) (by omega) (by simp) ?_;intro v' w1 hown1 hg1 _)
 have HG:=Lib.hid hg1
 have HW:=Lib.hid hown1
 clear hg1 hown1
 go_ret
 have hw:=HW.out
 simp only [Nat.zero_add,List.nil_append] at hw
 obtain ⟨hlen,hv⟩:=hw
 rcases hv with ⟨_,h⟩|⟨g,cap,cur,rfl,hb,hheap,hle,hcap,_,hcur⟩
 ·omega
 ·have hw:=HW.out
  simp only [Nat.zero_add,List.nil_append] at hw
  refine ⟨_,cap,rfl,hle,hcap,fun _=>⟨g,rfl,hb,⟨(own_lt hw g rfl).2,fun j=>World.ownsRow.frozenAt hw j,fun i j u hi hu=>?_⟩⟩,((Below.refl _ _).alloc (Nat.le_refl _) _).grown HG.out (by simp) (fun k hk=>(World.ownsRow.lt HO.out k hk).1)⟩
  have hj:=Am.cells_lt hu
  rw [World.ownsRow.cellAt hw (i*2+j) (by omega)]
  exact (amcells_get l hi hj).trans hu
set_option maxHeartbeats 1000000 in
theorem clone_am_none (A:Option Addr) (c:Nat) (w:World) :
  Calls Tryz.prog 81 #[.slice A 0 c] w (AmCloned w []):=by
 obtain ⟨i0,hi,hz0,hz1,hz2⟩:=info_parts am_info
 have hn:=fun (W:World)=>Lib.run_eql_slice_nil (P:=Tryz.prog) W 22 66 A 0 c 0 0 Tryz.underlying22
 cases A with
 | none =>
  go_enter Tryz.func81,Tryz.ntmps81
  go_wp2_with fail
  go_ret
  exact ⟨none,0,rfl,Nat.le_refl _,Nat.zero_le _,fun h=>by simp at h,Below.refl _ _⟩
 | some a =>
  go_enter Tryz.func81,Tryz.ntmps81
  have HO:=Lib.hid (World.ownsRow_lit (base:=w.heap.size) (e:=66) (size:=2) w #[] 0 (Nat.le_refl _) (Nat.zero_le _) rfl)
  go_wp2_with (at_builtin;refine wpList_append_own _ rfl _ _ 22 rfl w.heap.size 66 i0 _ 2 40 Tryz.underlying22 hi hz0 hz1 hz2 rfl (by decide) _ 0 [] rfl HO.out a 0 c [] rfl rfl (fun _ _ h=>by simp at h) (fun _ h=>by simp at h) (by unfold maxLen;omega) (by omega) (by simp) ?_;intro v' w1 hown1 hg1 _)
  have HG:=Lib.hid hg1
  have HW:=Lib.hid hown1
  clear hg1 hown1
  go_ret
  have hb:Below w.heap.size w w1:=((Below.refl _ _).alloc (Nat.le_refl _) _).grown HG.out (by simp) (fun k hk=>(World.ownsRow.lt HO.out k hk).1)
  rcases HW.out.2 with ⟨rfl,_⟩|⟨g,cap,cur,rfl,_,_,_,hcap,_,_⟩
  ·exact ⟨none,0,rfl,Nat.le_refl _,Nat.zero_le _,fun h=>by simp at h,hb⟩
  ·exact ⟨_,cap,rfl,Nat.zero_le _,hcap,fun h=>by simp at h,hb⟩
def AmPut (gg:Int→Int) (l:List Am) (g lo j:Nat) (wr:World):Prop :=
 ∃news:List Am,news.length=j∧news.map Am.key=(l.take j).map (fun x=>(x.ren gg).key)∧AmOwn wr g (news++l.drop j)∧∀x∈news,AmLie Any lo (Is g) wr x
section
variable {gg:Int→Int} {l:List Am} {g lo j:Nat} {wr:World}
theorem AmPut.below {w':World} (h:AmPut gg l g lo j wr) (hb:Below wr.heap.size wr w'):AmPut gg l g lo j w':=by
 obtain ⟨news,hn,hs,hr,hk⟩:=h
 exact ⟨news,hn,hs,hr.below hb,fun x hx=>(hk x hx).below hb⟩
theorem AmPut.cells (h:AmPut gg l g lo j wr) (hj:j < l.length):∀i v,(l.getD j default).cells[i]?=some v→wr.cell? ⟨g,j*2+i,none⟩=some v:=by
 obtain ⟨news,hn,hs,hr,hk⟩:=h
 intro i v hv
 have hgx:(news++l.drop j).getD j default=l.getD j default:=by
  simp [List.getD,List.getElem?_append_right (show news.length≤j by omega),hn]
 exact hr.2.2 j i v (by simp;omega) (by rw [hgx];exact hv)
theorem AmPut.lt (h:AmPut gg l g lo j wr):g < wr.heap.size:=by
 obtain ⟨_,_,_,hr,_⟩:=h
 exact hr.1
theorem AmPut.free (h:AmPut gg l g lo j wr):∀i,wr.frozen? ⟨g,i,none⟩=false:=by
 obtain ⟨_,_,_,hr,_⟩:=h
 exact hr.2.1
theorem AmPut.start (h:AmOwn wr g l):AmPut gg l g lo 0 wr:=⟨[],rfl,rfl,by simpa using h,fun x hx=>by cases hx⟩
theorem AmPut.done (h:AmPut gg l g lo l.length wr) (hlo:lo≤g) (cap:Nat) (hc:l.length≤cap) (hcm:cap≤maxLen) :
  ∃news:List Am,news.length=l.length∧news.map Am.key=(l.map fun x=>x.ren gg).map Am.key∧∀W,Any W→Agree lo No wr W→AmLst W (some ⟨g,0,none⟩) news cap:=by
 obtain ⟨news,hn,hst,hr,hk⟩:=h
 rw [List.drop_length,List.append_nil] at hr
 rw [List.take_length] at hst
 refine ⟨news,hn,by rw [hst,List.map_map];rfl,fun W _ hW=>⟨by omega,hcm,fun _=>⟨g,0,rfl,fun i hi=>⟨fun j u hu=>?_,?_⟩⟩⟩⟩
 ·rw [Nat.zero_add,hW.cell (p:=⟨g,i*2+j,none⟩) hlo hr.1 (fun h=>h)]
  exact hr.2.2 i j u hi hu
 ·exact hk _ (am_getD_mem hi) W trivial fun b h1 h2 _=>hW b h1 h2 (fun h=>h)
end
end Go.Proofs.YtnghanpmmbcbbaaGreatDoor
namespace Go.Proofs.YtnghanpmmbcbbaaGreatDoor
open Go.ChangeShapes Go.WideShapes Go.ChangeAt Go.RowKit
def Gl.hd (x:Gl):List Value:=[.int .i64 x.op,.string x.name]
def Gl.cells (x:Gl):List Value:=x.hd++[.slice x.at_ x.args.length x.cap]
theorem Gl.cells_len (x:Gl):x.cells.length=3:=rfl
theorem Gl.cells_sl (x:Gl):x.cells[2]?=some (.slice x.at_ x.args.length x.cap):=rfl
theorem Gl.cells_hd (x:Gl) {j:Nat} (hj:j < 2):x.cells[j]?=x.hd[j]?:=List.getElem?_append_left (by simpa [Gl.hd] using hj)
theorem Gl.cells_lt {x:Gl} {j:Nat} {u:Value} (h:x.cells[j]?=some u):j < 3:=by
 have:=(List.getElem?_eq_some_iff.1 h).1
 rwa [Gl.cells_len] at this
def Gl.key (x:Gl):List Value×List Tm:=(x.hd,stripL x.args)
def Gl.ren (x:Gl) (g:Int→Int):Gl:={ x with args:=renL x.args g }
def Gl.rr (x:Gl) (g:Int→Int):Gl:={ x with args:=rrL x.args g }
def GlRow (w:World) (l:List Gl) (b o:Nat):Prop:=∀i,i < l.length→(∀j u,(l.getD i default).cells[j]?=some u→w.cell? ⟨b,o+i*3+j,none⟩=some u)∧(l.getD i default).At w
def GlLst (w:World) (A:Option Addr) (l:List Gl) (c:Nat):Prop:=l.length≤c∧c≤maxLen∧(0 < l.length→∃b o,A=some ⟨b,o,none⟩∧GlRow w l b o)
theorem gl_getD_mem {l:List Gl} {k:Nat} (h:k < l.length):l.getD k default∈l:=by
 simp only [List.getD,List.getElem?_eq_getElem h,Option.getD_some]
 exact List.getElem_mem h
theorem gl_take_next {l:List Gl} {k:Nat} (h:k < l.length):l.take (k+1)=l.take k++[l.getD k default]:=by
 rw [List.take_succ_eq_append_getElem h]
 simp [List.getD,List.getElem?_eq_getElem h]
section
variable {w w':World} {A:Option Addr} {l:List Gl} {c b o:Nat}
theorem GlRow.below (h:GlRow w l b o) (hb:Below w.heap.size w w'):GlRow w' l b o:=fun i hi=>⟨fun j u hu=>keepv hb ((h i hi).1 j u hu),(h i hi).2.below hb⟩
theorem GlLst.below (h:GlLst w A l c) (hb:Below w.heap.size w w'):GlLst w' A l c:=⟨h.1,h.2.1,fun hn=>by
 obtain ⟨b,o,e,hr⟩:=h.2.2 hn
 exact ⟨b,o,e,hr.below hb⟩⟩
theorem GlLst.get (h:GlLst w A l c) {i:Nat} (hi:i < l.length):∃b o,A=some ⟨b,o,none⟩∧(∀j u,(l.getD i default).cells[j]?=some u→w.cell? ⟨b,o+i*3+j,none⟩=some u)∧(l.getD i default).At w:=by
 obtain ⟨b,o,e,hr⟩:=h.2.2 (by omega)
 exact ⟨b,o,e,hr i hi⟩
theorem GlLst.mem (h:GlLst w A l c) {x:Gl} (hx:x∈l):x.At w:=by
 obtain ⟨i,hi,e⟩:=List.mem_iff_getElem.1 hx
 obtain ⟨_,_,_,_,h2⟩:=h.get hi
 simpa [List.getD,List.getElem?_eq_getElem hi,e] using h2
theorem GlLst.len (h:GlLst w A l c):l.length≤9223372036854775807:=by have:=h.1;have:=h.2.1;unfold maxLen at *;omega
theorem GlLst.nil (w:World):GlLst w none [] 0:=⟨Nat.le_refl _,Nat.zero_le _,fun h=>absurd h (by simp)⟩
end
section
variable {H:Type} {enc:TypeId×Value→H} {W:World} {base:Nat} {spare:Nat→Bool} {held:Bool}
set_option maxRecDepth 100000 in
theorem gl_of (n:Nat) (cs:List Value) (x:DataW H×List MemPlace) (h:DataW.trod enc Tryz.prog W base spare held n 59 cs=some x):∃y:Gl,cs=y.cells∧y.At W:=by
 obtain ⟨xs,m,_,_,hcl,hxl,hg⟩:=DataW.trod_struct Tryz.underlying59 h
 have hcl':cs.length=3:=hcl.trans (by kernel_rfl)
 match cs,hcl' with
 | [c0,c1,c2],_ =>
  have hxs:xs.length=3:=hxl
  have g0:=hg 0 _ rfl
  have g1:=hg 1 _ rfl
  have g2:=hg 2 _ rfl
  rw [List.getElem?_eq_getElem (by omega)] at g0 g1 g2
  have eI:(Tryz.prog.cellsOf 3)=1:=by kernel_rfl
  have eS:(Tryz.prog.cellsOf 9)=1:=by kernel_rfl
  have eL:(Tryz.prog.cellsOf 51)=1:=by kernel_rfl
  simp only [List.getElem_toArray,List.getElem_cons_zero,List.getElem_cons_succ] at g0 g1 g2
  obtain ⟨k,hk,_,wk⟩:=DataW.trod_int (cs:=[c0]) Tryz.underlying3 (by simpa [eI] using g0)
  obtain ⟨s,hs,_,ws⟩:=DataW.trod_string (cs:=[c1]) Tryz.underlying9 (by simpa [eS] using g1)
  obtain ⟨A,l,c,hv',hl'⟩:=open_lst types (v:=c2) (by simpa [eL] using g2)
  obtain rfl:c0=.int .i64 k:=by simpa using hk
  obtain rfl:c1=.string s:=by simpa using hs
  subst hv'
  exact ⟨⟨k,s,A,c,l⟩,rfl,int_fits wk,ws,hl'⟩
set_option maxRecDepth 100000 in
theorem gls_of {n:Nat} {v:Value} {x:DataW H×List MemPlace} (h:DataW.trod enc Tryz.prog W base spare held n 23 [v]=some x) :
  ∃(A:Option Addr) (l:List Gl) (c:Nat),v=.slice A l.length c∧GlLst W A l c:=by
 rcases DataW.trod_slice Tryz.underlying23 h with ⟨hcs,_⟩|⟨a,len,cap,elems,rest,n',hn,hcs,_,_,hl,hm,hlen,hel,_⟩
 ·obtain rfl:v=.slice none 0 0:=by simpa using hcs
  exact ⟨none,[],0,rfl,GlLst.nil W⟩
 ·obtain rfl:v=.slice (some a) len cap:=by simpa using hcs
  have cT:Tryz.prog.cellsOf 59=3:=by kernel_rfl
  obtain ⟨f,hf⟩:=Deep.choose_lt (α:=Gl) (p:=fun i y=>W.cells? base (a.add (i*3)) 3=some y.cells∧y.At W) (n:=len) (fun i hi=>by
   have h1:=hel i hi
   rw [cT,List.getElem?_eq_getElem (by omega)] at h1
   obtain ⟨cs',h2,h3⟩:=Option.bind_eq_some_iff.1 h1
   obtain ⟨y,rfl,hy'⟩:=gl_of _ _ _ h3
   exact ⟨y,h2,hy'⟩)
  have hll:((List.range len).map f).length=len:=by simp
  refine ⟨some a,(List.range len).map f,cap,by rw [hll],by rw [hll];exact hl,hm,fun h0=>?_⟩
  rw [hll] at h0
  obtain ⟨b,o,sp⟩:=a
  have c0:=(World.cells?_some (hf 0 h0).1).2.2 0 (by omega)
  obtain rfl:sp=none:=by
   have e0:∃u,(f 0).cells[0]?=some u:=⟨_,rfl⟩
   obtain ⟨u,e0⟩:=e0
   rw [e0] at c0
   simpa [Addr.add] using World.cell?_spot c0
  refine ⟨b,o,rfl,fun i hi=>?_⟩
  rw [hll] at hi
  have e:((List.range len).map f).getD i default=f i:=by simp [List.getD,hi]
  rw [e]
  refine ⟨fun j u hu=>?_,(hf i hi).2⟩
  have hj:=Gl.cells_lt hu
  have:=(World.cells?_some (hf i hi).1).2.2 j hj
  rw [add_plain,add_plain,hu] at this
  exact this
end
def glcells (l:List Gl):List Value:=l.flatMap Gl.cells
theorem glcells_len (l:List Gl):(glcells l).length=l.length*3:=by
 induction l with
 | nil=>rfl
 | cons t r ih=>simp only [glcells,List.flatMap_cons,List.length_append,Gl.cells_len,List.length_cons] at *;omega
theorem glcells_append (l m:List Gl):glcells (l++m)=glcells l++glcells m:=by simp [glcells]
theorem glcells_one (x:Gl):∀v∈x.cells,v.oneCell'=true:=by
 intro v hv
 simp only [Gl.cells,Gl.hd,List.cons_append,List.nil_append,List.mem_cons,List.not_mem_nil,or_false] at hv
 rcases hv with rfl|rfl|rfl<;>rfl
theorem glcells_all (l:List Gl):∀u∈glcells l,u.oneCell'=true:=by
 intro u hu
 obtain ⟨x,_,hx⟩:=List.mem_flatMap.1 hu
 exact glcells_one x u hx
theorem glcells_get (l:List Gl) {i j:Nat} (hi:i < l.length) (hj:j < 3):(glcells l)[i*3+j]?=(l.getD i default).cells[j]?:=by
 induction l generalizing i with
 | nil=>simp at hi
 | cons t r ih =>
  simp only [glcells,List.flatMap_cons]
  cases i with
  | zero =>
   rw [List.getElem?_append_left (by rw [Gl.cells_len];omega)]
   simp
  | succ i =>
   rw [List.getElem?_append_right (by rw [Gl.cells_len];omega),Gl.cells_len,show (i+1)*3+j - 3=i*3+j by omega]
   simpa [glcells] using ih (by simpa using hi)
theorem gl_info:(Tryz.prog.info? 59).map (fun i=>(i.zero,i.size,i.bytes))=some (some (.agg #[.int .i64 0,.string ⟨#[]⟩,.slice none 0 0]),3,48):=by kernel_rfl
theorem GlRow.cells {w:World} {l:List Gl} {b o:Nat} (h:GlRow w l b o):∀(j:Nat) (u:Value),(glcells l)[j]?=some u→w.cell? ((⟨b,o,none⟩:Addr).add j)=some u:=by
 intro j u hu
 have hj:j < l.length*3:=by rw [←glcells_len];exact (List.getElem?_eq_some_iff.1 hu).1
 have e:j=j / 3*3+j % 3:=by omega
 rw [e,glcells_get l (by omega) (by omega)] at hu
 have:=(h (j / 3) (by omega)).1 (j % 3) u hu
 rw [add_plain,e,← Nat.add_assoc]
 exact this
def GlOwn (w:World) (g:Nat) (l:List Gl):Prop:=g < w.heap.size∧(∀j,w.frozen? ⟨g,j,none⟩=false)∧∀i j u,i < l.length→(l.getD i default).cells[j]?=some u→w.cell? ⟨g,i*3+j,none⟩=some u
theorem GlOwn.below {w w':World} {g:Nat} {l:List Gl} (h:GlOwn w g l) (hb:Below w.heap.size w w'):GlOwn w' g l :=
 ⟨Nat.lt_of_lt_of_le h.1 hb.size,fun j=>(hb.frozen (p:=⟨g,j,none⟩) h.1).trans (h.2.1 j),fun i j u hi hu=>(hb.cell (p:=⟨g,i*3+j,none⟩) h.1).trans (h.2.2 i j u hi hu)⟩
theorem GlOwn.store {w:World} {g:Nat} {l:List Gl} (h:GlOwn w g l) {i:Nat} (hi:i < l.length) (u:Gl) (hu:u.hd=(l.getD i default).hd):GlOwn (w.setCell ⟨g,i*3+2,none⟩ (.slice u.at_ u.args.length u.cap)) g (l.set i u):=by
 refine ⟨by simpa [World.setCell] using h.1,fun j=>by rw [World.frozen?_setCell];exact h.2.1 j,fun i' j v hi' hv=>?_⟩
 rw [List.length_set] at hi'
 by_cases e:i'=i
 ·subst e
  have ev:(l.set i' u).getD i' default=u:=by simp [List.getD,hi']
  rw [ev] at hv
  have hj:=Gl.cells_lt hv
  by_cases hl:j=2
  ·subst hl
   rw [Gl.cells_sl] at hv
   injection hv with hv
   subst hv
   exact World.cell?_setCell_same' _ _ _ (by rw [h.2.2 i' 2 _ hi' (Gl.cells_sl _)];rfl)
  ·rw [World.cell?_setCell_other _ _ _ _ (fun e=>by injection e with _ e _;omega)]
   rw [Gl.cells_hd _ (by omega),hu,← Gl.cells_hd _ (by omega)] at hv
   exact h.2.2 i' j v hi' hv
 ·have ev:(l.set i u).getD i' default=l.getD i' default:=by simp [List.getD,Ne.symm e]
  rw [ev] at hv
  have hj:=Gl.cells_lt hv
  rw [World.cell?_setCell_other _ _ _ _ (fun e=>by injection e with _ e _;omega)]
  exact h.2.2 i' j v hi' hv
def GlLie (B:World→Prop) (lo:Nat) (X:Nat→Prop) (w:World) (t:Gl):Prop:=∀W,B W→Agree lo X w W→t.At W
section
variable {B:World→Prop} {lo:Nat} {X:Nat→Prop} {w w':World} {t:Gl}
theorem GlLie.less {lo':Nat} {Y:Nat→Prop} (h:GlLie B lo' Y w t) (hs:w.heap.size≤w'.heap.size) (hc:∀b,lo'≤b→b < w.heap.size→¬Y b→lo≤b∧¬X b∧w'.heap[b]?=w.heap[b]?):GlLie B lo X w' t:=fun W hB hW=>h W hB (hW.less hs hc)
theorem GlLie.below (h:GlLie B lo X w t) (k:Below w.heap.size w w'):GlLie B lo X w' t:=h.less k.size fun b h1 h2 h3=>⟨h1,h3,k.block b h2⟩
theorem GlLie.low (h:GlLie B lo X w t) {lo':Nat} (hl:lo'≤lo):GlLie B lo' X w t:=h.less (Nat.le_refl _) fun b h1 _ h3=>⟨by omega,h3,rfl⟩
theorem GlLie.out {Y:Nat→Prop} (h:GlLie B lo Y w t) (hY:∀b,lo≤b→b < w.heap.size→X b→Y b):GlLie B lo X w t:=h.less (Nat.le_refl _) fun b h1 h2 h3=>⟨h1,fun hx=>h3 (hY b h1 h2 hx),rfl⟩
theorem GlLie.set (h:GlLie B lo X w t) {p:Addr} (hp:p.block < lo∨X p.block) (v:Value):GlLie B lo X (w.setCell p v) t:=h.less (by simp [World.setCell]) fun b h1 _ h3=>⟨h1,h3,Below.heap_setCell _ _ _ _ (fun e=>hp.elim (fun h=>by omega) (fun h=>h3 (e ▸ h)))⟩
theorem GlLie.new_is {T:Nat} (h:GlLie B lo No w t) (hT:T < lo):GlLie B lo (Is T) w t:=h.out fun b h1 _ h3=>by have:b=T:=h3;omega
end
def GlMade (B:World→Prop) (n:Nat) (m:List Gl) (w:World) (e:Ending) (w':World):Prop :=
 ∃A cap,∃cur:List Gl,e=.returned (.slice A n cap)∧cur.length=n∧cur.map Gl.key=m.map Gl.key∧(∀W,B W→Agree w.heap.size No w' W→GlLst W A cur cap)∧Below w.heap.size w w'
end Go.Proofs.YtnghanpmmbcbbaaGreatDoor
namespace Go.Proofs.YtnghanpmmbcbbaaGreatDoor
open Go.RowKit
def GlCloned (w:World) (l:List Gl) (e:Ending) (w':World):Prop:=∃A cap,e=.returned (.slice A l.length cap)∧l.length≤cap∧cap≤maxLen∧(0 < l.length→∃g,A=some ⟨g,0,none⟩∧w.heap.size≤g∧GlOwn w' g l)∧Below w.heap.size w w'
set_option maxHeartbeats 1000000 in
theorem clone_gl_at (l:List Gl) (b o c:Nat) (w:World) (h0:0 < l.length) (hl:GlRow w l b o) (hsz:l.length≤1000000) :
  Calls Tryz.prog 83 #[.slice (some ⟨b,o,none⟩) l.length c] w (GlCloned w l):=by
 obtain ⟨i0,hi,hz0,hz1,hz2⟩:=info_parts gl_info
 have hn:=fun (W:World)=>Lib.run_eql_slice_nil (P:=Tryz.prog) W 23 59 (some ⟨b,o,none⟩) l.length c 0 0 Tryz.underlying23
 go_enter Tryz.func83,Tryz.ntmps83
 have hl1:GlRow (w.alloc (.cells #[] 59)) l b o:=hl.below ((Below.refl _ _).alloc (Nat.le_refl _) _)
 have HC:=Lib.hid hl1.cells
 have HO:=Lib.hid (World.ownsRow_lit (base:=w.heap.size) (e:=59) (size:=3) w #[] 0 (Nat.le_refl _) (Nat.zero_le _) rfl)
 clear hl hl1
 go_wp2_with (at_builtin;refine wpList_append_own _ rfl _ _ 23 rfl w.heap.size 59 i0 _ 3 48 Tryz.underlying23 hi hz0 hz1 hz2 rfl (by decide) _ 0 [] rfl HO.out ⟨b,o,none⟩ l.length c (glcells l) rfl (glcells_len l) HC.out (glcells_all l) (by unfold maxLen;omega) (by omega) (by simp) ?_;intro v' w1 hown1 hg1 _)
 have HG:=Lib.hid hg1
 have HW:=Lib.hid hown1
 clear hg1 hown1
 go_ret
 have hw:=HW.out
 simp only [Nat.zero_add,List.nil_append] at hw
 obtain ⟨hlen,hv⟩:=hw
 rcases hv with ⟨_,h⟩|⟨g,cap,cur,rfl,hb,hheap,hle,hcap,_,hcur⟩
 ·omega
 ·have hw:=HW.out
  simp only [Nat.zero_add,List.nil_append] at hw
  refine ⟨_,cap,rfl,hle,hcap,fun _=>⟨g,rfl,hb,⟨(own_lt hw g rfl).2,fun j=>World.ownsRow.frozenAt hw j,fun i j u hi hu=>?_⟩⟩,((Below.refl _ _).alloc (Nat.le_refl _) _).grown HG.out (by simp) (fun k hk=>(World.ownsRow.lt HO.out k hk).1)⟩
  have hj:=Gl.cells_lt hu
  rw [World.ownsRow.cellAt hw (i*3+j) (by omega)]
  exact (glcells_get l hi hj).trans hu
set_option maxHeartbeats 1000000 in
theorem clone_gl_none (A:Option Addr) (c:Nat) (w:World) :
  Calls Tryz.prog 83 #[.slice A 0 c] w (GlCloned w []):=by
 obtain ⟨i0,hi,hz0,hz1,hz2⟩:=info_parts gl_info
 have hn:=fun (W:World)=>Lib.run_eql_slice_nil (P:=Tryz.prog) W 23 59 A 0 c 0 0 Tryz.underlying23
 cases A with
 | none =>
  go_enter Tryz.func83,Tryz.ntmps83
  go_wp2_with fail
  go_ret
  exact ⟨none,0,rfl,Nat.le_refl _,Nat.zero_le _,fun h=>by simp at h,Below.refl _ _⟩
 | some a =>
  go_enter Tryz.func83,Tryz.ntmps83
  have HO:=Lib.hid (World.ownsRow_lit (base:=w.heap.size) (e:=59) (size:=3) w #[] 0 (Nat.le_refl _) (Nat.zero_le _) rfl)
  go_wp2_with (at_builtin;refine wpList_append_own _ rfl _ _ 23 rfl w.heap.size 59 i0 _ 3 48 Tryz.underlying23 hi hz0 hz1 hz2 rfl (by decide) _ 0 [] rfl HO.out a 0 c [] rfl rfl (fun _ _ h=>by simp at h) (fun _ h=>by simp at h) (by unfold maxLen;omega) (by omega) (by simp) ?_;intro v' w1 hown1 hg1 _)
  have HG:=Lib.hid hg1
  have HW:=Lib.hid hown1
  clear hg1 hown1
  go_ret
  have hb:Below w.heap.size w w1:=((Below.refl _ _).alloc (Nat.le_refl _) _).grown HG.out (by simp) (fun k hk=>(World.ownsRow.lt HO.out k hk).1)
  rcases HW.out.2 with ⟨rfl,_⟩|⟨g,cap,cur,rfl,_,_,_,hcap,_,_⟩
  ·exact ⟨none,0,rfl,Nat.le_refl _,Nat.zero_le _,fun h=>by simp at h,hb⟩
  ·exact ⟨_,cap,rfl,Nat.zero_le _,hcap,fun h=>by simp at h,hb⟩
def GlPut (gg:Int→Int) (l:List Gl) (g lo j:Nat) (wr:World):Prop :=
 ∃news:List Gl,news.length=j∧news.map Gl.key=(l.take j).map (fun x=>(x.ren gg).key)∧GlOwn wr g (news++l.drop j)∧∀x∈news,GlLie Any lo (Is g) wr x
section
variable {gg:Int→Int} {l:List Gl} {g lo j:Nat} {wr:World}
theorem GlPut.below {w':World} (h:GlPut gg l g lo j wr) (hb:Below wr.heap.size wr w'):GlPut gg l g lo j w':=by
 obtain ⟨news,hn,hs,hr,hk⟩:=h
 exact ⟨news,hn,hs,hr.below hb,fun x hx=>(hk x hx).below hb⟩
theorem GlPut.cells (h:GlPut gg l g lo j wr) (hj:j < l.length):∀i v,(l.getD j default).cells[i]?=some v→wr.cell? ⟨g,j*3+i,none⟩=some v:=by
 obtain ⟨news,hn,hs,hr,hk⟩:=h
 intro i v hv
 have hgx:(news++l.drop j).getD j default=l.getD j default:=by
  simp [List.getD,List.getElem?_append_right (show news.length≤j by omega),hn]
 exact hr.2.2 j i v (by simp;omega) (by rw [hgx];exact hv)
theorem GlPut.lt (h:GlPut gg l g lo j wr):g < wr.heap.size:=by
 obtain ⟨_,_,_,hr,_⟩:=h
 exact hr.1
theorem GlPut.free (h:GlPut gg l g lo j wr):∀i,wr.frozen? ⟨g,i,none⟩=false:=by
 obtain ⟨_,_,_,hr,_⟩:=h
 exact hr.2.1
theorem GlPut.start (h:GlOwn wr g l):GlPut gg l g lo 0 wr:=⟨[],rfl,rfl,by simpa using h,fun x hx=>by cases hx⟩
theorem GlPut.done (h:GlPut gg l g lo l.length wr) (hlo:lo≤g) (cap:Nat) (hc:l.length≤cap) (hcm:cap≤maxLen) :
  ∃news:List Gl,news.length=l.length∧news.map Gl.key=(l.map fun x=>x.ren gg).map Gl.key∧∀W,Any W→Agree lo No wr W→GlLst W (some ⟨g,0,none⟩) news cap:=by
 obtain ⟨news,hn,hst,hr,hk⟩:=h
 rw [List.drop_length,List.append_nil] at hr
 rw [List.take_length] at hst
 refine ⟨news,hn,by rw [hst,List.map_map];rfl,fun W _ hW=>⟨by omega,hcm,fun _=>⟨g,0,rfl,fun i hi=>⟨fun j u hu=>?_,?_⟩⟩⟩⟩
 ·rw [Nat.zero_add,hW.cell (p:=⟨g,i*3+j,none⟩) hlo hr.1 (fun h=>h)]
  exact hr.2.2 i j u hi hu
 ·exact hk _ (gl_getD_mem hi) W trivial fun b h1 h2 _=>hW b h1 h2 (fun h=>h)
end
end Go.Proofs.YtnghanpmmbcbbaaGreatDoor
namespace Go.Proofs.YtnghanpmmbcbbaaGreatDoor
open Go.RowKit
theorem ref_var_at3 (n:Int) (w:World):Calls Tryz.prog 32 #[.int .i64 n] w fun e w'=>e=.returned (.agg #[.int .i64 1,.int .i64 n,.string ⟨#[]⟩,.slice none 0 0])∧Below w.heap.size w w':=by
 go_enter Tryz.func32,Tryz.ntmps32
 go_wp2
 exact bodyPost_ret (v:=.agg #[.int .i64 1,.int .i64 n,.string ⟨#[]⟩,.slice none 0 0]) (by simp [results,Tryz.results32,go_sem]) rfl ⟨rfl,(Below.refl _ _).alloc (Nat.le_refl _) _⟩
def BuiltR (w:World) (s:ByteArray) (l:List Tm) (e:Ending) (w':World):Prop :=
 ∃g c:Nat,e=.returned (.agg #[.int .i64 2,.int .i64 0,.string s,.slice (some ⟨g,0,none⟩) l.length c])∧(Tm.mk 2 0 s (some ⟨g,0,none⟩) c l).At w'∧Below w.heap.size w w'
end Go.Proofs.YtnghanpmmbcbbaaGreatDoor
namespace Go.Proofs.YtnghanpmmbcbbaaGreatDoor
open Go.RowKit
def numT (k n:Int):Tm:=.mk k n ByteArray.empty none 0 []
end Go.Proofs.YtnghanpmmbcbbaaGreatDoor
namespace Go.Proofs.YtnghanpmmbcbbaaGreatDoor
open Go.RowKit
end Go.Proofs.YtnghanpmmbcbbaaGreatDoor
namespace Go.Proofs.YtnghanpmmbcbbaaGreatDoor
open Go.RowKit
def FirstIdx (l:List Bd) (p:Bd→Bool) (w:World) (e:Ending) (w':World):Prop :=
 ∃m:Int,((m = -1∧l.any p=false)∨∃i:Nat,i < l.length∧m=i∧p (l.getD i default)=true∧(l.take i).any p=false)∧e=.returned (.int .i64 m)∧Below w.heap.size w w'
end Go.Proofs.YtnghanpmmbcbbaaGreatDoor
namespace Go.Proofs.YtnghanpmmbcbbaaGreatDoor
open Go.RowKit Go.Sort
end Go.Proofs.YtnghanpmmbcbbaaGreatDoor
namespace Go.Proofs.YtnghanpmmbcbbaaGreatDoor
open Go.RowKit
set_option maxHeartbeats 400000 in
theorem ref_vars_of_at (us:List Tm) (U:Option Addr) (uq:Nat) (w:World) (hl:Lst w U us uq) (hsz:sizeL us≤1000000) :
  Calls Tryz.prog 23 #[.slice U us.length uq] w (Grows w (addAll [] (occL us))):=by
 have hlen:us.length≤9223372036854775807:=by have:=hl.1;have:=hl.2.1;unfold maxLen at *;omega
 go_enter Tryz.func23,Tryz.ntmps23
 go_wp2_with fail
 go_loopw [3,4] (fun z i wr=>∃j:Nat,j≤us.length∧i=.int .i64 j∧Hid (OwnI wr w.heap.size z (addAll [] (occL (us.take j))))∧Below w.heap.size w wr) (fun _ i _=>us.length - (intOf i).toNat)
 case atStart=>exact ⟨0,Nat.zero_le _,rfl,Lib.hid (OwnI.nil _ _),Below.refl _ _⟩
 case round =>
  obtain ⟨j,hj,rfl,HX,hb⟩:=hrel
  by_cases hlt:j < us.length
  ·obtain ⟨b,o,rfl,⟨c0,c1,c2,c3⟩,_⟩:=(hl.below hb).get hlt
   have hy:=hl.mem (getD_mem hlt)
   have hn:=sizeL_next hlt
   have ht:=sizeL_take us (j+1)
   have ho:=occ_length.2 (us.take j)
   have ha:=addAll_length [] (occL (us.take j))
   have HN:=Lib.hid (occL_next hlt)
   generalize us.getD j default=y at *
   have hB:(addAll [] (occL (us.take j))).length+y.size≤1000000:=by simp only [List.length_nil] at ha;omega
   have Q1:=Lib.hid (vars_at y _ (addAll [] (occL (us.take j))) w wr hy hb HX.out hB)
   clear hy hn ht ho ha hB
   obtain ⟨k',n',s',A',c',a'⟩:=y
   simp only [Tm.kind,Tm.num,Tm.name,Tm.at_,Tm.args,Tm.cap] at c0 c1 c2 c3
   go_wp2_with fail
   refine Q1.out.mono ?_
   rintro e w5 ⟨v5,rfl,hown5,hb5⟩
   go_wp2_with fail
   go_roundw
   case rel=>exact ⟨j+1,by omega,by go_num,Lib.hid (by rw [HN.out,addAll_append];exact hown5),hb5⟩
   case measure=>simp [intOf];omega
  ·obtain rfl:j=us.length:=by omega
   go_wp2_with fail
   go_ret
   refine Grows.mk rfl ?_ hb
   have:=HX.out
   rw [List.take_length] at this
   exact this
end Go.Proofs.YtnghanpmmbcbbaaGreatDoor
namespace Go.Proofs.YtnghanpmmbcbbaaGreatDoor
open Go.RowKit Go.Sort
def freeB (b:List Bd) (t:Tm):Bool:=t.occ.all fun v=>(look b v).isNone
end Go.Proofs.YtnghanpmmbcbbaaGreatDoor
namespace Go.Proofs.YtnghanpmmbcbbaaGreatDoor
open Go.RowKit
abbrev From (w0:World):World→Prop:=fun W=>Below w0.heap.size w0 W
def RMade (w0:World) (t:Tm) (w:World) (e:Ending) (w':World):Prop:=∃u:Tm,e=.returned u.val∧u.strip=t.strip∧Lie (From w0) w.heap.size No w' u∧Below w.heap.size w w'
def RMadeN (w0:World) (n:Nat) (m:List Tm) (w:World) (e:Ending) (w':World):Prop :=
 ∃A cap,∃cur:List Tm,e=.returned (.slice A n cap)∧cur.length=n∧stripL cur=stripL m∧(∀W,From w0 W→Agree w.heap.size No w' W→Lst W A cur cap)∧Below w.heap.size w w'
theorem rlie_row {B:World→Prop} {w w':World} {k n:Int} {s:ByteArray} {A:Option Addr} {cap lo:Nat} {cur:List Tm} (hp:Fits k∧Fits n∧s.size≤maxLen) (h:∀W,B W→Agree lo No w' W→Lst W A cur cap) (hlo:w.heap.size≤lo):Lie B w.heap.size No w' (.mk k n s A cap cur) :=
 fun W hB hW=>(At_iff _ _).2 ⟨hp,h W hB fun b h1 h2 h3=>hW b (by omega) h2 h3⟩
theorem take_tm {l:List Tm} {k:Nat} (h:k < l.length):l.take (k+1)=l.take k++[l.getD k default]:=by
 rw [List.take_add_one,List.getElem?_eq_getElem h]
 simp [List.getD,List.getElem?_eq_getElem h]
end Go.Proofs.YtnghanpmmbcbbaaGreatDoor
namespace Go.Proofs.YtnghanpmmbcbbaaGreatDoor
open Go.RowKit
end Go.Proofs.YtnghanpmmbcbbaaGreatDoor
namespace Go.Proofs.YtnghanpmmbcbbaaGreatDoor
open Go.RowKit Go.Maps
def plc (l:List Int) (n:Int):Int:=if n∈l then place l n else 0
def numD (l:List Int):DataW Unit:=l.zipIdx.foldl (fun m p=>m.put (.int .i64 p.1) (.lit (.int .i64 (p.2:Nat)))) (.map [])
def Nums (w:World) (b:Nat) (l:List Int):Prop:=(∀n∈l,Fits n)∧l.Nodup∧w.ownsMap Tryz.prog 3 (plainElem Tryz.prog 3) b l.length (numD l)
theorem Nums.keep {w w':World} {b:Nat} {l:List Int} (h:Nums w b l) (hb:Below w.heap.size w w'):Nums w' b l :=
 ⟨h.1,h.2.1,h.2.2.kept (row:=none) ⟨hb.os,hb.tape,hb.output,hb.size,fun k hk _=>hb.block k hk⟩ (by simp)⟩
def varsL (l:List Tm):List Int:=addAll [] (occL l)
theorem varsL_len (l:List Tm):(varsL l).length≤nodesL l:=by
 unfold varsL
 have h1:=addAll_length [] (occL l)
 have h2:=occ_length.2 l
 have h3:=size_nodes.2 l
 simp only [List.length_nil] at h1
 omega
theorem varsL_nodup (l:List Tm):(varsL l).Nodup:=addAll_nodup (occL l) [] List.nodup_nil
theorem mem_varsL (l:List Tm) (v:Int):v∈varsL l↔v∈occL l:=mem_occ_vars l v
end Go.Proofs.YtnghanpmmbcbbaaGreatDoor
namespace Go.Proofs.YtnghanpmmbcbbaaGreatDoor
open Go.RowKit Go.Maps
def NumR (n:Nat) (m:List Tm) (vs:List Int) (w:World) (e:Ending) (w':World):Prop :=
 ∃A cap B cb,∃cur:List Tm,e=.returned (.tuple #[.slice A n cap,.slice B vs.length cb])∧cur.length=n∧stripL cur=stripL m∧Lst w' A cur cap∧Ints w' B vs∧Below w.heap.size w w'
structure Filling (w:World) (P b:Nat) (B:Option Addr) (vs:List Int) (j:Nat) (W:World):Prop where
 below:Below w.heap.size w W
 lo:w.heap.size≤b
 var:W.cell? ⟨P,0,none⟩=some (.map (some b))
 ne:P≠b
 ints:Ints W B vs
 nb:∀a,B=some a→a.block≠b
 nums:Nums W b (vs.take j)
theorem Filling.next {w:World} {P b:Nat} {B:Option Addr} {vs:List Int} {j:Nat} {W W':World} (h:Filling w P b B vs j W) (hg:W.grownBy W' (some b)) (hn:Nums W' b (vs.take (j+1))):Filling w P b B vs (j+1) W':=by
 refine ⟨h.below.grown hg h.below.size (fun k hk=>by injection hk with hk;rw [←hk];exact h.lo),h.lo,?_,h.ne,fun h0=>?_,h.nb,hn⟩
 ·rw [World.cell?_of_block (a:=⟨P,0,none⟩) (hg.block P (World.block_lt_of_cell? _ _ h.var) (by simpa using h.ne))]
  exact h.var
 ·obtain ⟨g,o,e,hc⟩:=h.ints h0
  refine ⟨g,o,e,fun i hi=>?_⟩
  rw [World.cell?_of_block (a:=⟨g,o+i,none⟩) (hg.block g (World.block_lt_of_cell? _ _ (hc i hi)) (by have:=h.nb _ e;simpa using this))]
  exact hc i hi
end Go.Proofs.YtnghanpmmbcbbaaGreatDoor
namespace Go.Proofs.YtnghanpmmbcbbaaGreatDoor
open Go.RowKit
theorem Held.grown {B:Nat} {w w':World} {v0 v1 v2 v3:Value} {row:Option Nat} (h:Held B w v0 v1 v2 v3) (hg:w.grownBy w' row) (hr:∀k,row=some k→B≠k):Held B w' v0 v1 v2 v3:=by
 have hb:w'.heap[B]?=w.heap[B]?:=hg.block B h.lt (fun e=>hr B e.symm rfl)
 exact ⟨Nat.lt_of_lt_of_le h.lt hg.size,(World.cell?_of_block (a:=⟨B,0,none⟩) hb).trans h.c0,(World.cell?_of_block (a:=⟨B,1,none⟩) hb).trans h.c1,(World.cell?_of_block (a:=⟨B,2,none⟩) hb).trans h.c2,(World.cell?_of_block (a:=⟨B,3,none⟩) hb).trans h.c3,fun j=>(World.frozen?_of_block (a:=⟨B,j,none⟩) hb).trans (h.free j)⟩
end Go.Proofs.YtnghanpmmbcbbaaGreatDoor
namespace Go.Proofs.YtnghanpmmbcbbaaGreatDoor
open Go.ChangeShapes Go.WideShapes Go.ChangeAt Go.RowKit
section
variable {H:Type} {enc:TypeId×Value→H} {W:World} {base:Nat} {spare:Nat→Bool} {held:Bool}
end
end Go.Proofs.YtnghanpmmbcbbaaGreatDoor
namespace Go.Proofs.YtnghanpmmbcbbaaGreatDoor
open Go.ChangeShapes Go.WideShapes Go.ChangeAt Go.RowKit
end Go.Proofs.YtnghanpmmbcbbaaGreatDoor
namespace Go.Proofs.YtnghanpmmbcbbaaGreatDoor
open Go.ChangeShapes Go.WideShapes Go.ChangeAt Go.RowKit
end Go.Proofs.YtnghanpmmbcbbaaGreatDoor
namespace Go.Proofs.YtnghanpmmbcbbaaGreatDoor
open Go.ChangeShapes Go.WideShapes Go.ChangeAt Go.RowKit
set_option linter.unusedVariables false
def weighN (s:ByteArray) (l:List Tm) (m:Int):Int:=if m < 0 then m else weigh l (m - 1 - (s.size:Int) / 8) 64
theorem weigh64 (l:List Tm) (A:Option Addr) (c:Nat) (left:Int) (w:World) (h:Lst w A l c) (h1 : -4611686018427387904≤left) (h2:left≤1000000) :
  Calls Tryz.prog 47 #[.slice A l.length c,.int .i64 left,.int .i64 64] w fun e w'=>e=.returned (.int .i64 (weigh l left 64))∧∃n,w'=w.drewN n:=weigh_at 64 l A c left w h (Nat.le_refl _) h1 h2
theorem weighN_hi (s:ByteArray) (l:List Tm) (m:Int):weighN s l m≤m∨weighN s l m = -1:=by
 unfold weighN
 split
 ·omega
 ·unfold weigh
  split
  ·omega
  ·have:=weighL_hi l (m - 1 - (s.size:Int) / 8) 64 (by omega)
   omega
theorem weighN_size {s:ByteArray} {l:List Tm} {m:Int} (h:0≤weighN s l m):(nodesL l:Int)≤m:=by
 unfold weighN at h
 split at h
 ·omega
 ·have:=weigh_nodes h
  omega
end Go.Proofs.YtnghanpmmbcbbaaGreatDoor
namespace Go.Proofs.YtnghanpmmbcbbaaGreatDoor
open Go.ChangeShapes Go.WideShapes Go.ChangeAt Go.RowKit
end Go.Proofs.YtnghanpmmbcbbaaGreatDoor
