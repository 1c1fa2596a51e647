/-
  SrRuleP.
  SrRule.
  SrProgP.
 SrProg.
 SrGoals.
 SwHyp.
 PgVal.
 PgNeg.
 PgOpnd.
-/
import Derived.Test.YtnghanpmmbcbbaaGreatDoorMq9
import Derived.Test.YtnghanpmmbcbbaaGreatDoorMq20
import Derived.Test.YtnghanpmmbcbbaaGreatDoorMq4
import Derived.Deep.RegionHeld3
import Derived.Deep.CutBlock
import Derived.Test.YtnghanpmmbcbbaaGreatDoorMq11
import Derived.Deep.RegionLaw
import Derived.Deep.LoopGhost
import Derived.Test.YtnghanpmmbcbbaaGreatDoorMq12
import Derived.Test.YtnghanpmmbcbbaaGreatDoorShelf
import Derived.Test.YtnghanpmmbcbbaaGreatDoorMq5
import Derived.Lib.AtoiAllCases
import Derived.Test.YtnghanpmmbcbbaaGreatDoorMq14
namespace Go.Proofs.YtnghanpmmbcbbaaGreatDoor
open Go.RowKit
structure Rl.Good (u:Rl):Prop where
 keep:allAm u.keep=true
 remove:allAm u.remove=true
 guard:allGl u.guard=true
 body:allGl u.body=true
 some:u.keep.length+u.remove.length≠0
 few:u.keep.length+u.remove.length≤4
 guards:u.guard.length≤12
 bodies:u.body.length≤12
 name:u.name.size=0∨rightB u.name.data.toList=true
 noTrue:¬(u.body.length=1∧(u.body.getD 0 default).op=1)
def Rl.labT (u:Rl):List UInt8:=if u.name.size=0 then [] else u.name.data.toList++[32,64,32]
def Rl.headT (u:Rl):List UInt8 :=
 if u.remove.length=0 then txtAm u.keep++[32,61,61,62,32]
 else if u.keep.length=0 then txtAm u.keep++txtAm u.remove++[32,60,61,62,32]
 else txtAm u.keep++[32,92,32]++txtAm u.remove++[32,60,61,62,32]
def Rl.bodT (u:Rl):List UInt8:=(if u.guard.length=0 then [] else txtGl u.guard++[32,124,32])++((if u.body.length=0 then [116,114,117,101] else txtGl u.body)++[46])
def Rl.txt (u:Rl):List UInt8:=u.labT++(u.headT++u.bodT)
open Classical in
noncomputable def Rl.src (u:Rl):List UInt8:=if u.Good then limT u.txt else []
theorem src_bad {u:Rl} (h:¬u.Good):u.src=[]:=if_neg h
theorem src_good {u:Rl} (h:u.Good):u.src=limT u.txt:=if_pos h
theorem txt_strip (σ:Sty):(∀t:Tm,t.strip.txt σ=t.txt σ)∧(∀l,txtL σ (stripL l)=txtL σ l):=by
 refine Tm.induct2 (fun k n s A c a ih=>?_) rfl (fun t r h1 h2=>?_)
 ·have hp:∀i,((stripL a).getD i default).pw=(a.getD i default).pw:=fun i=>by
   rw [stripL_map]
   rcases Nat.lt_or_ge i a.length with h|h
   ·rw [List.getD_eq_getElem?_getD,List.getD_eq_getElem?_getD,List.getElem?_map,List.getElem?_eq_getElem h]
    obtain ⟨k',n',s',A',c',a'⟩:=a[i]
    simp only [Option.map_some,Option.getD_some,Tm.strip,Tm.pw,Tm.name]
   ·rw [List.getD_eq_getElem?_getD,List.getD_eq_getElem?_getD,List.getElem?_map,List.getElem?_eq_none h]
    rfl
  simp only [Tm.strip,Tm.txt,ih,hp]
 ·simp only [stripL,txtL,h1,h2]
theorem rightL_strip (l:List Tm):rightL (stripL l)=rightL l:=by unfold rightL;rw [form_strip.2,size_strip.2,depth_strip.2]
theorem atomB_strip (s:List UInt8) (l:List Tm):atomB s (stripL l)=atomB s l:=by unfold atomB;rw [stripL_len,rightL_strip]
theorem goalB_strip (op:Int) (s:ByteArray) (l:List Tm):goalB op s (stripL l)=goalB op s l:=by unfold goalB builtinB;rw [atomB_strip,stripL_len,rightL_strip]
theorem am_same_key {x y:Am} (h:x.key=y.key):x.ok=y.ok∧x.tx=y.tx:=by
 obtain ⟨s,A,c,a⟩:=x
 obtain ⟨s',A',c',a'⟩:=y
 simp only [Am.key,Am.hd,Prod.mk.injEq,List.cons.injEq,Value.string.injEq,and_true] at h
 obtain ⟨rfl,h2⟩:=h
 have e1:atomB s.data.toList a=atomB s.data.toList a':=by rw [←atomB_strip,h2,atomB_strip]
 have e2:txtL plain a=txtL plain a':=by rw [←(txt_strip plain).2,h2,(txt_strip plain).2]
 exact ⟨e1,by unfold Am.tx atomT;simp only;rw [e1,e2]⟩
theorem gl_same_key {x y:Gl} (h:x.key=y.key):x.ok=y.ok∧x.tx=y.tx∧x.op=y.op:=by
 obtain ⟨p,s,A,c,a⟩:=x
 obtain ⟨p',s',A',c',a'⟩:=y
 simp only [Gl.key,Gl.hd,Prod.mk.injEq,List.cons.injEq,Value.string.injEq,Value.int.injEq,true_and,and_true] at h
 obtain ⟨⟨rfl,rfl⟩,h2⟩:=h
 have e1:goalB p s a=goalB p s a':=by rw [←goalB_strip,h2,goalB_strip]
 have e2:txtL plain a=txtL plain a':=by rw [←(txt_strip plain).2,h2,(txt_strip plain).2]
 exact ⟨e1,by unfold Gl.tx goalT goalW;simp only;rw [e1,e2],rfl⟩
theorem allAm_map (l:List Am):allAm l=(l.map Am.ok).all id:=by unfold allAm;rw [List.all_map];rfl
theorem allGl_map (l:List Gl):allGl l=(l.map Gl.ok).all id:=by unfold allGl;rw [List.all_map];rfl
theorem allAm_key {l m:List Am} (h:l.map Am.key=m.map Am.key):allAm l=allAm m:=by rw [allAm_map,allAm_map,keys_map (fun x y e=>(am_same_key e).1) h]
theorem allGl_key {l m:List Gl} (h:l.map Gl.key=m.map Gl.key):allGl l=allGl m:=by rw [allGl_map,allGl_map,keys_map (fun x y e=>(gl_same_key e).1) h]
theorem txtAm_key {l m:List Am} (h:l.map Am.key=m.map Am.key):txtAm l=txtAm m:=by unfold txtAm;rw [keys_map (fun x y e=>(am_same_key e).2) h]
theorem txtGl_key {l m:List Gl} (h:l.map Gl.key=m.map Gl.key):txtGl l=txtGl m:=by unfold txtGl;rw [keys_map (fun x y e=>(gl_same_key e).2.1) h]
theorem opGl_key {l m:List Gl} (h:l.map Gl.key=m.map Gl.key):(l.getD 0 default).op=(m.getD 0 default).op:=by
 have h2:=keys_map (f:=Gl.op) (fun x y e=>(gl_same_key e).2.2) h
 have h3:∀k:List Gl,(k.getD 0 default).op=(k.map Gl.op).getD 0 (default:Gl).op:=fun k=>by cases k<;>rfl
 rw [h3,h3,h2]
theorem Rl.Twin.src {u v:Rl} (h:u.Twin v):u.src=v.src:=by
 have hg:u.Good↔v.Good:=by
  constructor
  ·intro g
   exact ⟨by rw [←allAm_key h.keep];exact g.keep,by rw [←allAm_key h.remove];exact g.remove,by rw [←allGl_key h.guard];exact g.guard,by rw [←allGl_key h.body];exact g.body,by rw [←map_len h.keep,← map_len h.remove];exact g.some,by rw [←map_len h.keep,← map_len h.remove];exact g.few,by rw [←map_len h.guard];exact g.guards,by rw [←map_len h.body];exact g.bodies,by rw [←h.name];exact g.name,by rw [←map_len h.body,← opGl_key h.body];exact g.noTrue⟩
  ·intro g
   exact ⟨by rw [allAm_key h.keep];exact g.keep,by rw [allAm_key h.remove];exact g.remove,by rw [allGl_key h.guard];exact g.guard,by rw [allGl_key h.body];exact g.body,by rw [map_len h.keep,map_len h.remove];exact g.some,by rw [map_len h.keep,map_len h.remove];exact g.few,by rw [map_len h.guard];exact g.guards,by rw [map_len h.body];exact g.bodies,by rw [h.name];exact g.name,by rw [map_len h.body,opGl_key h.body];exact g.noTrue⟩
 have ht:u.txt=v.txt:=by
  unfold Rl.txt Rl.labT Rl.headT Rl.bodT
  rw [h.name,map_len h.keep,map_len h.remove,map_len h.guard,map_len h.body,txtAm_key h.keep,txtAm_key h.remove,txtGl_key h.guard,txtGl_key h.body]
 by_cases hv:v.Good
 ·rw [src_good hv,src_good (hg.2 hv),ht]
 ·rw [src_bad hv,src_bad fun e=>hv (hg.1 e)]
end Go.Proofs.YtnghanpmmbcbbaaGreatDoor
namespace Go.Proofs.YtnghanpmmbcbbaaGreatDoor
open Go.RowKit
end Go.Proofs.YtnghanpmmbcbbaaGreatDoor
namespace Go.Proofs.YtnghanpmmbcbbaaGreatDoor
open Go.RowKit
def Dc.ok (d:Dc):Bool:=rightB d.name.data.toList&&(decide (0≤d.arity)&&decide (d.arity≤6))
def Dc.tx (d:Dc):List UInt8:=d.name.data.toList++[47]++Lib.itoa d.arity
def dsT (l:List Dc):List UInt8:=joinS 0 (l.map Dc.tx) []
def dlineT (l:List Dc):List UInt8:=if l.length=0 then [] else [99,111,110,115,116,114,97,105,110,116,32]++dsT l++[46,10]
noncomputable def linesR (l:List Rl):List UInt8:=l.flatMap fun r=>r.numR.src++[10]
structure Pm.Good (p:Pm):Prop where
 d30:p.decls.length≤30
 r40:p.rules.length≤40
 decls:p.decls.all Dc.ok=true
 rules:∀r∈p.rules,r.numR.src≠[]
open Classical in
noncomputable def Pm.src (p:Pm):List UInt8:=if p.Good then limT (dlineT p.decls++linesR p.rules) else []
theorem limT_len (l:List UInt8):(limT l).length≤16384:=by
 unfold limT
 split
 ·simp
 ·omega
theorem src_len (u:Rl):u.src.length≤16384:=by
 by_cases h:u.Good
 ·rw [src_good h];exact limT_len _
 ·rw [src_bad h];simp
theorem dc_tx_len {d:Dc} (h:d.ok=true) (hn:d.name.size≤100):d.tx.length≤112:=by
 simp only [Dc.ok,Bool.and_eq_true,decide_eq_true_eq] at h
 have h1:=itoa_len (n:=d.arity) (by omega) (by omega)
 have h2:d.name.data.toList.length=d.name.size:=Array.length_toList
 simp only [Dc.tx,List.length_append,List.length_cons,List.length_nil]
 omega
theorem dsT_len {l:List Dc} (h:l.all Dc.ok=true) (hn:∀d∈l,d.name.size≤100):(dsT l).length≤l.length*114:=by
 have:=joinS_len 112 (l.map Dc.tx) 0 [] (fun x hx=>by
  obtain ⟨y,hy,rfl⟩:=List.mem_map.1 hx
  exact dc_tx_len (List.all_eq_true.1 h y hy) (hn y hy))
 simpa [dsT] using this
theorem linesR_len (l:List Rl):(linesR l).length≤l.length*16385:=by
 induction l with
 | nil=>simp [linesR]
 | cons r l ih =>
  have h:=src_len r.numR
  unfold linesR at ih ⊢
  rw [List.flatMap_cons,List.length_append,List.length_append,List.length_cons,List.length_cons,List.length_nil]
  omega
theorem linesR_next {l:List Rl} {j:Nat} (h:j < l.length):linesR (l.take (j+1))=linesR (l.take j)++((l.getD j default).numR.src++[10]):=by
 rw [rl_take_next h]
 unfold linesR
 rw [List.flatMap_append]
 simp
end Go.Proofs.YtnghanpmmbcbbaaGreatDoor
namespace Go.Proofs.YtnghanpmmbcbbaaGreatDoor
open Go.RowKit
end Go.Proofs.YtnghanpmmbcbbaaGreatDoor
namespace Go.Proofs.YtnghanpmmbcbbaaGreatDoor
open Go.RowKit
def goalsSrc (l:List Gl):List UInt8:=if allGl l=true∧l.length≤40 then limT (txtGl l) else []
end Go.Proofs.YtnghanpmmbcbbaaGreatDoor
namespace Go.Proofs.YtnghanpmmbcbbaaGreatDoor
open Go.RowKit
structure Writes:Prop where
 rule:∀(r:Rl) (W:World),r.At W→r.Tiny→r.name.size≤2500→Laid W→Calls Tryz.prog 10 #[r.val] W fun e w'=>e=.returned (.string (S r.numR.src))∧Below W.heap.size W w'
 number:∀(r:Rl) (w0 W:World),r.At w0→Below w0.heap.size w0 W→r.Tiny→r.name.size≤2500→Calls Tryz.prog 13 #[r.val] W (NumP w0 r W)
 program:∀(p:Pm) (W:World),p.At W→p.decls.length≤60→p.rules.length≤45→(∀r∈p.rules,r.Tiny∧r.name.size≤2500)→Laid W→Calls Tryz.prog 16 #[p.val] W fun e w'=>e=.returned (.string (S p.src))∧Below W.heap.size W w'
 goals:∀(l:List Gl) (A:Option Addr) (c:Nat) (W:World),GlLst W A l c→l.length≤60→(∀x∈l,nodesL x.args≤600)→Laid W→Calls Tryz.prog 18 #[.slice A l.length c] W fun e w'=>e=.returned (.string (S (goalsSrc l)))∧Below W.heap.size W w'
 example_:∀W:World,Laid W→Calls Tryz.prog 9 #[] W fun e w'=>e=.returned (.bool true)∧Below W.heap.size W w'
end Go.Proofs.YtnghanpmmbcbbaaGreatDoor
namespace Go.Proofs.YtnghanpmmbcbbaaGreatDoor
open Go.RowKit
theorem val_top:∀(l:List UInt8),l.foldl (fun (n:Int) c=>min (n*10+(c.toNat - 48:Int)) 2147483649) 2147483649=2147483649∨∃c∈l,digB c=false
 | []=>.inl rfl
 | c :: l=>by
  rw [List.foldl_cons]
  by_cases hc:digB c=true
  ·have:48≤c.toNat:=by simp only [digB,decide_eq_true_eq] at hc;omega
   rw [Int.min_eq_right (by omega)]
   exact (val_top l).imp id fun ⟨x,hx,hd⟩=>⟨x,List.mem_cons_of_mem _ hx,hd⟩
  ·exact .inr ⟨c,List.mem_cons_self,by simpa using hc⟩
theorem val_parse:∀(l:List UInt8) (n:Nat),(∀c∈l,digB c=true)→n≤2147483648→l.foldl (fun (n:Int) c=>min (n*10+(c.toNat - 48:Int)) 2147483649) (n:Int)≤2147483648 →
  ∃m:Nat,Lib.parseUint10 n l=.ok m∧(m:Int)=l.foldl (fun (n:Int) c=>min (n*10+(c.toNat - 48:Int)) 2147483649) (n:Int)∧m≤2147483648
 | [],n,_,hn,_=>⟨n,rfl,rfl,hn⟩
 | c :: l,n,h,hn,hv=>by
  have hc:=h c List.mem_cons_self
  simp only [digB,decide_eq_true_eq] at hc
  rw [List.foldl_cons] at hv ⊢
  by_cases hs:(n:Int)*10+(c.toNat - 48:Int)≤2147483648
  ·have e:min ((n:Int)*10+(c.toNat - 48:Int)) 2147483649=((n*10+(c.toNat - 48):Nat):Int):=by rw [Int.min_eq_left (by omega)];omega
   rw [e] at hv ⊢
   obtain ⟨m,h1,h2,h3⟩:=val_parse l (n*10+(c.toNat - 48)) (fun x hx=>h x (List.mem_cons_of_mem _ hx)) (by omega) hv
   refine ⟨m,?_,h2,h3⟩
   rw [Lib.parseUint10,if_pos hc,if_neg (by omega),if_neg (by omega)]
   exact h1
  ·rw [Int.min_eq_right (by omega)] at hv
   rcases val_top l with e|⟨x,hx,hd⟩
   ·rw [e] at hv;omega
   ·rw [h x (List.mem_cons_of_mem _ hx)] at hd;cases hd
theorem val_atoi {x:List UInt8} (hne:x≠[]) (hd:∀c∈x,digB c=true) (hv:valD x≤2147483648):Lib.atoiAll x=.ok (valD x)∧0≤valD x:=by
 obtain ⟨m,h1,h2,h3⟩:=val_parse x 0 hd (by omega) hv
 have h2':(m:Int)=valD x:=h2
 rw [←h2']
 rcases x with _|⟨c,r⟩
 ·exact absurd rfl hne
 ·have hc:=hd c List.mem_cons_self
  simp only [digB,decide_eq_true_eq] at hc
  rw [Lib.atoiAll_plain c r (by omega) (by omega),Lib.parseMag,if_neg hne,h1]
  simp only [Lib.signless]
  rw [if_neg (by omega)]
  exact ⟨rfl,by omega⟩
theorem value_at (k p:Int) (x:List UInt8) (hne:x≠[]) (hd:∀c∈x,digB c=true) (hv:valD x≤2147483648) (hx:x.length≤16384) (w:World) :
  Calls Tryz.prog 177 #[.agg #[.int .i64 k,.int .i64 p,.string (S x)]] w fun e w'=>e=.returned (.int .i64 (valD x))∧Below w.heap.size w w':=by
 have hsz:(S x).size≤9223372036854775806:=by show x.toArray.size≤_;simp;omega
 have Q:=Lib.hid (fun W=>Tryz.strconv_Atoi_ok (S x) hsz (valD x) (val_atoi hne hd hv).1 W)
 clear hne hd hv hx hsz
 go_enter Tryz.func177,Tryz.ntmps177
 go_wp2_with fail
 refine (Q.out _).mono ?_
 rintro e w1 ⟨rfl,hw⟩
 have hb:Below (w.alloc (.cells #[.int .i64 k,.int .i64 p,.string (S x)] 135)).heap.size (w.alloc (.cells #[.int .i64 k,.int .i64 p,.string (S x)] 135)) w1:=by
  rcases hw with rfl|⟨t,rfl⟩
  ·exact Below.refl _ _
  ·exact Lib.bytesWorld_below _ _ _
 have HB:=Lib.hid ((below1 w _).trans (hb.mono (by simp)))
 clear hw hb
 go_wp2_with fail
 go_ret
 exact ⟨rfl,HB.out⟩
theorem p_int_at (n:Int) (w:World):Calls Tryz.prog 237 #[.int .i64 n] w fun e w'=>e=.returned (.agg #[.int .i64 0,.int .i64 n,.string ⟨#[]⟩,.slice none 0 0])∧Below w.heap.size w w':=by
 go_enter Tryz.func237,Tryz.ntmps237
 go_wp2
 exact bodyPost_ret (v:=.agg #[.int .i64 0,.int .i64 n,.string ⟨#[]⟩,.slice none 0 0]) (by simp [results,Tryz.results237,go_sem]) rfl ⟨rfl,(Below.refl _ _).alloc (Nat.le_refl _) _⟩
theorem p_var_at (n:Int) (w:World):Calls Tryz.prog 238 #[.int .i64 n] w fun e w'=>e=.returned (.agg #[.int .i64 1,.int .i64 n,.string ⟨#[]⟩,.slice none 0 0])∧Below w.heap.size w w':=by
 go_enter Tryz.func238,Tryz.ntmps238
 go_wp2
 exact bodyPost_ret (v:=.agg #[.int .i64 1,.int .i64 n,.string ⟨#[]⟩,.slice none 0 0]) (by simp [results,Tryz.results238,go_sem]) rfl ⟨rfl,(Below.refl _ _).alloc (Nat.le_refl _) _⟩
set_option maxRecDepth 10000 in
theorem adds_at (x:List UInt8) (w:World) {b:Bool} (hb:decide (x∈addS)=b):Calls Tryz.prog 218 #[.string (S x)] w fun e w'=>e=.returned (.bool b)∧w=w':=by
 obtain ⟨b1,h1⟩:∃b,(x==[43])=b:=⟨_,rfl⟩
 obtain ⟨b2,h2⟩:∃b,(x==[45])=b:=⟨_,rfl⟩
 have HE:=Lib.hid (show (b1||b2)=b by
  rw [←h1,← h2,← hb,Bool.eq_iff_iff]
  simp [addS])
 clear hb
 cases b1<;>cases b2
 all_goals
  go_enter Tryz.func218,Tryz.ntmps218
  go_wp2_with fail
  go_ret
  exact ⟨by rw [←HE.out];rfl,rfl⟩
set_option maxRecDepth 10000 in
theorem multiplies_at (x:List UInt8) (w:World) {b:Bool} (hb:decide (x∈mulS)=b):Calls Tryz.prog 228 #[.string (S x)] w fun e w'=>e=.returned (.bool b)∧w=w':=by
 obtain ⟨b1,h1⟩:∃b,(x==[42])=b:=⟨_,rfl⟩
 obtain ⟨b2,h2⟩:∃b,(x==[47])=b:=⟨_,rfl⟩
 obtain ⟨b3,h3⟩:∃b,(x==[37])=b:=⟨_,rfl⟩
 have HE:=Lib.hid (show (b1||(b2||b3))=b by
  rw [←h1,← h2,← h3,← hb,Bool.eq_iff_iff]
  simp [mulS])
 clear hb
 cases b1<;>cases b2<;>cases b3
 all_goals
  go_enter Tryz.func228,Tryz.ntmps228
  go_wp2_with fail
  go_ret
  exact ⟨by rw [←HE.out];rfl,rfl⟩
end Go.Proofs.YtnghanpmmbcbbaaGreatDoor
namespace Go.Proofs.YtnghanpmmbcbbaaGreatDoor
open Go.RowKit
theorem sit_plain (lo:Nat) (w:World) {k n:Int} (hk:Fits k) (hn:Fits n):SitG elTm lo w [.mk k n ⟨#[]⟩ none 0 []] :=
 ⟨fun x hx=>by rw [List.mem_singleton.1 hx];exact (At_iff _ _).2 ⟨⟨hk,hn,Nat.zero_le _⟩,Lst.nil w⟩,by simp [Elt.blkL,elTm,Tm.blk,blkA,blkL],fun b hb=>(by simp [Elt.blkL,elTm,Tm.blk,blkA,blkL] at hb),fun b hb=>(by simp [Elt.blkL,elTm,Tm.blk,blkA,blkL] at hb)⟩
theorem val_ge {x:List UInt8} (hne:x≠[]) (hd:∀c∈x,digB c=true) (hv:valD x≤2147483648):0≤valD x:=(val_atoi hne hd hv).2
section
variable {R:Nat} {A:Option Addr} {c:Nat} {l:List Tk}
theorem num_facts (hg:GoodT l) {i:Nat} (hi:i < l.length) (hk:(l.getD i default).1=3):(l.getD i default).2.2≠[]∧(∀c∈(l.getD i default).2.2,digB c=true)∧valD (l.getD i default).2.2≤2147483648:=by
 refine ⟨fun e=>?_,hg.nums i hi hk⟩
 have:=hg.kinds i hi
 rw [e,hk] at this
 exact absurd this (by decide)
def NegR (R:Nat) (A:Option Addr) (c:Nat) (l:List Tk) (i p:Nat) (w:World) (en:Ending) (w':World):Prop :=
 ∃(n:Int) (j:Nat) (er:Int),en=.returned (.tuple #[.agg #[.int .i64 0,.int .i64 n,.string ⟨#[]⟩,.slice none 0 0],.int .i64 er])∧Kq R w w'∧Pq w' R A c l j∧Fits n ∧
  ((er=0∧(l.getD i default).1=3∧(l.getD i default).2.1=p∧j=i+1∧n = -valD (l.getD i default).2.2)∨(er=16∧¬((l.getD i default).1=3∧(l.getD i default).2.1=p)∧j=i))
theorem Pq.put4 {w W:World} {j:Nat} (hR:R < w.heap.size) (hk:Kq R w W) (hp:Pq W R A c l j) (v0 v1 v2 v3:Value) :
  Kq R w ((((W.setCell ⟨w.heap.size,0,none⟩ v0).setCell ⟨w.heap.size,1,none⟩ v1).setCell ⟨w.heap.size,2,none⟩ v2).setCell ⟨w.heap.size,3,none⟩ v3)∧Pq ((((W.setCell ⟨w.heap.size,0,none⟩ v0).setCell ⟨w.heap.size,1,none⟩ v1).setCell ⟨w.heap.size,2,none⟩ v2).setCell ⟨w.heap.size,3,none⟩ v3) R A c l j :=
 have h:=end4 hR hk hp (SitG.nil (E:=elTm) (w.heap.size+1) W) (Nat.lt_succ_self _) v0 v1 v2 v3
 ⟨h.1,h.2.1⟩
set_option maxHeartbeats 4000000 in
set_option maxRecDepth 10000 in
theorem negative_at (hg:GoodT l) (i q:Nat) (w:World) (h:Pq w R A c l i) :
  Calls Tryz.prog 239 #[.pointer (some ⟨R,0,none⟩),.int .i64 (q:Int)] w (NegR R A c l i q w):=by
 have HI:=Lib.hid (show (i:Int)+1≤16386 by have:=h.ilt;have:=hg.small;omega)
 have hi1:(i:Int)+1≤9223372036854775807:=by have:=HI.out;omega
 obtain ⟨t,ht⟩:∃t,l.getD i default=t:=⟨_,rfl⟩
 obtain ⟨k,p,x⟩:=t
 have HF:=Lib.hid (show k=3→x≠[]∧(∀c∈x,digB c=true)∧valD x≤2147483648 from fun hk=>by have:=num_facts hg h.ilt (by rw [ht];exact hk);rw [ht] at this;exact this)
 have HX:=Lib.hid (show x.length≤16384 by have:=hg.texts i h.ilt;rw [ht] at this;exact this)
 have HN:=Lib.hid (show x≠[]→i+1 < l.length from fun hne=>good_next hg h.ilt (by rw [ht];exact hne))
 have Q:=Lib.hid (p_next_of (h.alloc (.cells #[.int .i64 0,.int .i64 0,.string ⟨#[]⟩,.slice none 0 0] 69)) ht)
 have H:=Lib.hid h
 have HT:=Lib.hid ht
 have hR:=h.lt
 have hTR:w.heap.size≠R:=by omega
 obtain ⟨b,hb⟩:∃b,(k != 3)=b:=⟨_,rfl⟩
 obtain ⟨b2,hb2⟩:∃b,((p:Int) != (q:Int))=b:=⟨_,rfl⟩
 have HBk:=Lib.hid hb
 have HBp:=Lib.hid hb2
 clear h ht hg
 have HB0:=Lib.hid (BoxL.new w [.int .i64 0,.int .i64 0,.string ⟨#[]⟩,.slice none 0 0] 69)
 have HA0:=Lib.hid (show Kq R w (w.alloc (.cells #[.int .i64 0,.int .i64 0,.string ⟨#[]⟩,.slice none 0 0] 69)) from (Kp.refl R Z0 w).alloc _)
 cases b
 ·obtain rfl:k=3:=by simpa using HBk.out
  obtain ⟨hne,hd,hv⟩:=HF.out rfl
  have hv0:=val_ge hne hd hv
  have QV:=Lib.hid (fun W=>value_at 3 (p:Int) x hne hd hv HX.out W)
  have HV:=Lib.hid (And.intro hv0 hv)
  have HNE:=Lib.hid hne
  clear hne hd hv hv0
  cases b2
  ·have HW:IntKind.i64.wrap (-valD x) = -valD x:=IntWalk.i64_in _ (by have:=HV.out;omega)
   generalize hvx:valD x=vx at *
   have QI:=Lib.hid (fun W=>p_int_at (-vx) W)
   go_enter Tryz.func239,Tryz.ntmps239
   go_wp2_with (first
    | (go_at_call 94;refine Q.out.mono ?_;rintro en w2 ⟨rfl,hb2⟩;have hb3:=hb2.alloc hb2.size (.cells #[.int .i64 3,.int .i64 (p:Int),.string (S x)] 135);have HP:=Lib.hid ((H.out.alloc _).below hb3);have l1:=HP.out.l1;have f1:=HP.out.fr 1;have H3:=Lib.hid hb3;have hsz:w.heap.size+1≤w2.heap.size:=(by have:=hb2.size;simpa using this);have hne2:¬w2.heap.size=R:=(by omega);have HP1:=Lib.hid (HP.out.set (q:=i+1) (HN.out HNE.out));have HB1:=Lib.hid ((HB0.out.below hb3).put (p:=⟨R,1,none⟩) hTR.symm (.int .i64 ((i+1:Nat):Int)));have HK1:=Lib.hid ((HA0.out.trans (Below.kp hb3 R Z0)).set 1 none (.int .i64 ((i+1:Nat):Int)));clear hb2 hb3)
    | (go_at_call 177;refine (QV.out _).mono ?_;rintro en w3 ⟨rfl,hb3⟩;have HP2:=Lib.hid (HP1.out.below hb3);have HB2:=Lib.hid (HB1.out.below hb3);have HK2:=Lib.hid (HK1.out.trans (Below.kp hb3 R Z0));clear hb3)
    | (go_at_call 237;refine (QI.out _).mono ?_;rintro en w4 ⟨rfl,hb4⟩;have HP3:=Lib.hid (HP2.out.below hb4);obtain ⟨c0,c1,c2,c3,f0,f1,f2,f3⟩:=(HB2.out.below hb4).get4;have HK3:=Lib.hid (HK2.out.trans (Below.kp hb4 R Z0));clear hb4))
   refine bodyPost_ret (v:=.tuple #[.agg #[.int .i64 0,.int .i64 (-vx),.string ⟨#[]⟩,.slice none 0 0],.int .i64 0]) (by simp [results,Tryz.results239,go_sem,c0,c1,c2,c3]) rfl ?_
   obtain ⟨e1,e2⟩:=Pq.put4 hR HK3.out HP3.out (.int .i64 0) (.int .i64 (-vx)) (.string ⟨#[]⟩) (.slice none 0 0)
   exact ⟨-vx,i+1,0,rfl,e1,e2,by have:=HV.out;unfold Fits;omega,.inl ⟨rfl,by rw [HT.out],by rw [HT.out];show p=q;have:=HBp.out;simp at this;omega,rfl,by rw [HT.out,← hvx]⟩⟩
  ·go_enter Tryz.func239,Tryz.ntmps239
   go_wp2_with (go_at_call 94;refine Q.out.mono ?_;rintro en w2 ⟨rfl,hb2⟩;have hb3:=hb2.alloc hb2.size (.cells #[.int .i64 3,.int .i64 (p:Int),.string (S x)] 135);have HP:=Lib.hid ((H.out.alloc _).below hb3);obtain ⟨c0,c1,c2,c3,f0,f1,f2,f3⟩:=(HB0.out.below hb3).get4;have HK1:=Lib.hid (HA0.out.trans (Below.kp hb3 R Z0));clear hb2 hb3)
   refine bodyPost_ret (v:=.tuple #[.agg #[.int .i64 0,.int .i64 0,.string ⟨#[]⟩,.slice none 0 0],.int .i64 16]) (by simp [results,Tryz.results239,go_sem,c0,c1,c2,c3]) rfl ?_
   obtain ⟨e1,e2⟩:=Pq.put4 hR HK1.out HP.out (.int .i64 0) (.int .i64 0) (.string ⟨#[]⟩) (.slice none 0 0)
   exact ⟨0,i,16,rfl,e1,e2,by unfold Fits;omega,.inr ⟨rfl,by rw [HT.out];rintro ⟨_,h2⟩;have h3:p=q:=h2;have:=HBp.out;simp at this;omega,rfl⟩⟩
 ·go_enter Tryz.func239,Tryz.ntmps239
  go_wp2_with (go_at_call 94;refine Q.out.mono ?_;rintro en w2 ⟨rfl,hb2⟩;have hb3:=hb2.alloc hb2.size (.cells #[.int .i64 k,.int .i64 (p:Int),.string (S x)] 135);have HP:=Lib.hid ((H.out.alloc _).below hb3);obtain ⟨c0,c1,c2,c3,f0,f1,f2,f3⟩:=(HB0.out.below hb3).get4;have HK1:=Lib.hid (HA0.out.trans (Below.kp hb3 R Z0));clear hb2 hb3)
  refine bodyPost_ret (v:=.tuple #[.agg #[.int .i64 0,.int .i64 0,.string ⟨#[]⟩,.slice none 0 0],.int .i64 16]) (by simp [results,Tryz.results239,go_sem,c0,c1,c2,c3]) rfl ?_
  obtain ⟨e1,e2⟩:=Pq.put4 hR HK1.out HP.out (.int .i64 0) (.int .i64 0) (.string ⟨#[]⟩) (.slice none 0 0)
  exact ⟨0,i,16,rfl,e1,e2,by unfold Fits;omega,.inr ⟨rfl,by rw [HT.out];rintro ⟨h2,_⟩;have h3:k=3:=h2;have:=HBk.out;rw [h3] at this;exact absurd this (by decide),rfl⟩⟩
end
end Go.Proofs.YtnghanpmmbcbbaaGreatDoor
namespace Go.Proofs.YtnghanpmmbcbbaaGreatDoor
open Go.RowKit
section
variable {R:Nat} {A:Option Addr} {c:Nat} {l:List Tk}
theorem opnd_rest {l:List Tk} {i:Nat} (hi:i < l.length) {ex:Rd1 Tm} {ns:List (List UInt8)} (h3:(l.getD i default).1≠3) (h2:(l.getD i default).1≠2) (hm:isS [45] (leftT l i)=false) (hp:isS [40] (leftT l i)=false) :
  opndS ex (leftT l i) ns=match atomS ex (leftT l i) ns with
   | .ok x r2 ns2=>.ok (funS x.1 x.2) r2 ns2
   | .err l e=>.err l e:=by
 rw [left_cons hi] at hm hp ⊢
 simp only [opndS,if_neg h3,if_neg h2,hm,hp]
 by_cases h1:(l.getD i default).1=1
 ·rw [if_pos h1]
  generalize atomS ex _ ns=q
  cases q<;>rfl
 ·rw [if_neg h1]
  simp only [atomS,nmS,if_pos h1]
  rfl
theorem opndS_int (ex:Rd1 Tm) (t:List UInt8) (g:Bool) (r:List Tok) (ns:List (List UInt8)):opndS ex ((3,t,g) :: r) ns=.ok (intS (valD t)) r ns:=by simp [opndS]
theorem opndS_var (ex:Rd1 Tm) (t:List UInt8) (g:Bool) (r:List Tok) (ns:List (List UInt8)):opndS ex ((2,t,g) :: r) ns=.ok (varS (nameS t ns).1) r (nameS t ns).2:=by simp [opndS]
theorem sit_end {w W:World} {j:Nat} {n:Int} {k:Int} (hR:R < w.heap.size) (hk:Kq R w W) (hp:Pq W R A c l j) (h0:Fits k) (hn:Fits n) :
  Kq R w ((((W.setCell ⟨w.heap.size,0,none⟩ (.int .i64 k)).setCell ⟨w.heap.size,1,none⟩ (.int .i64 n)).setCell ⟨w.heap.size,2,none⟩ (.string ⟨#[]⟩)).setCell ⟨w.heap.size,3,none⟩ (.slice none 0 0)) ∧
  Pq ((((W.setCell ⟨w.heap.size,0,none⟩ (.int .i64 k)).setCell ⟨w.heap.size,1,none⟩ (.int .i64 n)).setCell ⟨w.heap.size,2,none⟩ (.string ⟨#[]⟩)).setCell ⟨w.heap.size,3,none⟩ (.slice none 0 0)) R A c l j ∧
  SitG elTm w.heap.size ((((W.setCell ⟨w.heap.size,0,none⟩ (.int .i64 k)).setCell ⟨w.heap.size,1,none⟩ (.int .i64 n)).setCell ⟨w.heap.size,2,none⟩ (.string ⟨#[]⟩)).setCell ⟨w.heap.size,3,none⟩ (.slice none 0 0)) [.mk k n ⟨#[]⟩ none 0 []] :=
 ⟨(Pq.put4 hR hk hp _ _ _ _).1,(Pq.put4 hR hk hp _ _ _ _).2,sit_plain _ _ h0 hn⟩
theorem sit_args {lo:Nat} {w:World} {u:Am} (h:SitG elAm lo w [u]):SitG elTm lo w u.args:=by
 have hat:=h.at_ u (List.mem_singleton.2 rfl)
 have e:elAm.blkL [u]=blkA u.at_ u.args.length++elTm.blkL u.args:=by rw [Elt.blkL_one];show blkA u.at_ u.args.length++blkL u.args=_;rw [blkL_flat];rfl
 refine ⟨fun x hx=>hat.1.2.mem hx,?_,fun b hb=>h.bd b (by rw [e];exact List.mem_append.2 (.inr hb)),fun b hb=>h.fz b (by rw [e];exact List.mem_append.2 (.inr hb))⟩
 have:=h.nd
 rw [e] at this
 exact (List.nodup_append.1 this).2.1
set_option maxHeartbeats 4000000 in
set_option maxRecDepth 100000 in
theorem opnd_at (hg:GoodT l) {a n:Nat} {ex:Rd1 Tm} (hE:ExprQ R A c l a n ex) (i:Nat) (w:World) (h:Pq w R A c l i) (ha:a≤i) (hn:(leftT l i).length≤n+1) :
  Calls Tryz.prog 229 #[.pointer (some ⟨R,0,none⟩)] w (ElR rdTm (opndS ex) R A c l a i w):=by
 have HG:=Lib.hid hg
 have hil:=h.ilt
 have HI:=Lib.hid h.ilt
 have HI6:=Lib.hid (show (i:Int)+1≤16386 by have:=h.ilt;have:=hg.small;omega)
 have hi1:(i:Int)+1≤9223372036854775807:=by have:=HI6.out;omega
 obtain ⟨t,ht⟩:∃t,l.getD i default=t:=⟨_,rfl⟩
 obtain ⟨k,p,x⟩:=t
 have HF:=Lib.hid (show k=3→x≠[]∧(∀c∈x,digB c=true)∧valD x≤2147483648 from fun hk=>by have:=num_facts hg h.ilt (by rw [ht];exact hk);rw [ht] at this;exact this)
 have HX:=Lib.hid (show x.length≤16384 by have:=hg.texts i h.ilt;rw [ht] at this;exact this)
 have HO:=Lib.hid (show p≤16384 by have:=hg.offs i h.ilt;rw [ht] at this;exact this)
 have HKd:=Lib.hid (show k=kindO x by have:=hg.kinds i h.ilt;rw [ht] at this;exact this)
 have HN:=Lib.hid (show x≠[]→i+1 < l.length from fun hne=>good_next hg h.ilt (by rw [ht];exact hne))
 have HC:=Lib.hid (show leftT l i=(k,x,markT l i) :: leftT l (i+1) by rw [left_cons h.ilt,ht])
 have Q:=Lib.hid (p_next_of (h.alloc (.cells #[.int .i64 0,.int .i64 0,.string ⟨#[]⟩,.slice none 0 0] 69)) ht)
 have H:=Lib.hid h
 have HT:=Lib.hid ht
 have HA:=Lib.hid ha
 have hR:=h.lt
 have hTR:w.heap.size≠R:=by omega
 have HL:=Lib.hid (show (leftT l (i+1)).length≤n by rw [left_length] at hn ⊢;omega)
 have QE:=Lib.hid (fun W (hW:Pq W R A c l (i+1))=>group_at hg hE (i+1) W hW (by omega) HL.out)
 have QA:=Lib.hid (fun W (hW:Pq W R A c l i)=>atom_at hg hE i W hW ha hn)
 have QN:=Lib.hid (fun W (hW:Pq W R A c l (i+1))=>negative_at hg (i+1) (p+1) W hW)
 have HB0:=Lib.hid (BoxL.new w [.int .i64 0,.int .i64 0,.string ⟨#[]⟩,.slice none 0 0] 69)
 have HA0:=Lib.hid (show Kq R w (w.alloc (.cells #[.int .i64 0,.int .i64 0,.string ⟨#[]⟩,.slice none 0 0] 69)) from (Kp.refl R Z0 w).alloc _)
 clear h ht hg hE hn ha hil
 by_cases k3:k=3
 ·subst k3
  obtain ⟨hne,hd,hv⟩:=HF.out rfl
  have hv0:=val_ge hne hd hv
  have QV:=Lib.hid (fun W=>value_at 3 (p:Int) x hne hd hv HX.out W)
  have QI:=Lib.hid (fun W=>p_int_at (valD x) W)
  have HV:=Lib.hid (And.intro hv0 hv)
  have HNE:=Lib.hid hne
  clear hne hd hv hv0
  go_enter Tryz.func229,Tryz.ntmps229
  go_wp2_with (first
   | (go_at_call 94;refine Q.out.mono ?_;rintro en w2 ⟨rfl,hb2⟩;have hb3:=hb2.alloc hb2.size (.cells #[.int .i64 3,.int .i64 (p:Int),.string (S x)] 135);have HP:=Lib.hid ((H.out.alloc _).below hb3);have l1:=HP.out.l1;have f1:=HP.out.fr 1;have H3:=Lib.hid hb3;have hsz:w.heap.size+1≤w2.heap.size:=(by have:=hb2.size;simpa using this);have hne2:¬w2.heap.size=R:=(by omega);have HP1:=Lib.hid (HP.out.set (q:=i+1) (HN.out HNE.out));have HB1:=Lib.hid ((HB0.out.below hb3).put (p:=⟨R,1,none⟩) hTR.symm (.int .i64 ((i+1:Nat):Int)));have HK1:=Lib.hid ((HA0.out.trans (Below.kp hb3 R Z0)).set 1 none (.int .i64 ((i+1:Nat):Int)));clear hb2 hb3)
   | (go_at_call 177;refine (QV.out _).mono ?_;rintro en w3 ⟨rfl,hb3⟩;have HP2:=Lib.hid (HP1.out.below hb3);have HB2:=Lib.hid (HB1.out.below hb3);have HK2:=Lib.hid (HK1.out.trans (Below.kp hb3 R Z0));clear hb3)
   | (go_at_call 237;refine (QI.out _).mono ?_;rintro en w4 ⟨rfl,hb4⟩;have HP3:=Lib.hid (HP2.out.below hb4);obtain ⟨c0,c1,c2,c3,f0,f1,f2,f3⟩:=(HB2.out.below hb4).get4;have HK3:=Lib.hid (HK2.out.trans (Below.kp hb4 R Z0));clear hb4))
  refine bodyPost_ret (v:=.tuple #[.agg #[.int .i64 0,.int .i64 (valD x),.string ⟨#[]⟩,.slice none 0 0],.int .i64 0]) (by simp [results,Tryz.results229,go_sem,c0,c1,c2,c3]) rfl ?_
  obtain ⟨e1,e2,e3⟩:=sit_end hR HK3.out HP3.out (k:=0) (n:=valD x) (by unfold Fits;omega) (by have:=HV.out;unfold Fits;omega)
  refine ⟨.mk 0 (valD x) ⟨#[]⟩ none 0 [],i+1,0,rfl,e1,e2,e3,.inl ⟨rfl,?_,by omega,OkV.int _ _ _ _ _ _⟩⟩
  rw [nsL_no (k:=3) (by rw [HT.out]) (by decide),HC.out,opndS_int]
  rfl
 ·by_cases k2:k=2
  ·subst k2
   have HNE:=Lib.hid (show x≠[] from fun e=>by have:=HKd.out;rw [e] at this;exact absurd this (by decide))
   have QI:=Lib.hid (fun W=>p_var_at (i:Int) W)
   go_enter Tryz.func229,Tryz.ntmps229
   go_wp2_with (first
    | (go_at_call 94;refine Q.out.mono ?_;rintro en w2 ⟨rfl,hb2⟩;have hb3:=hb2.alloc hb2.size (.cells #[.int .i64 2,.int .i64 (p:Int),.string (S x)] 135);have HP:=Lib.hid ((H.out.alloc _).below hb3);have l1:=HP.out.l1;have f1:=HP.out.fr 1;have H3:=Lib.hid hb3;have hsz:w.heap.size+1≤w2.heap.size:=(by have:=hb2.size;simpa using this);have hne2:¬w2.heap.size=R:=(by omega);have HP1:=Lib.hid (HP.out.set (q:=i+1) (HN.out HNE.out));have HB1:=Lib.hid ((HB0.out.below hb3).put (p:=⟨R,1,none⟩) hTR.symm (.int .i64 ((i+1:Nat):Int)));have HK1:=Lib.hid ((HA0.out.trans (Below.kp hb3 R Z0)).set 1 none (.int .i64 ((i+1:Nat):Int)));clear hb2 hb3)
    | (go_at_call 238;refine (QI.out _).mono ?_;rintro en w4 ⟨rfl,hb4⟩;have HP3:=Lib.hid (HP1.out.below hb4);obtain ⟨c0,c1,c2,c3,f0,f1,f2,f3⟩:=(HB1.out.below hb4).get4;have HK3:=Lib.hid (HK1.out.trans (Below.kp hb4 R Z0));clear hb4))
   refine bodyPost_ret (v:=.tuple #[.agg #[.int .i64 1,.int .i64 (i:Int),.string ⟨#[]⟩,.slice none 0 0],.int .i64 0]) (by simp [results,Tryz.results229,go_sem,c0,c1,c2,c3]) rfl ?_
   obtain ⟨e1,e2,e3⟩:=sit_end hR HK3.out HP3.out (k:=1) (n:=(i:Int)) (by unfold Fits;omega) (by have:=HI6.out;unfold Fits;omega)
   have hk2:(l.getD i default).1=2:=by rw [HT.out]
   refine ⟨.mk 1 (i:Int) ⟨#[]⟩ none 0 [],i+1,0,rfl,e1,e2,e3,.inl ⟨rfl,?_,by omega,OkV.var hk2 _ _⟩⟩
   have hns:nsL l a (i+1)=(nameS x (nsL l a i)).2:=by
    have:=nsU_var (K:=kV l) (X:=xV l) HA.out (show kV l i=true by rw [kV,hk2];rfl)
    rw [show xV l i=x by rw [xV,HT.out]] at this
    exact this
   rw [hns,HC.out,opndS_var]
   simp only [rdTm,Tm.num2,if_true,numL2,varS,gL,gU,Int.toNat_natCast]
   rw [show xV l i=x by rw [xV,HT.out]]
  ·have hk3:(k==3)=false:=by simpa using k3
   have hk2:(k==2)=false:=by simpa using k2
   obtain ⟨b,hb⟩:∃b,(x==[40])=b:=⟨_,rfl⟩
   have QX:=Lib.hid (fun W (hW:Pq W R A c l i)=>accept_at (b:=b) HG.out hW [40] (by decide) (by rw [HT.out];exact hb))
   have HXp:=Lib.hid (show isS [40] (leftT l i)=b by rw [isS_left HG.out HI.out (by decide),HT.out];exact hb)
   have HBx:=Lib.hid hb
   clear hb
   cases b
   ·obtain ⟨b,hb⟩:∃b,(x==[45])=b:=⟨_,rfl⟩
    have QX2:=Lib.hid (fun W (hW:Pq W R A c l i)=>accept_at (b:=b) HG.out hW [45] (by decide) (by rw [HT.out];exact hb))
    have HXm:=Lib.hid (show isS [45] (leftT l i)=b by rw [isS_left HG.out HI.out (by decide),HT.out];exact hb)
    have HBy:=Lib.hid hb
    have Hk3:=Lib.hid k3
    have Hk2:=Lib.hid k2
    clear hb k3 k2
    cases b
    ·have HFn:=Lib.hid (fun (s:ByteArray) (L:List Tm) (A':Option Addr) (c' lo:Nat) (W:World) (h1:Lst W A' L c') (h2:L=[]→A'=none∧c'=0) (h3:L.length≤16385) (h4:s.size≤maxLen) (h5:lo≤W.heap.size) (h6:SitG elTm lo W L)=>fun_q lo s L A' c' W h1 h2 (by omega) h4 h5 h6)
     go_enter Tryz.func229,Tryz.ntmps229
     go_wp2_with (first
      | (go_at_call 94;refine Q.out.mono ?_;rintro en w2 ⟨rfl,hb2⟩;have hb3:=hb2.alloc hb2.size (.cells #[.int .i64 k,.int .i64 (p:Int),.string (S x)] 135);have HP:=Lib.hid ((H.out.alloc _).below hb3);have hsz:w.heap.size+1≤w2.heap.size:=(by have:=hb2.size;simpa using this);have HB1:=Lib.hid (HB0.out.below hb3);have HK1:=Lib.hid (HA0.out.trans (Below.kp hb3 R Z0));clear hb2 hb3)
      | (go_at_call 100;refine (QX.out _ HP.out).mono ?_;rintro en w3 ⟨rfl,hk3,hp3⟩;have hsz3:w2.heap.size+1≤w3.heap.size:=(by have:=hk3.size;simpa using this);have HP2:=Lib.hid hp3;have HB2:=Lib.hid (HB1.out.kq hk3 hTR);have HK2:=Lib.hid (HK1.out.trans hk3);clear hk3 hp3 QX)
      | (go_at_call 100;refine (QX2.out _ HP2.out).mono ?_;rintro en w4 ⟨rfl,hk3,hp3⟩;have hsz4:w3.heap.size≤w4.heap.size:=hk3.size;have HP3:=Lib.hid hp3;have HB3:=Lib.hid (HB2.out.kq hk3 hTR);have HK3:=Lib.hid (HK2.out.trans hk3);clear hk3 hp3 QX2))
     refine (QA.out _ HP3.out).mono ?_
     rintro e w5 ⟨u,j,er,he,hk5,hp5,hs5,ho⟩
     have he2:e=.returned (.tuple #[.agg #[.string u.name,.slice u.at_ u.args.length u.cap],.int .i64 er]):=he
     clear he
     subst he2
     have hsz5:w4.heap.size≤w5.heap.size:=hk5.size
     have HP5:=Lib.hid hp5
     have HB5:=Lib.hid (HB3.out.kq hk5 hTR)
     have HK5:=Lib.hid (HK3.out.trans hk5)
     have HS5:=Lib.hid hs5
     have HO5:=Lib.hid ho
     have hat:=hs5.at_ u (List.mem_singleton.2 rfl)
     have hl5:=hat.2.2
     have HAt:=Lib.hid hat
     have HSa:=Lib.hid (sit_args hs5)
     clear hk5 hp5 hs5 ho hat
     have HBl:=Lib.hid (show Below w5.heap.size w5 (w5.alloc (.cells #[.string u.name,.slice u.at_ u.args.length u.cap] 66)) from (Below.refl _ _).alloc (Nat.le_refl _) _)
     go_wp2_with (go_at_call 227;refine (HFn.out u.name u.args u.at_ u.cap (w.heap.size+1) _ (HAt.out.1.2.below HBl.out) HAt.out.2.1 HAt.out.2.2 HAt.out.1.1 (by simp;omega) ((HSa.out.below HBl.out).low (by omega))).mono ?_;rintro en w6 ⟨A6,rfl,hb6,hs6,_⟩;have HB6:=Lib.hid ((HB5.out.below HBl.out).below hb6);obtain ⟨c0,c1,c2,c3,f0,f1,f2,f3⟩:=HB6.out.get4;have HP6:=Lib.hid ((HP5.out.below HBl.out).below hb6);have HK6:=Lib.hid ((HK5.out.trans (Below.kp HBl.out R Z0)).trans (Below.kp hb6 R Z0));have HS6:=Lib.hid hs6;clear hb6 hs6)
     refine bodyPost_ret (v:=.tuple #[.agg #[.int .i64 2,.int .i64 0,.string u.name,.slice A6 u.args.length u.args.length],.int .i64 er]) (by simp [results,Tryz.results229,go_sem,c0,c1,c2,c3];exact ⟨rfl,rfl,rfl,rfl,rfl,rfl⟩) rfl ?_
     obtain ⟨e1,e2,e3⟩:=end4 hR HK6.out HP6.out HS6.out (Nat.lt_succ_self _) (.int .i64 2) (.int .i64 0) (.string u.name) (.slice A6 u.args.length u.args.length)
     refine ⟨.mk 2 0 u.name A6 u.args.length u.args,j,er,rfl,e1,e2,e3,?_⟩
     rw [opnd_rest HI.out (by rw [HT.out];exact Hk3.out) (by rw [HT.out];exact Hk2.out) HXm.out HXp.out]
     rcases HO5.out with ⟨rfl,hf,hij,hv⟩|⟨her,hf⟩
     ·refine .inl ⟨rfl,?_,hij,OkV.fun_ hv _ _ _⟩
      rw [hf]
      show PS.ok (funS u.name.data.toList (numL2 (gL l a) u.args)) _ _=_
      simp only [rdTm,Tm.num2,funS,show ¬(2:Int)=1 by omega,if_false]
     ·exact .inr ⟨her,by rw [hf]⟩
    ·have HKT:=Lib.hid (fun W (hb:Kq R (w.alloc (.cells #[.int .i64 0,.int .i64 0,.string ⟨#[]⟩,.slice none 0 0] 69)) W)=>hb)
     have hxe:x=[45]:=by simpa using HBy.out
     have hk4:k=4:=by rw [HKd.out,hxe];rfl
     have HXE:=Lib.hid (And.intro hxe hk4)
     have hN2:=HN.out (by rw [hxe];decide)
     have HN2:=Lib.hid hN2
     have hp1:(p:Int)+1≤9223372036854775807:=by have:=HO.out;omega
     clear hxe hk4 hN2
     go_enter Tryz.func229,Tryz.ntmps229
     go_wp2_with (first
      | (go_at_call 94;refine Q.out.mono ?_;rintro en w2 ⟨rfl,hb2⟩;have hb3:=hb2.alloc hb2.size (.cells #[.int .i64 k,.int .i64 (p:Int),.string (S x)] 135);have HP:=Lib.hid ((H.out.alloc _).below hb3);have hsz:w.heap.size+1≤w2.heap.size:=(by have:=hb2.size;simpa using this);have HB1:=Lib.hid (HB0.out.below hb3);have HK1:=Lib.hid (HA0.out.trans (Below.kp hb3 R Z0));have HT2:=Lib.hid (BoxL.new w2 [.int .i64 k,.int .i64 (p:Int),.string (S x)] 135);clear hb2 hb3)
      | (go_at_call 100;refine (QX.out _ HP.out).mono ?_;rintro en w3 ⟨rfl,hk3,hp3⟩;have hsz3:w2.heap.size+1≤w3.heap.size:=(by have:=hk3.size;simpa using this);have HP2:=Lib.hid (show Pq w3 R A c l i from hp3);have HB2:=Lib.hid (HB1.out.kq hk3 hTR);have HK2:=Lib.hid (HK1.out.trans hk3);have HT3:=Lib.hid (HT2.out.kq hk3 (by omega));clear hk3 hp3 QX)
      | (go_at_call 100;refine (QX2.out _ HP2.out).mono ?_;rintro en w4 ⟨rfl,hk3,hp3⟩;have hsz4:w3.heap.size≤w4.heap.size:=hk3.size;have HP3:=Lib.hid (show Pq w4 R A c l (i+1) from hp3);have HB3:=Lib.hid (HB2.out.kq hk3 hTR);have HK3:=Lib.hid (HK2.out.trans hk3);obtain ⟨t0,t1,t2,_⟩:=(HT3.out.kq hk3 (by omega)).get3;clear hk3 hp3 QX2)
      | (go_at_call 239;refine (QN.out _ HP3.out).mono ?_;rintro en w5 ⟨n5,j,er,rfl,hk5,hp5,hn5,ho⟩;have HP5:=Lib.hid hp5;obtain ⟨c0,c1,c2,c3,f0,f1,f2,f3⟩:=(HB3.out.kq hk5 hTR).get4;have HK5:=Lib.hid (HK3.out.trans hk5);have HF5:=Lib.hid hn5;have HO5:=Lib.hid ho;clear hk5 hp5 hn5 ho))
     refine bodyPost_ret (v:=.tuple #[.agg #[.int .i64 0,.int .i64 n5,.string ⟨#[]⟩,.slice none 0 0],.int .i64 er]) (by simp [results,Tryz.results229,go_sem,c0,c1,c2,c3]) rfl ?_
     obtain ⟨e1,e2,e3⟩:=sit_end hR HK5.out HP5.out (k:=0) (n:=n5) (by unfold Fits;omega) HF5.out
     refine ⟨.mk 0 n5 ⟨#[]⟩ none 0 [],j,er,rfl,e1,e2,e3,?_⟩
     have hop:opndS ex (leftT l i) (nsL l a i)=if (l.getD (i+1) default).1=3∧(l.getD (i+1) default).2.1=p+1 then .ok (intS (-valD (l.getD (i+1) default).2.2)) (leftT l (i+2)) (nsL l a i) else .err (leftT l (i+1)).length 16:=by
      have hmk:markT l (i+1)=((l.getD (i+1) default).1==3&&(l.getD (i+1) default).2.1==p+1):=by
       rw [markT,HT.out,HXE.out.1];rfl
      rw [HC.out,left_cons HN2.out,hmk,HXE.out.1,HXE.out.2]
      simp only [opndS,isS,show ¬(4:Int)=3 by omega,show ¬(4:Int)=2 by omega,show ¬(4:Int)=1 by omega,if_false,beq_self_eq_true,Bool.and_self,if_true,Bool.and_eq_true,beq_iff_eq]
      by_cases h1:(l.getD (i+1) default).1=3∧(l.getD (i+1) default).2.1=p+1
      ·rw [if_pos h1,if_pos ⟨h1.1,h1⟩]
      ·rw [if_neg h1,if_neg (fun h=>h1 h.2)]
     rw [hop]
     rcases HO5.out with ⟨rfl,h1,h2,rfl,rfl⟩|⟨rfl,h1,rfl⟩
     ·rw [if_pos ⟨h1,h2⟩]
      refine .inl ⟨rfl,?_,by omega,OkV.int _ _ _ _ _ _⟩
      rw [nsL_no (k:=3) h1 (by decide),nsL_no (k:=4) (by rw [HT.out];exact HXE.out.2) (by decide)]
      rfl
     ·rw [if_neg h1]
      exact .inr ⟨by omega,rfl⟩
   ·have hxe:x=[40]:=by simpa using HBx.out
    have hk4:k=4:=by rw [HKd.out,hxe];rfl
    have HXE:=Lib.hid (And.intro hxe hk4)
    clear hxe hk4
    go_enter Tryz.func229,Tryz.ntmps229
    go_wp2_with (first
     | (go_at_call 94;refine Q.out.mono ?_;rintro en w2 ⟨rfl,hb2⟩;have hb3:=hb2.alloc hb2.size (.cells #[.int .i64 k,.int .i64 (p:Int),.string (S x)] 135);have HP:=Lib.hid ((H.out.alloc _).below hb3);have hsz:w.heap.size+1≤w2.heap.size:=(by have:=hb2.size;simpa using this);have HB1:=Lib.hid (HB0.out.below hb3);have HK1:=Lib.hid (HA0.out.trans (Below.kp hb3 R Z0));clear hb2 hb3)
     | (go_at_call 100;refine (QX.out _ HP.out).mono ?_;rintro en w3 ⟨rfl,hk3,hp3⟩;have hsz3:w2.heap.size+1≤w3.heap.size:=(by have:=hk3.size;simpa using this);have HP2:=Lib.hid (show Pq w3 R A c l (i+1) from hp3);have HB2:=Lib.hid (HB1.out.kq hk3 hTR);have HK2:=Lib.hid (HK1.out.trans hk3);clear hk3 hp3 QX))
    refine (QE.out _ HP2.out).mono ?_
    rintro e w5 ⟨u,j,er,he,hk5,hp5,hs5,ho⟩
    have he2:e=.returned (.tuple #[.agg #[.int .i64 u.kind,.int .i64 u.num,.string u.name,.slice u.at_ u.args.length u.cap],.int .i64 er]):=he
    clear he
    subst he2
    have HP5:=Lib.hid hp5
    obtain ⟨c0,c1,c2,c3,f0,f1,f2,f3⟩:=(HB2.out.kq hk5 hTR).get4
    have HK5:=Lib.hid (HK2.out.trans hk5)
    have HS5:=Lib.hid (show SitG elTm (w.heap.size+1) w5 [u] from hs5.low (by omega))
    have HO5:=Lib.hid ho
    clear hk5 hp5 hs5 ho
    go_wp2_with fail
    refine bodyPost_ret (v:=.tuple #[.agg #[.int .i64 u.kind,.int .i64 u.num,.string u.name,.slice u.at_ u.args.length u.cap],.int .i64 er]) (by simp [results,Tryz.results229,go_sem,c0,c1,c2,c3]) rfl ?_
    obtain ⟨e1,e2,e3⟩:=end4 hR HK5.out HP5.out HS5.out (Nat.lt_succ_self _) (.int .i64 u.kind) (.int .i64 u.num) (.string u.name) (.slice u.at_ u.args.length u.cap)
    refine ⟨u,j,er,rfl,e1,e2,e3,?_⟩
    have hop:opndS ex (leftT l i) (nsL l a i)=(match ex (leftT l (i+1)) (nsL l a (i+1)) with
      | .ok x r2 ns2=>wantS [41] x r2 ns2
      | .err l e=>.err l e):=by
     rw [nsL_no (k:=4) (by rw [HT.out];exact HXE.out.2) (by decide),HC.out,HXE.out.1,HXE.out.2]
     simp only [opndS,isS,show ¬(4:Int)=3 by omega,show ¬(4:Int)=2 by omega,show ¬(4:Int)=1 by omega,if_false,show (([40]:List UInt8)==[45])=false by rfl,Bool.and_false,Bool.false_eq_true,beq_self_eq_true,Bool.and_self,if_true]
     generalize ex (leftT l (i+1)) (nsL l a i)=q
     cases q<;>rfl
    rw [hop]
    rcases HO5.out with ⟨rfl,hf,hij,hv⟩|⟨her,hf⟩
    ·exact .inl ⟨rfl,hf,by omega,hv.wide (by omega) (Nat.le_refl _)⟩
    ·exact .inr ⟨her,hf⟩
end
end Go.Proofs.YtnghanpmmbcbbaaGreatDoor
