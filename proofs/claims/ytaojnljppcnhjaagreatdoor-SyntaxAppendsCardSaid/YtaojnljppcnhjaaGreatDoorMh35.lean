/-
  LwAdd.
-/
import Derived.Test.YtaojnljppcnhjaaGreatDoorMh32
import Derived.Deep.AppendLies
import Derived.Deep.AppendSrc
import Derived.Maps.AppendAt
import Derived.Deep.RegionHeld3
namespace Go.Proofs.YtaojnljppcnhjaaGreatDoor
open Go.RowKit Go.Sort
theorem RowG.blkG {α:Type} {E:Elt α} {T:TypeId} {lo cap:Nat} {w:World} {B:Option Addr} {xs:List α} (h:RowG E T lo w (.slice B xs.length cap) xs):∀b∈blkR E B xs,lo≤b:=fun b hb=>by
 rcases List.mem_append.1 hb with hb|hb
 ·by_cases h0:xs.length=0
  ·simp [blkA,h0] at hb
  ·rcases h.row.2 with ⟨e,h1⟩|⟨g,cap',cur,e,_⟩
   ·exact absurd h1 h0
   ·injection e with e1 e2 e3
    subst e1
    have hbg:b=g:=by simpa [blkA,blkO,h0] using hb
    subst hbg
    exact (own_lt h.row b rfl).1
 ·exact (h.sit.bd b hb).1
theorem ru_low {lo:Nat} {w:World} {u:Ru} (h:u.At lo w):∀b∈elRu.blk u,lo≤b:=fun b hx=>by
 rcases List.mem_append.1 hx with hx|hx<;>rcases List.mem_append.1 hx with hx|hx
 ·exact RowG.blkG (show RowG elAm 92 lo w (.slice u.kA u.ks.length u.kc) u.ks from h.k) b hx
 ·exact RowG.blkG (show RowG elAm 92 lo w (.slice u.rA u.rs.length u.rc) u.rs from h.r) b hx
 ·exact RowG.blkG (show RowG elGl 54 lo w (.slice u.gA u.gs.length u.gc) u.gs from h.g) b hx
 ·exact RowG.blkG (show RowG elGl 54 lo w (.slice u.bA u.bs.length u.bc) u.bs from h.b) b hx
def AnsR2 (s:ByteArray) (w:World) (e:Ending) (w':World):Prop:=∃(u:Ru) (p:Nat) (er:Int),e=.returned (.tuple #[.agg u.cells.toArray,.int .i64 (p:Int),.int .i64 er])∧RowKit.Below w.heap.size w w'∧OutR s w' u p er∧∀b∈elRu.blk u,w.heap.size≤b∧b < w'.heap.size
theorem out_R2 (s:ByteArray) (hs:s.size≤100000) (w:World):Calls Tryz.prog 13 #[.string s] w (AnsR2 s w):=by
 refine (parse_rule_at (F:=16384) (Nat.le_refl _) s hs w).mono ?_
 rintro e w' ⟨V,p,er,rfl,hb,⟨rfl,rfl,x,hx,hm⟩|⟨h0,rfl,h⟩⟩
 ·obtain ⟨t,ks,rs,gs,bs,kA,rA,gA,bA,kn,kc,rn,rc,gn,gc,bn,bc,n,e1,e2,hm⟩:=hm
  obtain ⟨a1,a2,a3,a4,ha⟩:=ru_of (n:=n) hm
  subst a1 a2 a3 a4 e1 e2
  obtain ⟨h1,h2⟩:=ru_of_at ha
  exact ⟨⟨t,ks,rs,gs,bs,kA,kc,rA,rc,gA,gc,bA,bc,n⟩,_,_,rfl,hb,.inl ⟨rfl,rfl,hx,ru_at h1 h2⟩,fun b hb=>⟨ru_low ha b hb,h2 b hb⟩⟩
 ·refine ⟨⟨[],[],[],[],[],none,0,none,0,none,0,none,0,0⟩,_,_,rfl,hb,.inr ⟨h0,rfl,h⟩,fun b hb=>?_⟩
  simp [elRu,blkR,blkA,Elt.blkL] at hb
theorem step_append_r {ops:Array Oper} {o:Oper} {a:Act} {K:Act→World→Prop} {Q:Exit→Act→World→Prop} {E:Prop} {w:World} (hgd:o.guard=none) (s x:Operand)
  (ho:o.op=.call { callee:=.builtin .append,args:=#[s,x],argTypes:=#[24,24] })
  (base:Nat) (g n cap:Nat) (xs:List Value) (hs:a.eval s=.slice (some ⟨g,0,none⟩) n cap) (hown:w.ownsRow base 35 6 (.slice (some ⟨g,0,none⟩) n cap) n xs)
  (A:Option Addr) (m c:Nat) (news:List Value) (hx:a.eval x=.slice A m c) (hl:news.length=m*6) (hA:A=none→m=0) (hnews:∀ad,A=some ad→∀j u,news[j]?=some u→w.cell? (ad.add j)=some u) (h1:∀u∈news,u.oneCell'=true)
  (hb:n+m≤2000) (hbase:base≤w.heap.size)
  (h:∀g' cap' w',w'.ownsRow base 35 6 (.slice (some ⟨g',0,none⟩) (n+m) cap') (n+m) (xs++news)→w.grownBy w' (some g)→(some g=some g'∨g'=w.heap.size)→K (a.put o.dst (.slice (some ⟨g',0,none⟩) (n+m) cap')) w') :
  if Region.wanted o (yielded ops a.tmps)=true then Oper.wp Tryz.prog o a w K Q else E:=by
 have hw:Region.wanted o (yielded ops a.tmps)=true:=by simp [Region.wanted,hgd]
 rw [if_pos hw]
 obtain ⟨i0,hi,hz0,hz1,hz2⟩:=info_parts rule_info
 have ht:Tryz.prog.underlying 24=some (.slice 35):=Tryz.underlying24
 have hrun:∃g' cap' w',(Builtin.append_ #[24,24] o.type #[.slice (some ⟨g,0,none⟩) n cap,.slice A m c]).run Tryz.prog w=.ok (.slice (some ⟨g',0,none⟩) (n+m) cap') w' ∧
   w'.ownsRow base 35 6 (.slice (some ⟨g',0,none⟩) (n+m) cap') (n+m) (xs++news)∧w.grownBy w' (some g)∧(some g=some g'∨g'=w.heap.size):=by
  cases A with
  | none =>
   obtain rfl:m=0:=hA rfl
   obtain rfl:news=[]:=List.length_eq_zero_iff.1 (by simpa using hl)
   have hcap:n+0≤cap:=by
    rcases hown.2 with ⟨e,_⟩|⟨_,_,_,e,_,_,hle,_⟩
    ·injection e with e;cases e
    ·injection e with _ _ e3
     subst e3
     omega
   have hr:=run_append_room_src (P:=Tryz.prog) w 24 24 o.type 35 i0 ht hi g 0 n cap (.slice none 0 c) 0 [] (Src.ofNil w ht c) hcap (fun j hj=>by simp at hj) (fun j hj=>by simp at hj)
   refine ⟨g,cap,w,hr,?_,⟨rfl,rfl,rfl,Nat.le_refl _,fun _ _ _=>rfl⟩,.inl rfl⟩
   rw [List.append_nil]
   exact hown
  | some ad =>
   obtain ⟨v',w',hr,h2,h3,h4,h5⟩:=run_append_own_at (P:=Tryz.prog) w base 24 o.type 35 i0 _ 6 120 ht hi hz0 hz1 hz2 rfl (by decide) _ n xs hown ad m c news hl (hnews ad rfl) h1 (by unfold maxLen;omega) (by omega) hbase
   rcases h2.2 with ⟨e,_⟩|⟨g',cap',cur,e,_⟩
   ·have:=(h4.1 e).1
    injection this with this;cases this
   ·subst e
    refine ⟨g',cap',w',hr,h2,h3,?_⟩
    rcases h5 with h5|h5
    ·exact .inl h5.symm
    ·exact .inr (by simpa [Value.ownBlock] using h5)
 obtain ⟨g',cap',w',hr,h2,h3,h4⟩:=hrun
 unfold Oper.wp execOp
 simp only [ho,resolve,invoke,builtin,Sem.run_bind,Sem.run_pure,Result.andThen_ok,List.map_toArray,List.map_cons,List.map_nil,hs,hx,hr]
 exact h g' cap' w' h2 h3 h4
theorem al5 {x w:World} (h:RowKit.Below x.heap.size x w) (o:Obj):RowKit.Below x.heap.size x (w.alloc o):=h.alloc h.size o
theorem dr5 {x w:World} (h:RowKit.Below x.heap.size x w):RowKit.Below x.heap.size x w.drew:=h.drew
theorem gr5 {x w w':World} {row:Option Nat} (h:RowKit.Below x.heap.size x w) (hg:w.grownBy w' row) (hr:∀k,row=some k→x.heap.size≤k):RowKit.Below x.heap.size x w':=h.grown hg h.size hr
theorem bs5 {x w:World} (h:RowKit.Below x.heap.size x w):x.heap.size≤w.heap.size:=h.size
theorem ge5 {n g:Nat} (h:n≤g):∀k,some g=some k→n≤k:=fun k hk=>by injection hk with hk;omega
theorem made5 {x V:World} (h:RowKit.Below x.heap.size x V) (T:TypeId) (k:Nat):(V.alloc (.cells #[] T)).ownsRow x.heap.size T k (.slice (some ⟨V.heap.size,0,none⟩) 0 0) 0 []:=World.ownsRow_made V #[] 0 h.size (by decide) (by simp)
theorem rd_nil {W:World} {rA:Option Addr} {rz:List Ru} (h:RdB elRu W rA rz):rA=none→rz.length=0:=fun e=>by
 rcases Nat.eq_zero_or_pos rz.length with h0|h0
 ·exact h0
 ·obtain ⟨g,e2,_⟩:=h.rd.row h0
  rw [e] at e2
  cases e2
theorem rd_news {W:World} {rA:Option Addr} {rz:List Ru} (h:RdB elRu W rA rz):∀ad,rA=some ad→∀j u,(elRu.cellsL rz)[j]?=some u→W.cell? (ad.add j)=some u:=fun ad e j u hu=>by
 have h0:0 < rz.length:=by
  rcases Nat.eq_zero_or_pos rz.length with h0|h0
  ·obtain rfl:rz=[]:=List.length_eq_zero_iff.1 h0
   simp [Elt.cellsL] at hu
  ·exact h0
 obtain ⟨g,e2,hc⟩:=h.rd.row h0
 rw [e] at e2
 injection e2 with e2
 subst e2
 rw [add_plain,Nat.zero_add]
 exact hc j u hu
theorem made5a (x:World) (T:TypeId) (k:Nat):(x.alloc (.cells #[] T)).ownsRow x.heap.size T k (.slice (some ⟨x.heap.size,0,none⟩) 0 0) 0 []:=made5 (RowKit.Below.refl _ _) T k
theorem made5b (x:World) (o:Obj) (T:TypeId) (k:Nat):((x.alloc o).alloc (.cells #[] T)).ownsRow x.heap.size T k (.slice (some ⟨x.heap.size+1,0,none⟩) 0 0) 0 []:=by
 have h:=made5 (al5 (RowKit.Below.refl _ x) o) T k
 rw [show (x.alloc o).heap.size=x.heap.size+1 by simp] at h
 exact h
theorem news_5a {x:World} {cs:Array Value} {T:TypeId}:∀j u,cs.toList[j]?=some u→(x.alloc (.cells cs T)).cell? ((⟨x.heap.size,0,none⟩:Addr).add j)=some u:=World.news_of_block (heap_alloc_new x (.cells cs T))
theorem news_5b {x w7:World} {cs:Array Value} {T T':TypeId} (hg:((x.alloc (.cells #[] T')).alloc (.cells cs T)).grownBy w7 (some x.heap.size)):∀j u,cs.toList[j]?=some u→w7.cell? ((⟨x.heap.size+1,0,none⟩:Addr).add j)=some u:=by
 have h1:=heap_alloc_new (x.alloc (.cells #[] T')) (.cells cs T)
 rw [show (x.alloc (.cells #[] T')).heap.size=x.heap.size+1 by simp] at h1
 exact World.news_of_block ((hg.block _ (by simp) (by simp)).trans h1)
theorem news_5c {x w7:World} {cs:Array Value} {T T':TypeId} (hg:((x.alloc (.cells cs T)).alloc (.cells #[] T')).grownBy w7 (some (x.heap.size+1))):∀j u,cs.toList[j]?=some u→w7.cell? ((⟨x.heap.size,0,none⟩:Addr).add j)=some u :=
 World.news_of_block ((hg.block x.heap.size (by simp;omega) (by simp)).trans ((RowKit.Below.heap_alloc _ _ _ (by simp)).trans (heap_alloc_new x (.cells cs T))))
def RdPl (lo:Nat) (w:World) (V:Array Value) (x:List Dl×List Rs):Prop:=∃(ds:List Dl) (rz:List Ru) (dA rA:Option Addr) (dc rc:Nat),V=#[.slice dA ds.length dc,.slice rA rz.length rc]∧x=(ds,rz.map Ru.p)∧(RdB elDl w dA ds∧∀b∈blkR elDl dA ds,lo≤b)∧RdB elRu w rA rz∧∀b∈blkR elRu rA rz,lo≤b
theorem RdPl.rd {lo:Nat} {w:World} {V:Array Value} {x:List Dl×List Rs} (h:RdPl lo w V x):RdP w V x:=by
 obtain ⟨ds,rz,dA,rA,dc,rc,e1,e2,h1,h2⟩:=h
 exact ⟨ds,rz,dA,rA,dc,rc,e1,e2,h1.1,h2.1⟩
theorem RdB.put {α:Type} {E:Elt α} {w W:World} {B:Option Addr} {xs:List α} (h:RdB E w B xs) {b1:Nat} (hb:∀b∈blkR E B xs,b≠b1) (hs:w.heap.size≤W.heap.size) (hW:∀b,b < w.heap.size→b≠b1→W.heap[b]?=w.heap[b]?):RdB E W B xs :=
 ⟨h.rd.frame fun b hx=>hW b (h.bd b hx) (hb b hx),fun b hx=>Nat.lt_of_lt_of_le (h.bd b hx) hs⟩
theorem MemP.rdl {lo:Nat} {w:World} {V:Array Value} {x:List Dl×List Rs} (h:MemP lo w V x):RdPl lo w V x:=by
 obtain ⟨ds,rz,dA,rA,dn,dc,rn,rc,e1,e2,hd,hr⟩:=h
 obtain ⟨a1,_,a2⟩:=hd.rdb
 have hrow:w.ownsRow lo 35 elRu.k (.slice rA rn rc) rz.length (elRu.cellsL rz):=hr.row
 obtain ⟨b1,_,b2⟩:=own_rd hrow (fun x hx=>(ru_of_at (hr.at_ x hx)).1) fun b hb=>by
  obtain ⟨x,hx,hb⟩:=List.mem_flatMap.1 hb
  exact (ru_of_at (hr.at_ x hx)).2 b hb
 subst a1 b1
 refine ⟨ds,rz,dA,rA,dc,rc,e1,e2,⟨a2,hd.blkG⟩,b2,fun b hb=>?_⟩
 rcases List.mem_append.1 hb with hb|hb
 ·by_cases h0:rz.length=0
  ·simp [blkA,h0] at hb
  ·rcases hrow.2 with ⟨e,h1⟩|⟨g,cap',cur,e,_⟩
   ·exact absurd h1 h0
   ·injection e with e1 e2 e3
    subst e1
    have hbg:b=g:=by simpa [blkA,blkO,h0] using hb
    subst hbg
    exact (own_lt hrow b rfl).1
 ·obtain ⟨x,hx,hb⟩:=List.mem_flatMap.1 hb
  exact ru_low (hr.at_ x hx) b hb
def AnsP2 (s:ByteArray) (w:World) (e:Ending) (w':World):Prop:=∃(dA rA:Option Addr) (dn dc rn rc p:Nat) (er:Int),e=.returned (.tuple #[.agg #[.slice dA dn dc,.slice rA rn rc],.int .i64 (p:Int),.int .i64 er])∧RowKit.Below w.heap.size w w' ∧
 ((er=0∧p=0∧∃x,wholeS PF s=.ok x∧RdPl w.heap.size w' #[.slice dA dn dc,.slice rA rn rc] x)∨(er≠0∧wholeS PF s=.error (p,er)))
theorem out_P2 (s:ByteArray) (hs:s.size≤100000) (w:World):Calls Tryz.prog 10 #[.string s] w (AnsP2 s w):=by
 refine (parse_at (F:=16384) (Nat.le_refl _) s hs w).mono ?_
 rintro e w' ⟨V,p,er,rfl,hb,⟨rfl,rfl,x,hx,hm⟩|⟨h0,rfl,h⟩⟩
 ·obtain ⟨ds,rz,dA,rA,dc,rc,rfl,hx2,hm2⟩:=hm.rdl
  exact ⟨_,_,_,_,_,_,_,_,rfl,hb,.inl ⟨rfl,rfl,x,hx,ds,rz,dA,rA,dc,rc,rfl,hx2,hm2⟩⟩
 ·exact ⟨_,_,_,_,_,_,_,_,rfl,hb,.inr ⟨h0,h⟩⟩
theorem added {x5 w8:World} {b1 g8 cap8 rc dc:Nat} {dA rA:Option Addr} {ds:List Dl} {rz:List Ru} {v:Ru} (hB8:RowKit.Below x5.heap.size x5 w8) (hX:BoxL x5 b1 [.slice dA ds.length dc,.slice rA rz.length rc])
  (hd:RdB elDl x5 dA ds) (hdl:∀b∈blkR elDl dA ds,b≠b1) (hr:RdB elRu x5 rA rz) (hrl:∀b∈blkR elRu rA rz,b≠b1) (hv:RuB x5 v) (hvl:∀b∈elRu.blk v,b≠b1∧b < x5.heap.size)
  (ho:w8.ownsRow x5.heap.size 35 6 (.slice (some ⟨g8,0,none⟩) (rz.length+1) cap8) (rz.length+1) (elRu.cellsL rz++elRu.cells v)) :
  ∃W,w8.setCell ⟨b1,1,none⟩ (.slice (some ⟨g8,0,none⟩) (rz.length+1) cap8)=W∧W.cell? ⟨b1,0,none⟩=some (.slice dA ds.length dc)∧W.cell? ⟨b1,1,none⟩=some (.slice (some ⟨g8,0,none⟩) (rz.length+1) cap8) ∧
   RdP W #[.slice dA ds.length dc,.slice (some ⟨g8,0,none⟩) (rz.length+1) cap8] (ds,rz.map Ru.p++[v.p])∧RowKit.Below b1 x5 W∧x5.heap.size≤W.heap.size∧∀b,b < x5.heap.size→b≠b1→W.heap[b]?=x5.heap[b]?:=by
 have hb1:=hX.lt
 have hg8:=(own_lt ho g8 rfl).1
 have hX8:=(hX.below hB8).set (j:=1) (by simp) (.slice (some ⟨g8,0,none⟩) (rz.length+1) cap8)
 have hW:∀b,b < x5.heap.size→b≠b1→(w8.setCell ⟨b1,1,none⟩ (.slice (some ⟨g8,0,none⟩) (rz.length+1) cap8)).heap[b]?=x5.heap[b]?:=fun b h1 h2=>(RowKit.Below.heap_setCell _ _ _ _ h2).trans (hB8.block b h1)
 have hs:x5.heap.size≤(w8.setCell ⟨b1,1,none⟩ (.slice (some ⟨g8,0,none⟩) (rz.length+1) cap8)).heap.size:=by simpa [World.setCell] using hB8.size
 refine ⟨_,rfl,hX8.cells 0 _ rfl,hX8.cells 1 _ rfl,?_,⟨hB8.os,hB8.tape,hB8.output,hs,fun k hk=>hW k (by omega) (by omega)⟩,hs,hW⟩
 have hrow:=own_of ho (w':=w8.setCell ⟨b1,1,none⟩ (.slice (some ⟨g8,0,none⟩) (rz.length+1) cap8)) fun k hk=>by
  have e:g8=k:=by simpa [Value.ownBlock] using hk
  subst e
  exact RowKit.Below.heap_setCell _ _ _ _ (by simp only;omega)
 have hlen:(rz++[v]).length=rz.length+1:=by simp
 have hrow2:(w8.setCell ⟨b1,1,none⟩ (.slice (some ⟨g8,0,none⟩) (rz.length+1) cap8)).ownsRow x5.heap.size 35 elRu.k (.slice (some ⟨g8,0,none⟩) (rz.length+1) cap8) (rz++[v]).length (elRu.cellsL (rz++[v])):=by
  rw [hlen,Elt.cellsL_append]
  have e:elRu.cellsL [v]=elRu.cells v:=by simp [Elt.cellsL]
  rw [e]
  exact hrow
 have hvA:elRu.At x5 v:=⟨hv.t,⟨hv.k.rd,hv.r.rd⟩,⟨hv.g.rd,hv.b.rd⟩⟩
 obtain ⟨_,_,hB⟩:=own_rd hrow2 (fun x hx=>by
  rcases List.mem_append.1 hx with hx|hx
  ·exact elRu.frame (hr.rd.at_ x hx) fun b hb=>hW b (hr.elt hx b hb) (hrl b (List.mem_append.2 (.inr (List.mem_flatMap.2 ⟨x,hx,hb⟩))))
  ·rw [List.mem_singleton.1 hx]
   exact elRu.frame hvA fun b hb=>hW b (hvl b hb).2 (hvl b hb).1) fun b hb=>by
  refine Nat.lt_of_lt_of_le ?_ hs
  rw [Elt.blkL_append] at hb
  rcases List.mem_append.1 hb with hb|hb
  ·exact hr.bd b (List.mem_append.2 (.inr hb))
  ·rw [Elt.blkL_one] at hb
   exact (hvl b hb).2
 exact ⟨ds,rz++[v],dA,some ⟨g8,0,none⟩,dc,cap8,by rw [hlen],by simp,hd.put hdl hs hW,hB⟩
end Go.Proofs.YtaojnljppcnhjaaGreatDoor
