/-
  SrJoinP.
  PgQueryP.
  PgRule.
 PgQuery.
 PgDecl.
 PgDeclar.
-/
import Derived.Test.YtnghanpmmbcbbaaGreatDoorMq25
import Derived.Test.YtnghanpmmbcbbaaGreatDoorMq3
import Derived.Test.YtnghanpmmbcbbaaGreatDoorMq15
import Derived.Test.YtnghanpmmbcbbaaGreatDoorMq21
namespace Go.Proofs.YtnghanpmmbcbbaaGreatDoor
open Go.RowKit
def dS (d:Dc):Ds:=(d.name.data.toList,d.arity)
theorem src_programs {p:Pm} (h:p.src≠[]):p.Good∧p.src=dlineT p.decls++linesR p.rules∧p.src.length≤16384:=by
 by_cases hg:p.Good
 ·have e:p.src=limT (dlineT p.decls++linesR p.rules):=if_pos hg
  rw [e] at h ⊢
  obtain ⟨h1,h2⟩:=limT_some h
  exact ⟨hg,h1,by rw [h1];exact h2⟩
 ·exact absurd (if_neg hg) h
theorem dc_text {d:Dc} (h:d.ok=true):DeclOk (dS d)∧dtxt (dS d)=d.tx:=by
 simp only [Dc.ok,Bool.and_eq_true,decide_eq_true_eq] at h
 refine ⟨⟨h.1,h.2.1,h.2.2⟩,?_⟩
 unfold dtxt dS Dc.tx Lib.itoa
 simp only
 rw [if_neg (by omega)]
 simp
 try (congr 1;omega)
theorem dline_text {l:List Dc} (h:l.all Dc.ok=true):linesT (if l.map dS=[] then [] else [declT (l.map dS)])=dlineT l:=by
 unfold dlineT
 by_cases h0:l.length=0
 ·rw [if_pos h0,List.length_eq_zero_iff.1 h0];rfl
 ·have hne:¬l.map dS=[]:=fun e=>h0 (by have:=congrArg List.length e;simpa using this)
  rw [if_neg h0,if_neg hne]
  have e:(l.map dS).map dtxt=l.map Dc.tx:=by
   rw [List.map_map]
   exact List.map_congr_left fun d hd=>(dc_text (List.all_eq_true.1 h d hd)).2
  unfold linesT declT dsT
  rw [e,joinS_sep]
  simp [constraintW]
theorem lines_text {l:List Rl} (h:∀r∈l,r.numR.src≠[]):linesT ((l.map fun r=>r.numR.rs).map Rs.txt)=linesR l:=by
 induction l with
 | nil=>rfl
 | cons r l ih =>
  have h1:=(numR_reads (h r (by simp))).2.1
  have h2:=ih fun x hx=>h x (List.mem_cons_of_mem _ hx)
  unfold linesT linesR at *
  simp only [List.map_cons,List.flatMap_cons]
  rw [h2,h1]
theorem program_some {p:Pm} (h:p.src≠[]):(∀d∈p.decls.map dS,DeclOk d)∧(p.decls.map dS).length≤30∧(∀q∈p.rules.map (fun r=>r.numR.rs),SrcOk q)∧(p.rules.map fun r=>r.numR.rs).length≤40 ∧
  p.src=programT (p.decls.map dS) (p.rules.map fun r=>r.numR.rs)∧p.src.length≤16384∧(p.rules.map fun r=>r.numR.rs).map numberS=p.rules.map fun r=>r.numR.rs:=by
 obtain ⟨hg,h1,h2⟩:=src_programs h
 refine ⟨fun d hd=>?_,by simpa using hg.d30,fun q hq=>?_,by simpa using hg.r40,?_,h2,?_⟩
 ·obtain ⟨x,hx,rfl⟩:=List.mem_map.1 hd
  exact (dc_text (List.all_eq_true.1 hg.decls x hx)).1
 ·obtain ⟨x,hx,rfl⟩:=List.mem_map.1 hq
  exact (numR_reads (hg.rules x hx)).1
 ·rw [h1,← dline_text hg.decls,← lines_text hg.rules]
  unfold programT linesT
  rw [List.flatMap_append]
 ·rw [List.map_map]
  exact List.map_congr_left fun r hr=>(numR_reads (hg.rules r hr)).2.2.2
end Go.Proofs.YtnghanpmmbcbbaaGreatDoor
namespace Go.Proofs.YtnghanpmmbcbbaaGreatDoor
open Go.RowKit
section
variable {lo:Nat} {A:Option Addr} {c:Nat} {l:List Tk} {w:World} {gs:List Gl} {i j:Nat} {B:Option Addr} {zc:Nat}
def NgoalR (lo:Nat) (l:List Tk) (B:Option Addr) (zc:Nat) (gs:List Gl) (w:World) (en:Ending) (w':World):Prop :=
 ∃zA cap,en=.returned (.slice zA (numLL (xV l) (argsG gs) []).2.length cap)∧w'.os=w.os∧w'.tape=w.tape∧w'.output=w.output∧w.heap.size≤w'.heap.size∧(∀k,k < lo→w'.heap[k]?=w.heap[k]?) ∧
  RowG elGl 59 lo w' (.slice B gs.length zc) (setG gs (numLL (xV l) (argsG gs) []).1) ∧
  w'.ownsRow (w.heap.size+2) 9 1 (.slice zA (numLL (xV l) (argsG gs) []).2.length cap) (numLL (xV l) (argsG gs) []).2.length (nmC (numLL (xV l) (argsG gs) []).2)
set_option maxHeartbeats 4000000 in
set_option maxRecDepth 10000 in
theorem ngoals_at (hg:GoodT l) (ht:TLst w A l c) (hA:∀g,A=some ⟨g,0,none⟩→g < lo) (hlo:lo≤w.heap.size) (hr:RowG elGl 59 lo w (.slice B gs.length zc) gs) (hv:OkV l i j (gs.flatMap Gl.args)) (hj:j≤l.length) (hsz:nodesLL (argsG gs)≤100000) :
  Calls Tryz.prog 107 #[.slice A l.length c,.slice B gs.length zc] w (NgoalR lo l B zc gs w):=by
 have Q0:=Lib.hid (new_numbering_at A c l w ht (fun g e=>by have:=hA g e;omega))
 have Q1:=Lib.hid (fun W (hb:Below w.heap.size w W) (hS:NumS W (w.heap.size+1) w.heap.size A c l (.slice none 0 0) []) =>
  number_Gl_at hg.texts (rowGl_of (hr.below hb) hr.less) (numHGl_of (hr.below hb) hr.less hA hv hj) hS (by show [].length+nodesLL (argsG gs)≤_;simp;omega))
 have HR:=Lib.hid hr
 clear hg ht hA hr hv hj hsz
 go_enter Tryz.func107,Tryz.ntmps107
 go_wp2_with fail
 refine Q0.out.mono ?_
 rintro e w1 ⟨rfl,hb1,hnum1⟩
 have HB1:=Lib.hid hb1
 have HN1:=Lib.hid hnum1
 clear hb1 hnum1
 go_wp2_with fail
 refine (Q1.out _ HB1.out HN1.out).mono ?_
 rintro e w2 ⟨rfl,z,hfr,hl,hn0⟩
 have hn:NumS w2 (w.heap.size+1) w.heap.size A c l z (numLL (xV l) (argsG gs) []).2:=hn0
 clear hn0
 obtain ⟨zA,cap,rfl⟩:=hn.zform
 have n2:=hn.box.cells 2 _ rfl
 have HFr:=Lib.hid hfr
 have HL:=Lib.hid hl
 have HN:=Lib.hid hn
 clear hfr hl hn
 go_wp2_with fail
 go_ret
 obtain ⟨hrow,_⟩:=numRowGl (HR.out.below HB1.out) HR.out.less HFr.out.size HFr.out.block HFr.out.fz HL.out
 refine ⟨zA,cap,rfl,HFr.out.os.trans HB1.out.os,HFr.out.tape.trans HB1.out.tape,HFr.out.output.trans HB1.out.output,Nat.le_trans HB1.out.size HFr.out.size,fun k hk=>?_,hrow,HN.out.own⟩
 refine (HFr.out.block k (by omega) fun hb=>?_).trans (HB1.out.block k (by omega))
 rw [←blkGl] at hb
 have:=(HR.out.sit.bd k hb).1
 omega
end
def quS (ex:Rd1 Tm) (ts:List Tok):PS (List Gs×List (List UInt8)) :=
 match goalsS ex 40 [] ts [] with
 | .ok l r ns=>.ok (l.map (Gs.num2 (placeS (orderS (l.flatMap (·.2.2))))),(orderS (l.flatMap (·.2.2))).map fun v=>ns.getD v.toNat []) r ns
 | .err l e=>.err l e
theorem qu_only (ex:Rd1 Tm) (ts:List Tok):queryS ex ts=onlyS (quS ex ts):=by
 unfold queryS quS
 cases goalsS ex 40 [] ts [] with
 | err l e=>rfl
 | ok v r ns =>
  by_cases h:(r.headD (0,[],false)).1=0
  ·simp only [onlyS,if_pos h]
  ·simp only [onlyS,if_neg h]
theorem fold_put_mem {x:Int}:∀{xs l:List Int},x∈xs.foldl putS l→x∈l∨x∈xs
 | [],_,h=>.inl h
 | y :: r,l,h=>by
  rw [List.foldl_cons] at h
  rcases fold_put_mem h with h|h
  ·unfold putS at h
   split at h
   ·exact .inl h
   ·rcases List.mem_append.1 h with h|h
    ·exact .inl h
    ·exact .inr (by rw [List.mem_singleton.1 h];simp)
  ·exact .inr (List.mem_cons_of_mem _ h)
theorem goals_numbered {l:List Tk} {i j:Nat} {gs:List Gl} {ex:Rd1 Tm} (hj:j≤l.length) (hv:OkV l i j (gs.flatMap Gl.args))
  (h:goalsS ex 40 [] (leftT l i) []=.ok (gs.map (rdGl.h (gL l i))) (leftT l j) (nsL l i j)) :
  quS ex (leftT l i)=.ok ((setG gs (numLL (xV l) (argsG gs) []).1).map sG,(numLL (xV l) (argsG gs) []).2) (leftT l j) (nsL l i j):=by
 obtain ⟨h1,h2⟩:=numPL_ref (nmL l i) nmL_ok _ hv.1 (okP_of hv (Nat.le_refl _))
 rw [←argsG_flat,numLL_flat] at h1 h2
 simp only at h1 h2
 unfold quS
 rw [h]
 simp only [flat_hG]
 rw [←argsG_flat]
 generalize hF:placeS (orderS (numL2 (gU (kV l) (xV l) i) (argsG gs).flatten))=F at h1
 rw [num2_num2.2] at h1
 have hels:=stripL_split (numLL_len (xV l) (argsG gs) []) (fun k _=>numLL_lens (xV l) (argsG gs) [] k) h1
 have aG:(argsG gs).length=gs.length:=by simp [argsG]
 rw [show (setG gs (numLL (xV l) (argsG gs) []).1).map sG=(gs.map (rdGl.h (gL l i))).map (Gs.num2 F) from setG_map fun k hk=>hels k (by omega),h2]
 congr 2
 refine List.map_congr_left fun v hm=>?_
 have hm2:v∈(occL (argsG gs).flatten).map (gU (kV l) (xV l) i):=by
  rw [num2_g_occ]
  unfold orderS at hm
  rcases fold_put_mem hm with h|h
  ·cases h
  ·exact h
 obtain ⟨u,hu,rfl⟩:=List.mem_map.1 hm2
 rw [argsG_flat] at hu
 obtain ⟨u1,u2,u3⟩:=hv.2.2 u hu
 have hvt:VTok (kV l) i u.toNat:=⟨by omega,u3⟩
 rw [nmL,gU,Int.toNat_natCast,gU_name hvt (by omega),gU_name hvt (by omega)]
end Go.Proofs.YtnghanpmmbcbbaaGreatDoor
namespace Go.Proofs.YtnghanpmmbcbbaaGreatDoor
open Go.RowKit
theorem parts_plain {ex:Rd1 Tm} {ts ts1 ts2 ts3:List Tok} {ns n1 n2 n3:List (List UInt8)} {t:List UInt8} {h:List As×List As} {g b:List Gs} (h1:labelS ts ns=.ok t ts1 n1) (h2:bothS ex ts1 n1=.ok h ts2 n2) (h3:goals1S ex ts2 n2=.ok (g,b) ts3 n3) :
  partsS ex ts ns=if isS [46] ts3 then .ok ⟨t,h.1,h.2,g,bodyS b,0⟩ ts3.tail n3 else .err ts3.length 16:=by
 have h4:goals2S ex ts2 n2=if isS [46] ts3 then .ok (g,b) ts3.tail n3 else .err ts3.length 16:=by
  simp only [goals1S] at h3
  simp only [goals2S]
  revert h3
  cases goalsS ex 12 [] ts2 n2 with
  | err l e=>intro h3;cases h3
  | ok v r ns2 =>
   simp only
   by_cases hc:isS [124] r=true
   ·rw [if_pos hc,if_pos hc]
    cases goalsS ex 12 [] r.tail ns2 with
    | err l e=>intro h3;cases h3
    | ok v2 r2 ns3=>intro h3;injection h3 with e1 e2 e3;injection e1 with e0 e1;subst e0 e1 e2 e3;rfl
   ·rw [if_neg hc,if_neg hc]
    intro h3;injection h3 with e1 e2 e3;injection e1 with e0 e1;subst e0 e1 e2 e3;rfl
 simp only [partsS,h1,h2,h4]
 by_cases hc:isS [46] ts3=true
 ·rw [if_pos hc,if_pos hc]
 ·rw [if_neg hc,if_neg hc]
theorem parts_err2 {ex:Rd1 Tm} {ts ts1:List Tok} {ns n1:List (List UInt8)} {t:List UInt8} {n:Nat} {e:Int} (h1:labelS ts ns=.ok t ts1 n1) (h2:bothS ex ts1 n1=.err n e):partsS ex ts ns=.err n e:=by simp only [partsS,h1,h2]
theorem parts_err3 {ex:Rd1 Tm} {ts ts1 ts2:List Tok} {ns n1 n2:List (List UInt8)} {t:List UInt8} {h:List As×List As} {n:Nat} {e:Int} (h1:labelS ts ns=.ok t ts1 n1) (h2:bothS ex ts1 n1=.ok h ts2 n2) (h3:goals1S ex ts2 n2=.err n e):partsS ex ts ns=.err n e:=by
 have h4:goals2S ex ts2 n2=.err n e:=by
  simp only [goals1S] at h3
  simp only [goals2S]
  revert h3
  cases goalsS ex 12 [] ts2 n2 with
  | err l e2=>intro h3;injection h3 with e1 e3;rw [e1,e3]
  | ok v r ns2 =>
   simp only
   by_cases hc:isS [124] r=true
   ·rw [if_pos hc,if_pos hc]
    cases goalsS ex 12 [] r.tail ns2 with
    | err l e2=>intro h3;injection h3 with e1 e3;simp only [e1,e3]
    | ok v2 r2 ns3=>intro h3;cases h3
   ·rw [if_neg hc,if_neg hc];intro h3;cases h3
 simp only [partsS,h1,h2,h4]
theorem parts_err1 {ex:Rd1 Tm} {ts:List Tok} {ns:List (List UInt8)} {n:Nat} {e:Int} (h:labelS ts ns=.err n e∨labelS ts ns=.ok [] ts ns∧∀ns,nmS ts ns=.err n e):partsS ex ts ns=.err n e:=by
 rcases h with h|⟨h,hn⟩
 ·simp only [partsS,h]
 ·have h2:bothS ex ts ns=.err n e:=by
   have h3:headsS ex 0 [] ts ns=.err n e:=by
    rw [headsS,if_neg (by simp),atomS,hn ns]
   simp only [bothS,h3]
  simp only [partsS,h,h2]
section
variable {R:Nat} {A:Option Addr} {c:Nat} {l:List Tk}
def RuAt (lo:Nat) (w:World) (t:List UInt8) (ks rs:List Am) (gs bs:List Gl) (kv rv gv bv:Value):Prop:=t.length≤16384∧∃M m1 m2 m3,M≤w.heap.size∧RowsM M lo m1 m2 m3 w kv rv gv bv ks rs gs bs
def RuleQ (ex:Rd1 Tm) (R:Nat) (A:Option Addr) (c:Nat) (l:List Tk) (i:Nat) (w:World) (en:Ending) (w':World):Prop :=
 ∃(t:List UInt8) (ks rs:List Am) (gs bs:List Gl) (kA rA gA bA:Option Addr) (kn kc rn rc gn gc bn bc n:Nat) (j:Nat) (er:Int),
  en=.returned (.tuple #[.agg #[.string (S t),.slice kA kn kc,.slice rA rn rc,.slice gA gn gc,.slice bA bn bc,.int .i64 (n:Int)],.int .i64 er])∧Kq R w w'∧Pq w' R A c l j ∧
  ((er=0∧(∃ns,ruleS ex (leftT l i)=.ok (ruP t ks rs gs bs n) (leftT l j) ns)∧i < j∧RuAt w.heap.size w' t ks rs gs bs (.slice kA kn kc) (.slice rA rn rc) (.slice gA gn gc) (.slice bA bn bc))∨(er≠0∧ruleS ex (leftT l i)=.err (leftT l j).length er))
theorem sizes_A {g:Int→Int}:∀{ks:List Am} {l:List Tk} {i j:Nat},(∀x∈ks.map (rdAm.h g),rightA x.1 x.2=true)→OkV l i j (ks.flatMap Am.args)→nodesLL (argsA ks)≤ks.length*200
 | [],_,_,_,_,_=>by simp [argsA,nodesLL]
 | x :: r,l,i,j,h,hv=>by
  rw [List.flatMap_cons] at hv
  obtain ⟨v1,v2⟩:=okv_sub hv
  have h1:=h (rdAm.h g x) (by simp)
  have h2:sizeL (numL2 g x.args)≤200:=rightA_size (a:=(x.name.data.toList,numL2 g x.args)) h1
  rw [(num2_size g).2] at h2
  have h3:=nodes_size.2 x.args v1.1
  have h4:=sizes_A (ks:=r) (fun y hy=>h y (by rw [List.map_cons];exact List.mem_cons_of_mem _ hy)) v2
  have e:nodesLL (argsA (x :: r))=nodesL x.args+nodesLL (argsA r):=by simp [argsA,nodesLL,hdAm]
  rw [e,List.length_cons]
  omega
theorem sizes_G {g:Int→Int}:∀{ks:List Gl} {l:List Tk} {i j:Nat},(∀x∈ks.map (rdGl.h g),rightG x=true)→OkV l i j (ks.flatMap Gl.args)→nodesLL (argsG ks)≤ks.length*200
 | [],_,_,_,_,_=>by simp [argsG,nodesLL]
 | x :: r,l,i,j,h,hv=>by
  rw [List.flatMap_cons] at hv
  obtain ⟨v1,v2⟩:=okv_sub hv
  have h1:=h (rdGl.h g x) (by simp)
  have h2:sizeL (numL2 g x.args)≤200:=rightG_size (g:=(x.op,x.name.data.toList,numL2 g x.args)) h1
  rw [(num2_size g).2] at h2
  have h3:=nodes_size.2 x.args v1.1
  have h4:=sizes_G (ks:=r) (fun y hy=>h y (by rw [List.map_cons];exact List.mem_cons_of_mem _ hy)) v2
  have e:nodesLL (argsG (x :: r))=nodesL x.args+nodesLL (argsG r):=by simp [argsG,nodesLL,hdGl]
  rw [e,List.length_cons]
  omega
theorem goals1_facts {ex:Rd1 Tm} {ts:List Tok} {ns:List (List UInt8)} {g b:List Gs} {r:List Tok} {ns2:List (List UInt8)} (h:goals1S ex ts ns=.ok (g,b) r ns2):AllG g∧AllG b:=by
 simp only [goals1S] at h
 split at h
 ·cases h
 ·rename_i v r1 ns1 hf
  have h1:=(goals_facts 12 _ _ (Nat.le_refl _) _ _ _ _ _ hf AllG.nil).1
  split at h
  ·split at h
   ·cases h
   ·rename_i v2 r2 ns3 hf2
    have h2:=(goals_facts 12 _ _ (Nat.le_refl _) _ _ _ _ _ hf2 AllG.nil).1
    injection h with e1
    injection e1 with e0 e1
    rw [←e0,← e1]
    exact ⟨h1,h2⟩
  ·injection h with e1
   injection e1 with e0 e1
   rw [←e0,← e1]
   exact ⟨AllG.nil,h1⟩
abbrev sets6 (w:World) (T:Nat) (v0 v1 v2 v3 v4 v5:Value):World:=(((((w.setCell ⟨T,0,none⟩ v0).setCell ⟨T,1,none⟩ v1).setCell ⟨T,2,none⟩ v2).setCell ⟨T,3,none⟩ v3).setCell ⟨T,4,none⟩ v4).setCell ⟨T,5,none⟩ v5
theorem sets6_size (w:World) (T:Nat) (v0 v1 v2 v3 v4 v5:Value):(sets6 w T v0 v1 v2 v3 v4 v5).heap.size=w.heap.size:=by simp [World.setCell]
theorem sets6_block (w:World) (T:Nat) (v0 v1 v2 v3 v4 v5:Value) {k:Nat} (h:k≠T):(sets6 w T v0 v1 v2 v3 v4 v5).heap[k]?=w.heap[k]?:=by
 have e:∀(W:World) (q:Nat) (v:Value),(W.setCell ⟨T,q,none⟩ v).heap[k]?=W.heap[k]?:=fun W q v=>Below.heap_setCell _ _ _ _ h
 rw [e,e,e,e,e,e]
theorem sets6_rest (w:World) (T:Nat) (v0 v1 v2 v3 v4 v5:Value):(sets6 w T v0 v1 v2 v3 v4 v5).os=w.os∧(sets6 w T v0 v1 v2 v3 v4 v5).tape=w.tape∧(sets6 w T v0 v1 v2 v3 v4 v5).output=w.output:=by
 have e:∀(W:World) (p:Addr) (v:Value),(W.setCell p v).os=W.os∧(W.setCell p v).tape=W.tape∧(W.setCell p v).output=W.output:=fun _ _ _=>⟨rfl,rfl,rfl⟩
 refine ⟨?_,?_,?_⟩
 ·rw [(e _ _ _).1,(e _ _ _).1,(e _ _ _).1,(e _ _ _).1,(e _ _ _).1,(e _ _ _).1]
 ·rw [(e _ _ _).2.1,(e _ _ _).2.1,(e _ _ _).2.1,(e _ _ _).2.1,(e _ _ _).2.1,(e _ _ _).2.1]
 ·rw [(e _ _ _).2.2,(e _ _ _).2.2,(e _ _ _).2.2,(e _ _ _).2.2,(e _ _ _).2.2,(e _ _ _).2.2]
theorem endV {w W V:World} {j:Nat} (hR:R < w.heap.size) (hk:Kq R w W) (hp:Pq W R A c l j) (hs:W.heap.size≤V.heap.size) (hb:∀k,k≠w.heap.size→V.heap[k]?=W.heap[k]?) (ho:V.os=W.os) (ht:V.tape=W.tape) (hu:V.output=W.output):Kq R w V∧Pq V R A c l j :=
 ⟨⟨ho.trans hk.os,ht.trans hk.tape,hu.trans hk.output,Nat.le_trans hk.size hs,fun k h1 h2 h3=>(hb k (Nat.ne_of_lt h1)).trans (hk.block k h1 h2 h3),hk.own⟩,hp.of hs fun _ h1=>hb _ (Nat.ne_of_lt (Nat.lt_of_le_of_lt h1 hR))⟩
theorem end6 {w W:World} {j:Nat} (hR:R < w.heap.size) (hk:Kq R w W) (hp:Pq W R A c l j) (v0 v1 v2 v3 v4 v5:Value):Kq R w (sets6 W w.heap.size v0 v1 v2 v3 v4 v5)∧Pq (sets6 W w.heap.size v0 v1 v2 v3 v4 v5) R A c l j :=
 endV hR hk hp (Nat.le_of_eq (sets6_size W w.heap.size v0 v1 v2 v3 v4 v5).symm) (fun _ h=>sets6_block W w.heap.size v0 v1 v2 v3 v4 v5 h) (sets6_rest W w.heap.size v0 v1 v2 v3 v4 v5).1 (sets6_rest W w.heap.size v0 v1 v2 v3 v4 v5).2.1 (sets6_rest W w.heap.size v0 v1 v2 v3 v4 v5).2.2
theorem RowsM.low {M lo lo' m1 m2 m3:Nat} {w:World} {kv rv gv bv:Value} {ks rs:List Am} {gs bs:List Gl} (h:RowsM M lo m1 m2 m3 w kv rv gv bv ks rs gs bs) (hl:lo'≤lo):RowsM M lo' m1 m2 m3 w kv rv gv bv ks rs gs bs :=
 ⟨h.k.low hl,h.r,h.g,h.b,h.lk,h.lr,h.lg,h.lb,Nat.le_trans hl h.o1,h.o2,h.o3,h.o4⟩
abbrev ZR:Array Value:=#[.string ⟨#[]⟩,.slice none 0 0,.slice none 0 0,.slice none 0 0,.slice none 0 0,.int .i64 0]
set_option maxHeartbeats 8000000 in
set_option maxRecDepth 100000 in
theorem rule_at (hg:GoodT l) {n:Nat} {ex:Rd1 Tm} (i:Nat)
  (hHd:∀(k:Nat) (w:World),Pq w R A c l k→i≤k→(leftT l k).length≤n→Calls Tryz.prog 139 #[.pointer (some ⟨R,0,none⟩)] w (ElR rdAm (headR ex) R A c l i k w))
  (hGl:∀(k:Nat) (w:World),Pq w R A c l k→i≤k→(leftT l k).length≤n→Calls Tryz.prog 106 #[.pointer (some ⟨R,0,none⟩)] w (ElR rdGl (goalR ex) R A c l i k w))
  (w:World) (h:Pq w R A c l i) (hn:(leftT l i).length≤n) :
  Calls Tryz.prog 58 #[.pointer (some ⟨R,0,none⟩)] w (RuleQ ex R A c l i w):=by
 have HG:=Lib.hid hg
 have hR:=h.lt
 have hTR:¬w.heap.size=R:=by omega
 have hBR:¬w.heap.size+1=R:=by omega
 have hRB:R < w.heap.size+1:=by omega
 have HI:=Lib.hid h.ilt
 have HLow:=Lib.hid h.low
 have hb2:=((Below.refl w.heap.size w).alloc (Nat.le_refl _) (.cells ZR 25)).alloc (by simp) (.cells ZR 25)
 have HP2:=Lib.hid (h.below hb2)
 have HK2:=Lib.hid (Below.kp hb2 R Z0)
 have HT2:=Lib.hid ((BoxL.new w ZR.toList 25).alloc (.cells ZR 25))
 have HB2:=Lib.hid (show BoxL ((w.alloc (.cells ZR 25)).alloc (.cells ZR 25)) (w.heap.size+1) ZR.toList by
  have:=BoxL.new (w.alloc (.cells ZR 25)) ZR.toList 25
  rw [show (w.alloc (.cells ZR 25)).heap.size=w.heap.size+1 by simp] at this
  exact this)
 have Q:=Lib.hid (rname_at hg i i _ HP2.out)
 have QH:=Lib.hid (fun k W (hW:Pq W R A c l k) h1 h2 vn hB=>heads_at hg hHd k W hW h1 h2 vn (.slice none 0 0) (.slice none 0 0) (.int .i64 0) hB hRB)
 have QG:=Lib.hid (fun k W (hW:Pq W R A c l k) h1 h2 vn kv rv hB=>goals_at hg hGl k W hW h1 h2 vn kv rv (.int .i64 0) hB hRB)
 have HNn:=Lib.hid hn
 have HN0:=Lib.hid (show nsL l i i=[] from nsU_start (Nat.le_refl _))
 clear hg hHd hGl h hn hb2
 go_enter Tryz.func58,Tryz.ntmps58
 go_wp2_with fail
 refine Q.out.mono ?_
 rintro e w3 ⟨t,er,j,rfl,hk,hp,ht,ho⟩
 have HT3:=Lib.hid ((HT2.out.kq hk hTR).put (p:=⟨w.heap.size+1,0,none⟩) (show w.heap.size+1≠w.heap.size by omega) (.string (S t)))
 have HB3:=Lib.hid (show BoxL (w3.setCell ⟨w.heap.size+1,0,none⟩ (.string (S t))) (w.heap.size+1) [.string (S t),.slice none 0 0,.slice none 0 0,.slice none 0 0,.slice none 0 0,.int .i64 0] from (HB2.out.kq hk hBR).set (j:=0) (by simp) (.string (S t)))
 have HK3:=Lib.hid (((HK2.out.trans hk)).put (p:=⟨w.heap.size+1,0,none⟩) (show w.heap.size≤w.heap.size+1 by omega) (.string (S t)))
 have HP3:=Lib.hid (hp.put (p:=⟨w.heap.size+1,0,none⟩) hRB (.string (S t)))
 have hsz3:w.heap.size+2≤w3.heap.size:=by have:=hk.size;simpa using this
 have HS3:=Lib.hid (show (w3.setCell ⟨w.heap.size+1,0,none⟩ (.string (S t))).heap.size=w3.heap.size by simp [World.setCell])
 have HTt:=Lib.hid ht
 obtain ⟨p0,p1,p2,p3,p4,p5,k0,k1,k2,k3,k4,k5⟩:=(HB2.out.kq hk hBR).get6
 clear hk hp ht
 rcases ho with ⟨rfl,hij,hf⟩|⟨her,rfl,hf⟩
 ·have HF:=Lib.hid hf
  have HJ:=Lib.hid hij
  clear hf hij
  have QH3:=Lib.hid (QH.out j _ HP3.out HJ.out (by have hn:=HNn.out;have hj:=HJ.out;rw [left_length] at hn ⊢;omega) _ HB3.out)
  go_wp2_with fail
  refine QH3.out.mono ?_
  rintro e w4 ⟨ks,rs,j2,er2,kv,rv,m,rfl,hk4,hp4,hB4,hrk,hrr,hm,hlk,ho4⟩
  obtain ⟨kA,kc,rfl⟩:=RowG.zform hrk
  obtain ⟨rA,rc,rfl⟩:=RowG.zform hrr
  have HT4:=Lib.hid (HT3.out.kb hk4 hTR (by omega))
  have HB4:=Lib.hid hB4
  have HK4:=Lib.hid (Kp.unb HK3.out (by omega) hk4)
  have HP4:=Lib.hid hp4
  have HRk4:=Lib.hid (show RowG elAm 66 w3.heap.size w4 (.slice kA ks.length kc) ks by rw [←HS3.out];exact hrk)
  have HRr4:=Lib.hid hrr
  have HM4:=Lib.hid (show w3.heap.size≤m by rw [←HS3.out];exact hm)
  have HLk4:=Lib.hid hlk
  have hsz4:w3.heap.size≤w4.heap.size:=by have:=hk4.size;rw [HS3.out] at this;exact this
  obtain ⟨b0,b1,b2,b3,b4,b5,f0,f1,f2,f3,f4,f5⟩:=hB4.get6
  obtain ⟨c0,c1,c2,c3,c4,c5,g0,g1,g2,g3,g4,g5⟩:=HT4.out.get6
  clear hk4 hp4 hB4 hrk hrr hm hlk p0 p1 p2 p3 p4 p5 k0 k1 k2 k3 k4 k5
  rcases ho4 with ⟨rfl,hf,hij,hv,hl1,hl2⟩|⟨her,hf⟩
  ·have HF4:=Lib.hid hf
   have HJ4:=Lib.hid hij
   have HV4:=Lib.hid hv
   have HL4:=Lib.hid (And.intro hl1 hl2)
   clear hf hij hv hl1 hl2
   have QG4:=Lib.hid (QG.out j2 _ HP4.out (by have:=HJ.out;have:=HJ4.out;omega) (by have hn:=HNn.out;have h1:=HJ.out;have h2:=HJ4.out;rw [left_length] at hn ⊢;omega) _ _ _ HB4.out)
   go_wp2_with fail
   refine QG4.out.mono ?_
   rintro e w5 ⟨gs,bs,j3,er3,gv,bv,m3,rfl,hk5,hp5,hB5,hrg,hrb,hm3,hlg,ho5⟩
   obtain ⟨gA,gc,rfl⟩:=RowG.zform hrg
   obtain ⟨bA,bc,rfl⟩:=RowG.zform hrb
   have HT5:=Lib.hid (HT4.out.kb hk5 hTR (by omega))
   have HB5:=Lib.hid hB5
   have HK5:=Lib.hid (Kp.unb HK4.out (by omega) hk5)
   have HP5:=Lib.hid hp5
   have HRk5:=Lib.hid (HRk4.out.kb hk5 (by omega) (by omega))
   have HRr5:=Lib.hid (HRr4.out.kb hk5 (by have:=HM4.out;omega) (by have:=HM4.out;omega))
   have HLr5:=Lib.hid (HRr4.out.less)
   have HRg5:=Lib.hid hrg
   have HRb5:=Lib.hid hrb
   have HM5:=Lib.hid hm3
   have HLg5:=Lib.hid hlg
   have hsz5:w4.heap.size≤w5.heap.size:=hk5.size
   clear b0 b1 b2 b3 b4 b5 f0 f1 f2 f3 f4 f5 c0 c1 c2 c3 c4 c5 g0 g1 g2 g3 g4 g5
   obtain ⟨b0,b1,b2,b3,b4,b5,f0,f1,f2,f3,f4,f5⟩:=hB5.get6
   obtain ⟨c0,c1,c2,c3,c4,c5,g0,g1,g2,g3,g4,g5⟩:=HT5.out.get6
   clear hk5 hp5 hB5 hrg hrb hm3 hlg
   rcases ho5 with ⟨rfl,hf,hij,hv,hl1,hl2⟩|⟨her,hf⟩
   ·have HF5:=Lib.hid hf
    have HJ5:=Lib.hid hij
    have HV5:=Lib.hid hv
    have HL5:=Lib.hid (And.intro hl1 hl2)
    clear hf hij hv hl1 hl2
    obtain ⟨b,hb⟩:∃b,((l.getD j3 default).2.2==[46])=b:=⟨_,rfl⟩
    have X5:=Lib.hid (isS_text HG.out HP5.out.ilt [46] (by decide) hb)
    have QE:=Lib.hid (fun W (hW:Pq W R A c l j3)=>expect_at HG.out hW [46] (by decide) hb)
    have HPa:=Lib.hid (show ∃bb,partsS ex (leftT l i) []=(if b=true then .ok ⟨t,ks.map (rdAm.h (gL l i)),rs.map (rdAm.h (gL l i)),gs.map (rdGl.h (gL l i)),bodyS bb,0⟩ (leftT l (j3+1)) (nsL l i j3) else .err (leftT l j3).length 16)∧bodyS bb=bs.map (rdGl.h (gL l i))∧AllG (gs.map (rdGl.h (gL l i)))∧AllG bb by
     obtain ⟨bb,hb1,hb2⟩:=HF5.out
     have h0:=HF.out
     rw [HN0.out] at h0
     have hgf:=goals1_facts hb1
     refine ⟨bb,?_,hb2,hgf.1,hgf.2⟩
     rw [parts_plain h0 HF4.out hb1,X5.out,left_tail])
    clear hb
    cases b
    ·go_wp2_with (go_at_call 98;refine (QE.out _ HP5.out).mono ?_;rintro en w6 ⟨rfl,hk6,hp6⟩;have HK6:=Lib.hid (HK5.out.trans hk6);have HP6:=Lib.hid (show Pq w6 R A c l j3 from hp6);clear b0 b1 b2 b3 b4 b5 f0 f1 f2 f3 f4 f5 c0 c1 c2 c3 c4 c5 g0 g1 g2 g3 g4 g5;obtain ⟨b0,b1,b2,b3,b4,b5,f0,f1,f2,f3,f4,f5⟩:=(HB5.out.kq hk6 hBR).get6;obtain ⟨c0,c1,c2,c3,c4,c5,g0,g1,g2,g3,g4,g5⟩:=(HT5.out.kq hk6 hTR).get6;clear hk6 hp6)
     refine bodyPost_ret (v:=.tuple #[.agg #[.string (S t),.slice kA ks.length kc,.slice rA rs.length rc,.slice gA gs.length gc,.slice bA bs.length bc,.int .i64 0],.int .i64 16]) (by simp [results,Tryz.results58,go_sem,c0,c1,c2,c3,c4,c5]) rfl ?_
     obtain ⟨e1,e2⟩:=end6 hR HK6.out HP6.out (.string (S t)) (.slice kA ks.length kc) (.slice rA rs.length rc) (.slice gA gs.length gc) (.slice bA bs.length bc) (.int .i64 0)
     refine ⟨t,ks,rs,gs,bs,kA,rA,gA,bA,ks.length,kc,rs.length,rc,gs.length,gc,bs.length,bc,0,j3,16,rfl,e1,e2,.inr ⟨by omega,?_⟩⟩
     obtain ⟨bb,hb1,_⟩:=HPa.out
     simp only [ruleS,hb1]
     rfl
    ·have HRows:=Lib.hid (show ∀W,Kq R w5 W→RowsM W.heap.size w3.heap.size (min m w4.heap.size) w4.heap.size (min m3 w5.heap.size) W (.slice kA ks.length kc) (.slice rA rs.length rc) (.slice gA gs.length gc) (.slice bA bs.length bc) ks rs gs bs from fun W hk=>by
      have hm4:=HM4.out
      have hm5:=HM5.out
      have hsW:=hk.size
      exact ⟨HRk5.out.kq hk (by omega),(HRr5.out.low (Nat.min_le_left _ _)).kq hk (by omega),HRg5.out.kq hk (by omega),(HRb5.out.low (Nat.min_le_left _ _)).kq hk (by omega),
       ⟨fun k hk=>by have:=HLk4.out.1 k hk;have:=HRk4.out.less.1 k hk;omega,fun k hk=>by have:=HLk4.out.2 k hk;have:=HRk4.out.less.2 k hk;omega⟩,HLr5.out,
       ⟨fun k hk=>by have:=HLg5.out.1 k hk;have:=HRg5.out.less.1 k hk;omega,fun k hk=>by have:=HLg5.out.2 k hk;have:=HRg5.out.less.2 k hk;omega⟩,
       ((HRb5.out.low (Nat.min_le_left m3 w5.heap.size)).kq hk (by omega)).less,by omega,by omega,by omega,by omega⟩)
     have hvv:=HV4.out.append HV5.out (Nat.le_refl _) (by have:=HJ4.out;omega) (by have:=HJ5.out;omega)
     have HVs:=Lib.hid (show OkV l i j3 (ks.flatMap Am.args++(rs.flatMap Am.args++(gs.flatMap Gl.args++bs.flatMap Gl.args))) by
      rw [←List.append_assoc]
      exact hvv.wide HJ.out (Nat.le_refl _))
     clear hvv
     have HSz:=Lib.hid (show nodesLL (argsA ks)+nodesLL (argsA rs)+nodesLL (argsG gs)+nodesLL (argsG bs)≤100000 by
      have hbo:=both_facts HF4.out
      obtain ⟨bb,_,hb2,hb3,hb4⟩:=HPa.out
      have hbb:AllG (bs.map (rdGl.h (gL l i))):=by rw [←hb2];exact (body_facts bb hb4).1
      obtain ⟨v1,v2⟩:=okv_sub HVs.out
      obtain ⟨v2,v3⟩:=okv_sub v2
      obtain ⟨v3,v4⟩:=okv_sub v3
      have s1:=sizes_A hbo.1 v1
      have s2:=sizes_A hbo.2.1 v2
      have s3:=sizes_G hb3 v3
      have s4:=sizes_G hbb v4
      have:=HL4.out.1
      have:=HL4.out.2
      have:=HL5.out.1
      have:=HL5.out.2
      omega)
     have HNs6:=Lib.hid (show nsL l i (j3+1)=nsL l i j3 from nsL_s HP5.out.ilt X5.out)
     have QN:=Lib.hid (fun W (hk:Kq R w5 W) (hp:Pq W R A c l (j3+1)) (hB:BoxL W (w.heap.size+1) [.string (S t),.slice kA ks.length kc,.slice rA rs.length rc,.slice gA gs.length gc,.slice bA bs.length bc,.int .i64 0])=>by
      obtain ⟨v1,v2⟩:=okv_sub HVs.out
      obtain ⟨v2,v3⟩:=okv_sub v2
      obtain ⟨v3,v4⟩:=okv_sub v3
      exact nrule_at HG.out hp.toks (fun g e=>by have:=HLow.out g e;omega) (HRows.out W hk) hB (by omega) v1 v2 v3 v4 (Nat.le_of_lt HP5.out.ilt) HSz.out)
     go_wp2_with (go_at_call 98;refine (QE.out _ HP5.out).mono ?_;rintro en w6 ⟨rfl,hk6,hp6⟩;have HK6:=Lib.hid hk6;have HP6:=Lib.hid (show Pq w6 R A c l (j3+1) from hp6);have HB6:=Lib.hid (HB5.out.kq hk6 hBR);have HT6:=Lib.hid (HT5.out.kq hk6 hTR);clear b0 b1 b2 b3 b4 b5 f0 f1 f2 f3 f4 f5 c0 c1 c2 c3 c4 c5 g0 g1 g2 g3 g4 g5 hk6 hp6;have r0:=HP6.out.l0)
     refine (QN.out _ HK6.out HP6.out HB6.out).mono ?_
     rintro en w7 ⟨rfl,ho,htp,hout,hs7,hb7,hrows7,hB7⟩
     have HP7:=Lib.hid (HP6.out.of hs7 fun k hk=>hb7 k (by omega) (by omega))
     have hk56:=HK5.out.trans HK6.out
     have HK7:=Lib.hid (show Kq R w w7 from ⟨ho.trans hk56.os,htp.trans hk56.tape,hout.trans hk56.output,Nat.le_trans hk56.size hs7,fun k hk h1 h2=>(hb7 k (by omega) (by omega)).trans (hk56.block k hk h1 h2),fun _ h=>.inl h⟩)
     have HRw7:=Lib.hid hrows7
     have HSz7:=Lib.hid hs7
     obtain ⟨b0,b1,b2,b3,b4,b5,f0,f1,f2,f3,f4,f5⟩:=hB7.get6
     obtain ⟨c0,c1,c2,c3,c4,c5,g0,g1,g2,g3,g4,g5⟩:=(HT6.out.of hs7 (hb7 w.heap.size (by omega) (by omega))).get6
     clear ho htp hout hs7 hb7 hrows7 hB7 hk56 r0
     have hTB:¬w.heap.size=w.heap.size+1:=by omega
     generalize hn7:(nB (xV l) ks rs gs bs).2.length=n7 at *
     go_wp2_with fail
     refine bodyPost_ret (v:=.tuple #[.agg #[.string (S t),.slice kA ks.length kc,.slice rA rs.length rc,.slice gA gs.length gc,.slice bA bs.length bc,.int .i64 (n7:Int)],.int .i64 0]) (by simp [results,Tryz.results58,go_sem,c0,c1,c2,c3,c4,c5]) rfl ?_
     obtain ⟨e1,e2⟩:=end6 hR HK7.out HP7.out (.string (S t)) (.slice kA ks.length kc) (.slice rA rs.length rc) (.slice gA gs.length gc) (.slice bA bs.length bc) (.int .i64 (n7:Int))
     refine ⟨t,setA ks (nK (xV l) ks).1,setA rs (nR (xV l) ks rs).1,setG gs (nG (xV l) ks rs gs).1,setG bs (nB (xV l) ks rs gs bs).1,kA,rA,gA,bA,ks.length,kc,rs.length,rc,gs.length,gc,bs.length,bc,n7,j3+1,0,rfl,e1,e2,.inl ⟨rfl,?_,by have:=HJ.out;have:=HJ4.out;have:=HJ5.out;omega,HTt.out,w6.heap.size,min m w4.heap.size,w4.heap.size,min m3 w5.heap.size,?_,?_⟩⟩
     ·obtain ⟨bb,hb1,hb2,_⟩:=HPa.out
      refine ⟨nsL l i j3,?_⟩
      have e3:partsS ex (leftT l i) []=.ok ⟨t,ks.map (rdAm.h (gL l i)),rs.map (rdAm.h (gL l i)),gs.map (rdGl.h (gL l i)),bs.map (rdGl.h (gL l i)),0⟩ (leftT l (j3+1)) (nsL l i j3):=by
       rw [hb1,hb2]
       first|exact if_pos rfl|exact if_pos trivial|simp
      simp only [ruleS,e3]
      rw [rule_numbered t (Nat.le_refl i) HVs.out,hn7]
     ·rw [sets6_size];exact HSz7.out
     ·exact (HRw7.out.of (Nat.le_of_eq (sets6_size _ _ _ _ _ _ _ _).symm) fun k h1 h2=>sets6_block _ _ _ _ _ _ _ _ (by omega)).low (by omega)
   ·have hne:(er3==0)=false:=by simpa using her
    have HE:=Lib.hid her
    have HRe:=Lib.hid (show ruleS ex (leftT l i)=.err (leftT l j3).length er3 by
     have h0:=HF.out
     rw [HN0.out] at h0
     simp only [ruleS,parts_err3 h0 HF4.out hf])
    clear her hf
    go_wp2_with fail
    refine bodyPost_ret (v:=.tuple #[.agg #[.string (S t),.slice kA ks.length kc,.slice rA rs.length rc,.slice gA gs.length gc,.slice bA bs.length bc,.int .i64 0],.int .i64 er3]) (by simp [results,Tryz.results58,go_sem,c0,c1,c2,c3,c4,c5]) rfl ?_
    obtain ⟨e1,e2⟩:=end6 hR HK5.out HP5.out (.string (S t)) (.slice kA ks.length kc) (.slice rA rs.length rc) (.slice gA gs.length gc) (.slice bA bs.length bc) (.int .i64 0)
    exact ⟨t,ks,rs,gs,bs,kA,rA,gA,bA,ks.length,kc,rs.length,rc,gs.length,gc,bs.length,bc,0,j3,er3,rfl,e1,e2,.inr ⟨HE.out,HRe.out⟩⟩
  ·have hne:(er2==0)=false:=by simpa using her
   have HE:=Lib.hid her
   have HRe:=Lib.hid (show ruleS ex (leftT l i)=.err (leftT l j2).length er2 by
    have h0:=HF.out
    rw [HN0.out] at h0
    simp only [ruleS,parts_err2 h0 hf])
   clear her hf
   go_wp2_with fail
   refine bodyPost_ret (v:=.tuple #[.agg #[.string (S t),.slice kA ks.length kc,.slice rA rs.length rc,.slice none 0 0,.slice none 0 0,.int .i64 0],.int .i64 er2]) (by simp [results,Tryz.results58,go_sem,c0,c1,c2,c3,c4,c5]) rfl ?_
   obtain ⟨e1,e2⟩:=end6 hR HK4.out HP4.out (.string (S t)) (.slice kA ks.length kc) (.slice rA rs.length rc) (.slice none 0 0) (.slice none 0 0) (.int .i64 0)
   exact ⟨t,ks,rs,[],[],kA,rA,none,none,ks.length,kc,rs.length,rc,0,0,0,0,0,j2,er2,rfl,e1,e2,.inr ⟨HE.out,HRe.out⟩⟩
 ·have hne:(er==0)=false:=by rcases her with rfl|rfl<;>rfl
  have HE:=Lib.hid (show er≠0 by omega)
  have HRe:=Lib.hid (show ruleS ex (leftT l j)=.err (leftT l j).length er by
   rw [HN0.out] at hf
   simp only [ruleS,parts_err1 hf])
  clear her hf
  obtain ⟨b0,b1,b2,b3,b4,b5,f0,f1,f2,f3,f4,f5⟩:=HB3.out.get6
  obtain ⟨c0,c1,c2,c3,c4,c5,g0,g1,g2,g3,g4,g5⟩:=HT3.out.get6
  go_wp2_with fail
  refine bodyPost_ret (v:=.tuple #[.agg #[.string (S t),.slice none 0 0,.slice none 0 0,.slice none 0 0,.slice none 0 0,.int .i64 0],.int .i64 er]) (by simp [results,Tryz.results58,go_sem,c0,c1,c2,c3,c4,c5]) rfl ?_
  obtain ⟨e1,e2⟩:=end6 hR HK3.out HP3.out (.string (S t)) (.slice none 0 0) (.slice none 0 0) (.slice none 0 0) (.slice none 0 0) (.int .i64 0)
  exact ⟨t,[],[],[],[],none,none,none,none,0,0,0,0,0,0,0,0,0,j,er,rfl,e1,e2,.inr ⟨HE.out,HRe.out⟩⟩
end
end Go.Proofs.YtnghanpmmbcbbaaGreatDoor
namespace Go.Proofs.YtnghanpmmbcbbaaGreatDoor
open Go.RowKit
section
variable {R:Nat} {A:Option Addr} {c:Nat} {l:List Tk}
def QueryQ (ex:Rd1 Tm) (R:Nat) (A:Option Addr) (c:Nat) (l:List Tk) (i:Nat) (w:World) (en:Ending) (w':World):Prop :=
 ∃(gs:List Gl) (ns:List (List UInt8)) (gA zA:Option Addr) (gn gc zn zc:Nat) (j:Nat) (er:Int),
  en=.returned (.tuple #[.agg #[.slice gA gn gc,.slice zA zn zc],.int .i64 er])∧Kq R w w'∧Pq w' R A c l j ∧
  ((er=0∧(∃m,quS ex (leftT l i)=.ok (gs.map sG,ns) (leftT l j) m)∧RowG elGl 59 w.heap.size w' (.slice gA gn gc) gs∧w'.ownsRow w.heap.size 9 1 (.slice zA zn zc) ns.length (nmC ns))∨(er≠0∧quS ex (leftT l i)=.err (leftT l j).length er))
abbrev sets2 (w:World) (T:Nat) (v0 v1:Value):World:=(w.setCell ⟨T,0,none⟩ v0).setCell ⟨T,1,none⟩ v1
theorem sets2_block (w:World) (T:Nat) (v0 v1:Value) {k:Nat} (h:k≠T):(sets2 w T v0 v1).heap[k]?=w.heap[k]?:=by
 have e:∀(W:World) (q:Nat) (v:Value),(W.setCell ⟨T,q,none⟩ v).heap[k]?=W.heap[k]?:=fun W q v=>Below.heap_setCell _ _ _ _ h
 rw [e,e]
theorem sets2_size (w:World) (T:Nat) (v0 v1:Value):(sets2 w T v0 v1).heap.size=w.heap.size:=by simp [World.setCell]
theorem end22 {w W:World} {j:Nat} (hR:R < w.heap.size) (hk:Kq R w W) (hp:Pq W R A c l j) (v0 v1:Value):Kq R w (sets2 W w.heap.size v0 v1)∧Pq (sets2 W w.heap.size v0 v1) R A c l j :=
 endV hR hk hp (Nat.le_of_eq (sets2_size W w.heap.size v0 v1).symm) (fun _ h=>sets2_block W w.heap.size v0 v1 h) rfl rfl rfl
theorem own_low {w:World} {lo lo':Nat} {t:TypeId} {k:Nat} {r:Value} {n:Nat} {vs:List Value} (h:w.ownsRow lo t k r n vs) (hl:lo'≤lo):w.ownsRow lo' t k r n vs:=by
 obtain ⟨h1,h2⟩:=h
 refine ⟨h1,h2.imp id ?_⟩
 rintro ⟨g,cap,cur,e1,e2,e3⟩
 exact ⟨g,cap,cur,e1,Nat.le_trans hl e2,e3⟩
set_option maxHeartbeats 8000000 in
set_option maxRecDepth 100000 in
theorem query_at (hg:GoodT l) {n:Nat} {ex:Rd1 Tm} (i:Nat)
  (hGl:∀(k:Nat) (w:World),Pq w R A c l k→i≤k→(leftT l k).length≤n→Calls Tryz.prog 106 #[.pointer (some ⟨R,0,none⟩)] w (ElR rdGl (goalR ex) R A c l i k w))
  (w:World) (h:Pq w R A c l i) (hn:(leftT l i).length≤n) :
  Calls Tryz.prog 65 #[.pointer (some ⟨R,0,none⟩)] w (QueryQ ex R A c l i w):=by
 have HG:=Lib.hid hg
 have hR:=h.lt
 have hTR:¬w.heap.size=R:=by omega
 have HLow:=Lib.hid h.low
 have HB1:=Lib.hid (BoxL.new w [.slice none 0 0,.slice none 0 0] 108)
 have Q:=Lib.hid (list_Gl_at hg i n 40 (by omega) (goalR ex) hGl i _ (h.alloc (.cells #[.slice none 0 0,.slice none 0 0] 108)) (Nat.le_refl _) hn)
 have HN0:=Lib.hid (show nsL l i i=[] from nsU_start (Nat.le_refl _))
 clear hg hGl h hn
 go_enter Tryz.func65,Tryz.ntmps65
 go_wp2_with fail
 refine Q.out.mono ?_
 rintro e w2 ⟨gs,j,er,gv,rfl,hk,hp,hr,ho⟩
 obtain ⟨gA,gc,rfl⟩:=hr.zform
 have HB2:=Lib.hid (HB1.out.kq hk hTR)
 have HK2:=Lib.hid (Kq.from_new hk)
 have HP2:=Lib.hid hp
 have HR2:=Lib.hid (show RowG elGl 59 (w.heap.size+1) w2 (.slice gA gs.length gc) gs from hr.low (by simp))
 have hsz2:w.heap.size+1≤w2.heap.size:=by have:=hk.size;simpa using this
 obtain ⟨c0,c1,f0,f1⟩:=HB2.out.get2
 clear hk hp hr
 rcases ho with ⟨rfl,hf,hij,hv,hl1,hl2⟩|⟨her,rfl,hz,hf⟩
 ·have HF:=Lib.hid (show goalsS ex 40 [] (leftT l i) []=.ok (gs.map (rdGl.h (gL l i))) (leftT l j) (nsL l i j) by
   rw [HN0.out] at hf
   rw [goals_list ex _ _ (Nat.le_refl _) _ _ (by simp),hf])
  have HV:=Lib.hid hv
  have HSz:=Lib.hid (show nodesLL (argsG gs)≤100000 by
   have hgf:=goals_facts 40 _ _ (Nat.le_refl _) _ _ _ _ _ HF.out AllG.nil
   have:=sizes_G hgf.1 hv
   have h40:=hgf.2.1
   rw [List.length_map] at h40
   omega)
  clear hf hij hv hl1 hl2
  have QN:=Lib.hid (ngoals_at HG.out HP2.out.toks (fun g e=>by have:=HLow.out g e;omega) hsz2 HR2.out HV.out (Nat.le_of_lt HP2.out.ilt) HSz.out)
  have r0:=HP2.out.l0
  go_wp2_with fail
  refine QN.out.mono ?_
  rintro e w3 ⟨zA,zc,rfl,ho,htp,hout,hs3,hb3,hr3,hz3⟩
  have hsame:∀k,k < w.heap.size+1→w3.heap[k]?=w2.heap[k]?:=hb3
  have HK3:=Lib.hid (show Kq R w w3 from ⟨ho.trans HK2.out.os,htp.trans HK2.out.tape,hout.trans HK2.out.output,Nat.le_trans HK2.out.size hs3,fun k hk h1 h2=>(hsame k (by omega)).trans (HK2.out.block k hk h1 h2),fun _ h=>.inl h⟩)
  have HP3:=Lib.hid (HP2.out.of hs3 fun k hk=>hsame k (by omega))
  have HR3:=Lib.hid hr3
  have HZ3:=Lib.hid hz3
  have HB3:=Lib.hid (HB2.out.of hs3 (hsame w.heap.size (by omega)))
  clear c0 c1 f0 f1
  obtain ⟨c0,c1,f0,f1⟩:=HB3.out.get2
  clear ho htp hout hs3 hb3 hr3 hz3 hsame r0
  generalize hns:(numLL (xV l) (argsG gs) []).2=ns at *
  go_wp2_with fail
  refine bodyPost_ret (v:=.tuple #[.agg #[.slice gA gs.length gc,.slice zA ns.length zc],.int .i64 0]) (by simp [results,Tryz.results65,go_sem,c0,c1]) rfl ?_
  obtain ⟨e1,e2⟩:=end22 hR HK3.out HP3.out (.slice gA gs.length gc) (.slice zA ns.length zc)
  refine ⟨setG gs (numLL (xV l) (argsG gs) []).1,ns,gA,zA,gs.length,gc,ns.length,zc,j,0,rfl,e1,e2,.inl ⟨rfl,⟨nsL l i j,?_⟩,?_,?_⟩⟩
  ·rw [goals_numbered (Nat.le_of_lt HP2.out.ilt) HV.out HF.out,hns]
  ·exact (HR3.out.frame (Nat.le_of_eq (sets2_size _ _ _ _).symm) fun _ h1 _=>sets2_block _ _ _ _ (by omega)).low (by omega)
  ·refine own_low (own_of HZ3.out fun k hk=>sets2_block _ _ _ _ ?_) (by omega)
   have:=(own_lt HZ3.out k hk).1
   omega
 ·have hne:(er != 0)=true:=bne_iff_ne.2 her
  have HE:=Lib.hid her
  have HF:=Lib.hid (show quS ex (leftT l i)=.err (leftT l j).length er by
   rw [HN0.out] at hf
   unfold quS
   rw [goals_list ex _ _ (Nat.le_refl _) _ _ (by simp),hf])
  injection hz with hz1 hz2 hz3
  subst hz1 hz3
  clear her hf hz2
  go_wp2_with fail
  refine bodyPost_ret (v:=.tuple #[.agg #[.slice none 0 0,.slice none 0 0],.int .i64 er]) (by simp [results,Tryz.results65,go_sem,c0,c1]) rfl ?_
  obtain ⟨e1,e2⟩:=end22 hR HK2.out HP2.out (.slice none 0 0) (.slice none 0 0)
  exact ⟨[],[],none,none,0,0,0,0,j,er,rfl,e1,e2,.inr ⟨HE.out,HF.out⟩⟩
end
end Go.Proofs.YtnghanpmmbcbbaaGreatDoor
namespace Go.Proofs.YtnghanpmmbcbbaaGreatDoor
open Go.RowKit
def declS:Rd1 Dl:=fun ts ns =>
 match nmS ts ns with
 | .err l e=>.err l e
 | .ok t r n1=>match wantS [47] t r n1 with
  | .err l e=>.err l e
  | .ok _ r2 n2=>match r2 with
   | []=>.err 0 0
   | (k,d,_) :: r3=>if k≠3 then .err r2.length 16 else if 6 < valD d then .err r2.length 6 else .ok (t,valD d) r3 n2
section
variable {R:Nat} {A:Option Addr} {c:Nat} {l:List Tk}
theorem sit_dl (lo:Nat) (w:World) (x:Dl):SitG elDl lo w [x] :=
 ⟨fun _ _=>trivial,by simp [Elt.blkL,elDl],fun b hb=>by simp [Elt.blkL,elDl] at hb,fun b hb=>by simp [Elt.blkL,elDl] at hb⟩
set_option maxHeartbeats 8000000 in
set_option maxRecDepth 100000 in
theorem declared_at (hg:GoodT l) (a i:Nat) (w:World) (h:Pq w R A c l i) :
  Calls Tryz.prog 144 #[.pointer (some ⟨R,0,none⟩)] w (ElR rdDl declS R A c l a i w):=by
 have HG:=Lib.hid hg
 have hR:=h.lt
 have hTR:¬w.heap.size=R:=by omega
 have HI:=Lib.hid h.ilt
 have HB1:=Lib.hid (BoxL.new w [.string ⟨#[]⟩,.int .i64 0] 38)
 have Q:=Lib.hid (p_name_at hg (h.alloc (.cells #[.string ⟨#[]⟩,.int .i64 0] 38)))
 clear hg h
 go_enter Tryz.func144,Tryz.ntmps144
 go_wp2_with fail
 refine Q.out.mono ?_
 rintro e w2 ⟨t,er,j,rfl,hk,hp,ht,ho⟩
 have HB2:=Lib.hid (HB1.out.kq hk hTR)
 have HK2:=Lib.hid (Kq.from_new hk)
 have HP2:=Lib.hid hp
 have HT:=Lib.hid ht
 clear hk hp ht
 rcases ho with ⟨rfl,rfl,hte,hf⟩|⟨her,rfl,rfl,hf⟩
 ·have HF:=Lib.hid hf
  have hk1:(l.getD i default).1=1:=by
   have:=hf []
   rw [left_cons HI.out,nmS] at this
   split at this
   ·cases this
   ·rename_i h1;simpa using h1
  have HNs:=Lib.hid (nsL_no (a:=a) hk1 (by decide))
  obtain ⟨b,hb⟩:∃b,((l.getD (i+1) default).2.2==[47])=b:=⟨_,rfl⟩
  have X1:=Lib.hid (isS_text HG.out HP2.out.ilt [47] (by decide) hb)
  have QE:=Lib.hid (fun W (hW:Pq W R A c l (i+1))=>expect_at HG.out hW [47] (by decide) hb)
  clear hf hte hk1 hb
  cases b
  ·go_wp2_with (go_at_call 98;(with_reducible refine (QE.out _ HP2.out).mono ?_);rintro en w3 ⟨rfl,hk3,hp3⟩;have HK3:=Lib.hid (HK2.out.trans hk3);have HP3:=Lib.hid (show Pq w3 R A c l (i+1) from hp3);have HB3:=Lib.hid (HB2.out.kq hk3 hTR);obtain ⟨c0,c1,f0,f1⟩:=HB3.out.get2;clear hk3 hp3)
   refine bodyPost_ret (v:=.tuple #[.agg #[.string ⟨#[]⟩,.int .i64 0],.int .i64 16]) (by simp [results,Tryz.results144,go_sem,c0,c1]) rfl ?_
   obtain ⟨e1,e2⟩:=end22 hR HK3.out HP3.out (.string ⟨#[]⟩) (.int .i64 0)
   refine ⟨([],0),i+1,16,rfl,e1,e2,sit_dl _ _ _,.inr ⟨by omega,?_⟩⟩
   simp only [declS,HF.out (nsL l a i),wantS,X1.out]
   rfl
  ·have HN2:=Lib.hid (show nsL l a (i+2)=nsL l a i from (nsL_s HP2.out.ilt X1.out).trans HNs.out)
   obtain ⟨tk,htk⟩:∃tk,l.getD (i+2) default=tk:=⟨_,rfl⟩
   obtain ⟨k,p,x⟩:=tk
   have fk:=tok_kind k (p:Int) (S x)
   have QN:=Lib.hid (fun W (hW:Pq W R A c l (i+2))=>p_next_of hW htk)
   have HD:=Lib.hid (show i+2 < l.length→declS (leftT l i) (nsL l a i)=if k≠3 then .err (leftT l (i+2)).length 16 else if 6 < valD x then .err (leftT l (i+2)).length 6 else .ok (t,valD x) (leftT l (i+3)) (nsL l a i) from fun hlt=>by
    simp only [declS,HF.out (nsL l a i),wantS,X1.out,if_true,left_tail]
    rw [left_cons hlt,htk])
   by_cases hk3:k=3
   ·subst hk3
    have HNum:=Lib.hid (show i+2 < l.length→x≠[]∧(∀c∈x,digB c=true)∧valD x≤2147483648 from fun hlt=>by have:=num_facts HG.out hlt (by rw [htk]);rw [htk] at this;exact this)
    have HX:=Lib.hid (show i+2 < l.length→x.length≤16384 from fun hlt=>by have:=HG.out.texts (i+2) hlt;rw [htk] at this;exact this)
    have HNx:=Lib.hid (show i+2 < l.length→x≠[]→i+3 < l.length from fun hlt hx=>good_next HG.out hlt (by rw [htk];exact hx))
    have HN3:=Lib.hid (show nsL l a (i+3)=nsL l a (i+2) from nsL_no (k:=3) (by rw [htk]) (by decide))
    clear htk
    go_wp2_with (first
     | (go_at_call 98;(with_reducible refine (QE.out _ HP2.out).mono ?_);rintro en w3 ⟨rfl,hk3,hp3⟩;have HK3:=Lib.hid (HK2.out.trans hk3);have HP3:=Lib.hid (show Pq w3 R A c l (i+2) from hp3);have HB3:=Lib.hid (HB2.out.kq hk3 hTR);clear hk3 hp3;obtain ⟨hne,hd,hv⟩:=HNum.out HP3.out.ilt;have hx:=HX.out HP3.out.ilt;have HNe:=Lib.hid (HNx.out HP3.out.ilt hne);have QV:=Lib.hid (fun W=>value_at 3 (p:Int) x hne hd hv hx W);clear hne hd hv hx;have HW:=Lib.hid (show wrap64 ((i:Int)+2+1)=((i+3:Nat):Int) from (IntWalk.wrap64_in _ (by have:=HNe.out;have:=HG.out.small;omega)).trans (by omega)))
     | (go_at_call 94;(with_reducible refine (QN.out _ HP3.out).mono ?_);rintro en w4 ⟨rfl,hb4⟩;have HK4:=Lib.hid (HK3.out.trans (Below.kp hb4 R Z0));have HP4:=Lib.hid (HP3.out.below hb4);have HB4:=Lib.hid (HB3.out.below hb4);clear hb4 HK3 HP3 HB3)
     | (go_at_call 94;(with_reducible refine (QN.out _ HP4.out).mono ?_);rintro en w5 ⟨rfl,hb5⟩;have HK5:=Lib.hid (HK4.out.trans (Below.kp hb5 R Z0));have HP5:=Lib.hid (HP4.out.below hb5);have HB5:=Lib.hid (HB4.out.below hb5);clear hb5 HK4 HP4 HB4)
     | (go_at_call 177;(with_reducible refine (QV.out _).mono ?_);rintro en w6 ⟨rfl,hb6⟩;have HK6:=Lib.hid (HK5.out.trans (Below.kp hb6 R Z0));have HP6:=Lib.hid (HP5.out.below hb6);have HB6:=Lib.hid (HB5.out.below hb6);clear hb6 HK5 HP5 HB5;obtain ⟨c0,c1,f0,f1⟩:=HB6.out.get2;have l1:=HP6.out.l1;have lf:=HP6.out.fr 1))
    ·rename_i hgt
     refine bodyPost_ret (v:=.tuple #[.agg #[.string ⟨#[]⟩,.int .i64 0],.int .i64 6]) (by simp [results,Tryz.results144,go_sem,c0,c1]) rfl ?_
     obtain ⟨e1,e2⟩:=end22 hR HK6.out HP6.out (.string ⟨#[]⟩) (.int .i64 0)
     refine ⟨([],0),i+2,6,rfl,e1,e2,sit_dl _ _ _,.inr ⟨by omega,?_⟩⟩
     rw [HD.out HP6.out.ilt,if_neg (by simp),if_pos hgt]
    ·rename_i hle
     rw [HW.out]
     have hc0:∀v,(w6.setCell ⟨R,1,none⟩ v).cell? ⟨w.heap.size,0,none⟩=some (.string ⟨#[]⟩):=fun v=>by rw [World.cell?_setCell_other _ _ _ _ (by simp only [ne_eq,Addr.mk.injEq];omega)];exact c0
     have hc1:∀v,(w6.setCell ⟨R,1,none⟩ v).cell? ⟨w.heap.size,1,none⟩=some (.int .i64 0):=fun v=>by rw [World.cell?_setCell_other _ _ _ _ (by simp only [ne_eq,Addr.mk.injEq];omega)];exact c1
     refine bodyPost_ret (v:=.tuple #[.agg #[.string (S t),.int .i64 (valD x)],.int .i64 0]) (by simp [results,Tryz.results144,go_sem,hc0,hc1]) rfl ?_
     have HK7:Kq R w (w6.setCell ⟨R,1,none⟩ (.int .i64 ((i+3:Nat):Int))):=HK6.out.set 1 none _
     have HP7:=HP6.out.set (q:=i+3) HNe.out
     obtain ⟨e1,e2⟩:=end22 hR HK7 HP7 (.string (S t)) (.int .i64 (valD x))
     refine ⟨(t,valD x),i+3,0,rfl,e1,e2,sit_dl _ _ _,.inl ⟨rfl,?_,by omega,OkV.nil _ _ _⟩⟩
     rw [HD.out HP6.out.ilt,if_neg (by simp),if_neg (by omega),HN3.out,HN2.out]
     rfl
   ·have hkb:(k != 3)=true:=bne_iff_ne.2 hk3
    have HK3n:=Lib.hid hk3
    clear htk hk3
    go_wp2_with (first
     | (go_at_call 98;(with_reducible refine (QE.out _ HP2.out).mono ?_);rintro en w3 ⟨rfl,hk3,hp3⟩;have HK3:=Lib.hid (HK2.out.trans hk3);have HP3:=Lib.hid (show Pq w3 R A c l (i+2) from hp3);have HB3:=Lib.hid (HB2.out.kq hk3 hTR);clear hk3 hp3)
     | (go_at_call 94;(with_reducible refine (QN.out _ HP3.out).mono ?_);rintro en w4 ⟨rfl,hb4⟩;have HK4:=Lib.hid (HK3.out.trans (Below.kp hb4 R Z0));have HP4:=Lib.hid (HP3.out.below hb4);have HB4:=Lib.hid (HB3.out.below hb4);clear hb4;obtain ⟨c0,c1,f0,f1⟩:=HB4.out.get2))
    refine bodyPost_ret (v:=.tuple #[.agg #[.string ⟨#[]⟩,.int .i64 0],.int .i64 16]) (by simp [results,Tryz.results144,go_sem,c0,c1]) rfl ?_
    obtain ⟨e1,e2⟩:=end22 hR HK4.out HP4.out (.string ⟨#[]⟩) (.int .i64 0)
    refine ⟨([],0),i+2,16,rfl,e1,e2,sit_dl _ _ _,.inr ⟨by omega,?_⟩⟩
    rw [HD.out HP4.out.ilt,if_pos HK3n.out]
 ·have hne:(er==0)=false:=by rcases her with rfl|rfl<;>rfl
  have hne2:(er != 0)=true:=by rcases her with rfl|rfl<;>rfl
  have HF:=Lib.hid hf
  have HE:=Lib.hid (show er≠0 by omega)
  clear her hf
  obtain ⟨c0,c1,f0,f1⟩:=HB2.out.get2
  go_wp2_with fail
  refine bodyPost_ret (v:=.tuple #[.agg #[.string ⟨#[]⟩,.int .i64 0],.int .i64 er]) (by simp [results,Tryz.results144,go_sem,c0,c1]) rfl ?_
  obtain ⟨e1,e2⟩:=end22 hR HK2.out HP2.out (.string ⟨#[]⟩) (.int .i64 0)
  refine ⟨([],0),j,er,rfl,e1,e2,sit_dl _ _ _,.inr ⟨HE.out,?_⟩⟩
  simp only [declS,HF.out (nsL l a j)]
end
end Go.Proofs.YtnghanpmmbcbbaaGreatDoor
namespace Go.Proofs.YtnghanpmmbcbbaaGreatDoor
open Go.RowKit
def declarS (most:Nat) (ts:List Tok):PS (List Dl) :=
 match listS declS most [] ts [] with
 | .err l e=>.err l e
 | .ok v r _=>wantS [46] v r []
section
variable {R:Nat} {A:Option Addr} {c:Nat} {l:List Tk}
def DeclQ (most:Nat) (R:Nat) (A:Option Addr) (c:Nat) (l:List Tk) (i:Nat) (w:World) (en:Ending) (w':World):Prop :=
 ∃(ds:List Dl) (dA:Option Addr) (dc:Nat) (j:Nat) (er:Int),
  en=.returned (.tuple #[.slice dA ds.length dc,.int .i64 er])∧Kq R w w'∧Pq w' R A c l j∧RowG elDl 38 w.heap.size w' (.slice dA ds.length dc) ds ∧
  ((er=0∧declarS most (leftT l i)=.ok ds (leftT l j) []∧i < j∧0 < ds.length)∨(er≠0∧declarS most (leftT l i)=.err (leftT l j).length er))
theorem map_rdDl (g:Int→Int) (ds:List Dl):ds.map (rdDl.h g)=ds:=by
 have e:rdDl.h g=id:=rfl
 rw [e,List.map_id]
set_option maxHeartbeats 4000000 in
set_option maxRecDepth 100000 in
theorem declaration_at (hg:GoodT l) (m:Nat) (hm:m≤30) (i:Nat) (w:World) (h:Pq w R A c l i) :
  Calls Tryz.prog 101 #[.pointer (some ⟨R,0,none⟩),.int .i64 (m:Int)] w (DeclQ m R A c l i w):=by
 have HG:=Lib.hid hg
 have hR:=h.lt
 have Q:=Lib.hid (list_Dl_at hg i (leftT l i).length m (by omega) declS (fun k w hP _ _=>declared_at hg i k w hP) i w h (Nat.le_refl _) (Nat.le_refl _))
 have HN0:=Lib.hid (show nsL l i i=[] from nsU_start (Nat.le_refl _))
 clear hg h
 go_enter Tryz.func101,Tryz.ntmps101
 go_wp2_with fail
 refine Q.out.mono ?_
 rintro e w2 ⟨ds,j,er,dv,rfl,hk,hp,hr,ho⟩
 obtain ⟨dA,dc,rfl⟩:=hr.zform
 have HK2:=Lib.hid hk
 have HP2:=Lib.hid hp
 have HR2:=Lib.hid hr
 clear hk hp hr
 rcases ho with ⟨rfl,hf,hij,hv,hl1,hl2⟩|⟨her,rfl,hz,hf⟩
 ·have HF:=Lib.hid (show listS declS m [] (leftT l i) []=.ok ds (leftT l j) (nsL l i j) by
   rw [HN0.out,map_rdDl] at hf
   exact hf)
  have HJ:=Lib.hid (And.intro hij hl1)
  clear hf hij hv hl1 hl2
  obtain ⟨b,hb⟩:∃b,((l.getD j default).2.2==[46])=b:=⟨_,rfl⟩
  have X1:=Lib.hid (isS_text HG.out HP2.out.ilt [46] (by decide) hb)
  have QE:=Lib.hid (fun W (hW:Pq W R A c l j)=>expect_at HG.out hW [46] (by decide) hb)
  have HD:=Lib.hid (show declarS m (leftT l i)=if b=true then .ok ds (leftT l (j+1)) [] else .err (leftT l j).length 16 by
   simp only [declarS,HF.out,wantS,X1.out,left_tail])
  clear hb
  cases b
  ·go_wp2_with (go_at_call 98;(with_reducible refine (QE.out _ HP2.out).mono ?_);rintro en w3 ⟨rfl,hk3,hp3⟩;have HK3:=Lib.hid hk3;have HP3:=Lib.hid (show Pq w3 R A c l j from hp3);clear hk3 hp3)
   refine bodyPost_ret (v:=.tuple #[.slice dA ds.length dc,.int .i64 16]) (by simp [results,Tryz.results101,go_sem]) rfl ?_
   refine ⟨ds,dA,dc,j,16,rfl,HK2.out.trans HK3.out,HP3.out,HR2.out.kq HK3.out hR,.inr ⟨by omega,?_⟩⟩
   rw [HD.out]
   rfl
  ·go_wp2_with (go_at_call 98;(with_reducible refine (QE.out _ HP2.out).mono ?_);rintro en w3 ⟨rfl,hk3,hp3⟩;have HK3:=Lib.hid hk3;have HP3:=Lib.hid (show Pq w3 R A c l (j+1) from hp3);clear hk3 hp3)
   refine bodyPost_ret (v:=.tuple #[.slice dA ds.length dc,.int .i64 0]) (by simp [results,Tryz.results101,go_sem]) rfl ?_
   refine ⟨ds,dA,dc,j+1,0,rfl,HK2.out.trans HK3.out,HP3.out,HR2.out.kq HK3.out hR,.inl ⟨rfl,?_,by have:=HJ.out.1;omega,HJ.out.2⟩⟩
   rw [HD.out]
   rfl
 ·have hne:(er==0)=false:=by simpa using her
  have HE:=Lib.hid her
  have HF:=Lib.hid (show declarS m (leftT l i)=.err (leftT l j).length er by
   rw [HN0.out] at hf
   simp only [declarS,hf])
  injection hz with hz1 hz2 hz3
  subst hz1 hz3
  clear her hf hz2
  go_wp2_with fail
  refine bodyPost_ret (v:=.tuple #[.slice none 0 0,.int .i64 er]) (by simp [results,Tryz.results101,go_sem]) rfl ?_
  exact ⟨[],none,0,j,er,rfl,HK2.out,HP2.out,HR2.out,.inr ⟨HE.out,HF.out⟩⟩
end
theorem decls_list:∀(n:Nat) (ts:List Tok),ts.length≤n→∀(acc d:List Dl) (ns:List (List UInt8)),acc.length+d.length≤30 →
  declsS (acc++d) ts=match listS declS (30 - acc.length) d ts.tail ns with
   | .err l e=>.err l e
   | .ok v r _=>wantS [46] (acc++v) r []
 | n,ts,hn,acc,d,ns,hl=>by
  rw [declsS,listS]
  by_cases h30:30≤(acc++d).length
  ·rw [if_pos h30,if_pos (by rw [List.length_append] at h30;omega)]
  rw [if_neg h30,if_neg (by rw [List.length_append] at h30;omega)]
  cases hu:ts.tail with
  | nil=>rfl
  | cons x r =>
   have hlen:ts.length=r.length+2:=by
    cases ts with
    | nil=>cases hu
    | cons y z=>simp only [List.tail_cons] at hu;subst hu;simp
   obtain ⟨k1,t1,g1⟩:=x
   by_cases hk1:k1≠1
   ·simp only [nmS,declS,if_pos hk1]
   by_cases hr1:resB t1=true
   ·simp only [nmS,declS,if_neg hk1,if_pos hr1]
   simp only [nmS,declS,if_neg hk1,if_neg hr1,wantS]
   by_cases hs:isS [47] r=true
   ·simp only [if_pos hs]
    cases r with
    | nil=>cases hs
    | cons y r2 =>
     simp only [List.tail_cons]
     cases r2 with
     | nil=>rfl
     | cons z r3 =>
      obtain ⟨k,dd,g⟩:=z
      simp only
      by_cases hk:k≠3
      ·simp only [if_pos hk]
      by_cases h6:6 < valD dd
      ·simp only [if_neg hk,if_pos h6]
      simp only [if_neg hk,if_neg h6]
      simp only [List.length_cons] at hlen
      by_cases hc:isS [44] r3=true
      ·cases r3 with
       | nil=>cases hc
       | cons u r4 =>
        simp only [List.length_cons] at hlen
        simp only [if_pos hc]
        rw [dif_pos (by simp only [List.length_cons];omega),dif_pos (by simp only [List.tail_cons,List.length_cons];omega)]
        match n,hn with
        | 0,hn=>omega
        | n+1,hn =>
         have:=decls_list n (u :: r4) (by simp only [List.length_cons];omega) acc (d++[(t1,valD dd)]) ns (by rw [List.length_append] at h30 ⊢;simp only [List.length_singleton];omega)
         rw [←List.append_assoc] at this
         exact this
      ·simp only [if_neg hc]
       rw [List.append_assoc]
   ·simp only [if_neg hs]
theorem decls_next (acc:List Dl) (ts:List Tok) (h:acc.length≤30):declsS acc ts=match declarS (30 - acc.length) ts.tail with
  | .err l e=>.err l e
  | .ok v r ns=>.ok (acc++v) r ns:=by
 have:=decls_list _ ts (Nat.le_refl _) acc [] [] (by simpa using h)
 rw [List.append_nil] at this
 rw [this]
 unfold declarS
 cases listS declS (30 - acc.length) [] ts.tail [] with
 | err l e=>rfl
 | ok v r ns =>
  simp only [wantS]
  by_cases hs:isS [46] r=true
  ·simp only [if_pos hs]
  ·simp only [if_neg hs]
end Go.Proofs.YtnghanpmmbcbbaaGreatDoor
