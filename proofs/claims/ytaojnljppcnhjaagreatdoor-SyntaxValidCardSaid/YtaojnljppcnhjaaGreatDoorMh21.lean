/-
  PgRule.
  PgQuery.
  RzAtom.
-/
import Derived.Test.YtaojnljppcnhjaaGreatDoorMh20
import Derived.Test.YtaojnljppcnhjaaGreatDoorMh4
import Derived.Test.YtaojnljppcnhjaaGreatDoorMh9
import Derived.Deep.AppendLies
import Derived.Deep.LoopGhost
namespace Go.Proofs.YtaojnljppcnhjaaGreatDoor
open Go.RowKit
theorem parts_plain {ex:Rd1 Tm} {ts ts1 ts2 ts3:List Tok} {ns n1 n2 n3:List (List UInt8)} {t:List UInt8} {h:List As×List As} {g b:List Gs} (h1:labelS ts ns=.ok t ts1 n1) (h2:bothS ex ts1 n1=.ok h ts2 n2) (h3:goals1S ex ts2 n2=.ok (g,b) ts3 n3) :
  partsS ex ts ns=if isS [46] ts3 then .ok ⟨t,h.1,h.2,g,bodyS b,0⟩ ts3.tail n3 else .err ts3.length 16:=by
 have h4:goals2S ex ts2 n2=if isS [46] ts3 then .ok (g,b) ts3.tail n3 else .err ts3.length 16:=by
  simp only [goals1S] at h3
  simp only [goals2S]
  revert h3
  cases goalsS ex 12 [] ts2 n2 with
  | err l e=>intro h3;cases h3
  | ok v r ns2 =>
   simp only
   by_cases hc:isS [124] r=true
   ·rw [if_pos hc,if_pos hc]
    cases goalsS ex 12 [] r.tail ns2 with
    | err l e=>intro h3;cases h3
    | ok v2 r2 ns3=>intro h3;injection h3 with e1 e2 e3;injection e1 with e0 e1;subst e0 e1 e2 e3;rfl
   ·rw [if_neg hc,if_neg hc]
    intro h3;injection h3 with e1 e2 e3;injection e1 with e0 e1;subst e0 e1 e2 e3;rfl
 simp only [partsS,h1,h2,h4]
 by_cases hc:isS [46] ts3=true
 ·rw [if_pos hc,if_pos hc]
 ·rw [if_neg hc,if_neg hc]
theorem parts_err2 {ex:Rd1 Tm} {ts ts1:List Tok} {ns n1:List (List UInt8)} {t:List UInt8} {n:Nat} {e:Int} (h1:labelS ts ns=.ok t ts1 n1) (h2:bothS ex ts1 n1=.err n e):partsS ex ts ns=.err n e:=by simp only [partsS,h1,h2]
theorem parts_err3 {ex:Rd1 Tm} {ts ts1 ts2:List Tok} {ns n1 n2:List (List UInt8)} {t:List UInt8} {h:List As×List As} {n:Nat} {e:Int} (h1:labelS ts ns=.ok t ts1 n1) (h2:bothS ex ts1 n1=.ok h ts2 n2) (h3:goals1S ex ts2 n2=.err n e):partsS ex ts ns=.err n e:=by
 have h4:goals2S ex ts2 n2=.err n e:=by
  simp only [goals1S] at h3
  simp only [goals2S]
  revert h3
  cases goalsS ex 12 [] ts2 n2 with
  | err l e2=>intro h3;injection h3 with e1 e3;rw [e1,e3]
  | ok v r ns2 =>
   simp only
   by_cases hc:isS [124] r=true
   ·rw [if_pos hc,if_pos hc]
    cases goalsS ex 12 [] r.tail ns2 with
    | err l e2=>intro h3;injection h3 with e1 e3;simp only [e1,e3]
    | ok v2 r2 ns3=>intro h3;cases h3
   ·rw [if_neg hc,if_neg hc];intro h3;cases h3
 simp only [partsS,h1,h2,h4]
theorem parts_err1 {ex:Rd1 Tm} {ts:List Tok} {ns:List (List UInt8)} {n:Nat} {e:Int} (h:labelS ts ns=.err n e∨labelS ts ns=.ok [] ts ns∧∀ns,nmS ts ns=.err n e):partsS ex ts ns=.err n e:=by
 rcases h with h|⟨h,hn⟩
 ·simp only [partsS,h]
 ·have h2:bothS ex ts ns=.err n e:=by
   have h3:headsS ex 0 [] ts ns=.err n e:=by
    rw [headsS,if_neg (by simp),atomS,hn ns]
   simp only [bothS,h3]
  simp only [partsS,h,h2]
section
variable {R:Nat} {A:Option Addr} {c:Nat} {l:List Tk}
def RuAt (lo:Nat) (w:World) (t:List UInt8) (ks rs:List Am) (gs bs:List Gl) (kv rv gv bv:Value):Prop:=t.length≤16384∧∃M m1 m2 m3,M≤w.heap.size∧RowsM M lo m1 m2 m3 w kv rv gv bv ks rs gs bs
def RuleQ (ex:Rd1 Tm) (R:Nat) (A:Option Addr) (c:Nat) (l:List Tk) (i:Nat) (w:World) (en:Ending) (w':World):Prop :=
 ∃(t:List UInt8) (ks rs:List Am) (gs bs:List Gl) (kA rA gA bA:Option Addr) (kn kc rn rc gn gc bn bc n:Nat) (j:Nat) (er:Int),
  en=.returned (.tuple #[.agg #[.string (S t),.slice kA kn kc,.slice rA rn rc,.slice gA gn gc,.slice bA bn bc,.int .i64 (n:Int)],.int .i64 er])∧Kq R w w'∧Pq w' R A c l j ∧
  ((er=0∧(∃ns,ruleS ex (leftT l i)=.ok (ruP t ks rs gs bs n) (leftT l j) ns)∧i < j∧RuAt w.heap.size w' t ks rs gs bs (.slice kA kn kc) (.slice rA rn rc) (.slice gA gn gc) (.slice bA bn bc))∨(er≠0∧ruleS ex (leftT l i)=.err (leftT l j).length er))
theorem sizes_A {g:Int→Int}:∀{ks:List Am} {l:List Tk} {i j:Nat},(∀x∈ks.map (rdAm.h g),rightA x.1 x.2=true)→OkV l i j (ks.flatMap Am.args)→nodesLL (argsA ks)≤ks.length*200
 | [],_,_,_,_,_=>by simp [argsA,nodesLL]
 | x :: r,l,i,j,h,hv=>by
  rw [List.flatMap_cons] at hv
  obtain ⟨v1,v2⟩:=okv_sub hv
  have h1:=h (rdAm.h g x) (by simp)
  have h2:sizeL (numL2 g x.args)≤200:=rightA_size (a:=(x.name.data.toList,numL2 g x.args)) h1
  rw [(num2_size g).2] at h2
  have h3:=nodes_size.2 x.args v1.1
  have h4:=sizes_A (ks:=r) (fun y hy=>h y (by rw [List.map_cons];exact List.mem_cons_of_mem _ hy)) v2
  have e:nodesLL (argsA (x :: r))=nodesL x.args+nodesLL (argsA r):=by simp [argsA,nodesLL,hdAm]
  rw [e,List.length_cons]
  omega
theorem sizes_G {g:Int→Int}:∀{ks:List Gl} {l:List Tk} {i j:Nat},(∀x∈ks.map (rdGl.h g),rightG x=true)→OkV l i j (ks.flatMap Gl.args)→nodesLL (argsG ks)≤ks.length*200
 | [],_,_,_,_,_=>by simp [argsG,nodesLL]
 | x :: r,l,i,j,h,hv=>by
  rw [List.flatMap_cons] at hv
  obtain ⟨v1,v2⟩:=okv_sub hv
  have h1:=h (rdGl.h g x) (by simp)
  have h2:sizeL (numL2 g x.args)≤200:=rightG_size (g:=(x.op,x.name.data.toList,numL2 g x.args)) h1
  rw [(num2_size g).2] at h2
  have h3:=nodes_size.2 x.args v1.1
  have h4:=sizes_G (ks:=r) (fun y hy=>h y (by rw [List.map_cons];exact List.mem_cons_of_mem _ hy)) v2
  have e:nodesLL (argsG (x :: r))=nodesL x.args+nodesLL (argsG r):=by simp [argsG,nodesLL,hdGl]
  rw [e,List.length_cons]
  omega
theorem goals1_facts {ex:Rd1 Tm} {ts:List Tok} {ns:List (List UInt8)} {g b:List Gs} {r:List Tok} {ns2:List (List UInt8)} (h:goals1S ex ts ns=.ok (g,b) r ns2):AllG g∧AllG b:=by
 simp only [goals1S] at h
 split at h
 ·cases h
 ·rename_i v r1 ns1 hf
  have h1:=(goals_facts 12 _ _ (Nat.le_refl _) _ _ _ _ _ hf AllG.nil).1
  split at h
  ·split at h
   ·cases h
   ·rename_i v2 r2 ns3 hf2
    have h2:=(goals_facts 12 _ _ (Nat.le_refl _) _ _ _ _ _ hf2 AllG.nil).1
    injection h with e1
    injection e1 with e0 e1
    rw [←e0,← e1]
    exact ⟨h1,h2⟩
  ·injection h with e1
   injection e1 with e0 e1
   rw [←e0,← e1]
   exact ⟨AllG.nil,h1⟩
abbrev sets6 (w:World) (T:Nat) (v0 v1 v2 v3 v4 v5:Value):World:=(((((w.setCell ⟨T,0,none⟩ v0).setCell ⟨T,1,none⟩ v1).setCell ⟨T,2,none⟩ v2).setCell ⟨T,3,none⟩ v3).setCell ⟨T,4,none⟩ v4).setCell ⟨T,5,none⟩ v5
theorem sets6_size (w:World) (T:Nat) (v0 v1 v2 v3 v4 v5:Value):(sets6 w T v0 v1 v2 v3 v4 v5).heap.size=w.heap.size:=by simp [World.setCell]
theorem sets6_block (w:World) (T:Nat) (v0 v1 v2 v3 v4 v5:Value) {k:Nat} (h:k≠T):(sets6 w T v0 v1 v2 v3 v4 v5).heap[k]?=w.heap[k]?:=by
 have e:∀(W:World) (q:Nat) (v:Value),(W.setCell ⟨T,q,none⟩ v).heap[k]?=W.heap[k]?:=fun W q v=>Below.heap_setCell _ _ _ _ h
 rw [e,e,e,e,e,e]
theorem sets6_rest (w:World) (T:Nat) (v0 v1 v2 v3 v4 v5:Value):(sets6 w T v0 v1 v2 v3 v4 v5).os=w.os∧(sets6 w T v0 v1 v2 v3 v4 v5).tape=w.tape∧(sets6 w T v0 v1 v2 v3 v4 v5).output=w.output:=by
 have e:∀(W:World) (p:Addr) (v:Value),(W.setCell p v).os=W.os∧(W.setCell p v).tape=W.tape∧(W.setCell p v).output=W.output:=fun _ _ _=>⟨rfl,rfl,rfl⟩
 refine ⟨?_,?_,?_⟩
 ·rw [(e _ _ _).1,(e _ _ _).1,(e _ _ _).1,(e _ _ _).1,(e _ _ _).1,(e _ _ _).1]
 ·rw [(e _ _ _).2.1,(e _ _ _).2.1,(e _ _ _).2.1,(e _ _ _).2.1,(e _ _ _).2.1,(e _ _ _).2.1]
 ·rw [(e _ _ _).2.2,(e _ _ _).2.2,(e _ _ _).2.2,(e _ _ _).2.2,(e _ _ _).2.2,(e _ _ _).2.2]
theorem endV {w W V:World} {j:Nat} (hR:R < w.heap.size) (hk:Kq R w W) (hp:Pq W R A c l j) (hs:W.heap.size≤V.heap.size) (hb:∀k,k≠w.heap.size→V.heap[k]?=W.heap[k]?) (ho:V.os=W.os) (ht:V.tape=W.tape) (hu:V.output=W.output):Kq R w V∧Pq V R A c l j :=
 ⟨⟨ho.trans hk.os,ht.trans hk.tape,hu.trans hk.output,Nat.le_trans hk.size hs,fun k h1 h2 h3=>(hb k (Nat.ne_of_lt h1)).trans (hk.block k h1 h2 h3),hk.own⟩,hp.of hs fun _ h1=>hb _ (Nat.ne_of_lt (Nat.lt_of_le_of_lt h1 hR))⟩
theorem end6 {w W:World} {j:Nat} (hR:R < w.heap.size) (hk:Kq R w W) (hp:Pq W R A c l j) (v0 v1 v2 v3 v4 v5:Value):Kq R w (sets6 W w.heap.size v0 v1 v2 v3 v4 v5)∧Pq (sets6 W w.heap.size v0 v1 v2 v3 v4 v5) R A c l j :=
 endV hR hk hp (Nat.le_of_eq (sets6_size W w.heap.size v0 v1 v2 v3 v4 v5).symm) (fun _ h=>sets6_block W w.heap.size v0 v1 v2 v3 v4 v5 h) (sets6_rest W w.heap.size v0 v1 v2 v3 v4 v5).1 (sets6_rest W w.heap.size v0 v1 v2 v3 v4 v5).2.1 (sets6_rest W w.heap.size v0 v1 v2 v3 v4 v5).2.2
theorem RowsM.low {M lo lo' m1 m2 m3:Nat} {w:World} {kv rv gv bv:Value} {ks rs:List Am} {gs bs:List Gl} (h:RowsM M lo m1 m2 m3 w kv rv gv bv ks rs gs bs) (hl:lo'≤lo):RowsM M lo' m1 m2 m3 w kv rv gv bv ks rs gs bs :=
 ⟨h.k.low hl,h.r,h.g,h.b,h.lk,h.lr,h.lg,h.lb,Nat.le_trans hl h.o1,h.o2,h.o3,h.o4⟩
abbrev ZR:Array Value:=#[.string ⟨#[]⟩,.slice none 0 0,.slice none 0 0,.slice none 0 0,.slice none 0 0,.int .i64 0]
set_option maxHeartbeats 8000000 in
set_option maxRecDepth 100000 in
theorem rule_at (hg:GoodT l) {n:Nat} {ex:Rd1 Tm} (i:Nat)
  (hHd:∀(k:Nat) (w:World),Pq w R A c l k→i≤k→(leftT l k).length≤n→Calls Tryz.prog 81 #[.pointer (some ⟨R,0,none⟩)] w (ElR rdAm (headR ex) R A c l i k w))
  (hGl:∀(k:Nat) (w:World),Pq w R A c l k→i≤k→(leftT l k).length≤n→Calls Tryz.prog 59 #[.pointer (some ⟨R,0,none⟩)] w (ElR rdGl (goalR ex) R A c l i k w))
  (w:World) (h:Pq w R A c l i) (hn:(leftT l i).length≤n) :
  Calls Tryz.prog 30 #[.pointer (some ⟨R,0,none⟩)] w (RuleQ ex R A c l i w):=by
 have HG:=Lib.hid hg
 have hR:=h.lt
 have hTR:¬w.heap.size=R:=by omega
 have hBR:¬w.heap.size+1=R:=by omega
 have hRB:R < w.heap.size+1:=by omega
 have HI:=Lib.hid h.ilt
 have HLow:=Lib.hid h.low
 have hb2:=((Below.refl w.heap.size w).alloc (Nat.le_refl _) (.cells ZR 35)).alloc (by simp) (.cells ZR 35)
 have HP2:=Lib.hid (h.below hb2)
 have HK2:=Lib.hid (Below.kp hb2 R Z0)
 have HT2:=Lib.hid ((BoxL.new w ZR.toList 35).alloc (.cells ZR 35))
 have HB2:=Lib.hid (show BoxL ((w.alloc (.cells ZR 35)).alloc (.cells ZR 35)) (w.heap.size+1) ZR.toList by
  have:=BoxL.new (w.alloc (.cells ZR 35)) ZR.toList 35
  rw [show (w.alloc (.cells ZR 35)).heap.size=w.heap.size+1 by simp] at this
  exact this)
 have Q:=Lib.hid (rname_at hg i i _ HP2.out)
 have QH:=Lib.hid (fun k W (hW:Pq W R A c l k) h1 h2 vn hB=>heads_at hg hHd k W hW h1 h2 vn (.slice none 0 0) (.slice none 0 0) (.int .i64 0) hB hRB)
 have QG:=Lib.hid (fun k W (hW:Pq W R A c l k) h1 h2 vn kv rv hB=>goals_at hg hGl k W hW h1 h2 vn kv rv (.int .i64 0) hB hRB)
 have HNn:=Lib.hid hn
 have HN0:=Lib.hid (show nsL l i i=[] from nsU_start (Nat.le_refl _))
 clear hg hHd hGl h hn hb2
 go_enter Tryz.func30,Tryz.ntmps30
 go_wp2_with fail
 refine Q.out.mono ?_
 rintro e w3 ⟨t,er,j,rfl,hk,hp,ht,ho⟩
 have HT3:=Lib.hid ((HT2.out.kq hk hTR).put (p:=⟨w.heap.size+1,0,none⟩) (show w.heap.size+1≠w.heap.size by omega) (.string (S t)))
 have HB3:=Lib.hid (show BoxL (w3.setCell ⟨w.heap.size+1,0,none⟩ (.string (S t))) (w.heap.size+1) [.string (S t),.slice none 0 0,.slice none 0 0,.slice none 0 0,.slice none 0 0,.int .i64 0] from (HB2.out.kq hk hBR).set (j:=0) (by simp) (.string (S t)))
 have HK3:=Lib.hid (((HK2.out.trans hk)).put (p:=⟨w.heap.size+1,0,none⟩) (show w.heap.size≤w.heap.size+1 by omega) (.string (S t)))
 have HP3:=Lib.hid (hp.put (p:=⟨w.heap.size+1,0,none⟩) hRB (.string (S t)))
 have hsz3:w.heap.size+2≤w3.heap.size:=by have:=hk.size;simpa using this
 have HS3:=Lib.hid (show (w3.setCell ⟨w.heap.size+1,0,none⟩ (.string (S t))).heap.size=w3.heap.size by simp [World.setCell])
 have HTt:=Lib.hid ht
 obtain ⟨p0,p1,p2,p3,p4,p5,k0,k1,k2,k3,k4,k5⟩:=(HB2.out.kq hk hBR).get6
 clear hk hp ht
 rcases ho with ⟨rfl,hij,hf⟩|⟨her,rfl,hf⟩
 ·have HF:=Lib.hid hf
  have HJ:=Lib.hid hij
  clear hf hij
  have QH3:=Lib.hid (QH.out j _ HP3.out HJ.out (by have hn:=HNn.out;have hj:=HJ.out;rw [left_length] at hn ⊢;omega) _ HB3.out)
  go_wp2_with fail
  refine QH3.out.mono ?_
  rintro e w4 ⟨ks,rs,j2,er2,kv,rv,m,rfl,hk4,hp4,hB4,hrk,hrr,hm,hlk,ho4⟩
  obtain ⟨kA,kc,rfl⟩:=RowG.zform hrk
  obtain ⟨rA,rc,rfl⟩:=RowG.zform hrr
  have HT4:=Lib.hid (HT3.out.kb hk4 hTR (by omega))
  have HB4:=Lib.hid hB4
  have HK4:=Lib.hid (Kp.unb HK3.out (by omega) hk4)
  have HP4:=Lib.hid hp4
  have HRk4:=Lib.hid (show RowG elAm 92 w3.heap.size w4 (.slice kA ks.length kc) ks by rw [←HS3.out];exact hrk)
  have HRr4:=Lib.hid hrr
  have HM4:=Lib.hid (show w3.heap.size≤m by rw [←HS3.out];exact hm)
  have HLk4:=Lib.hid hlk
  have hsz4:w3.heap.size≤w4.heap.size:=by have:=hk4.size;rw [HS3.out] at this;exact this
  obtain ⟨b0,b1,b2,b3,b4,b5,f0,f1,f2,f3,f4,f5⟩:=hB4.get6
  obtain ⟨c0,c1,c2,c3,c4,c5,g0,g1,g2,g3,g4,g5⟩:=HT4.out.get6
  clear hk4 hp4 hB4 hrk hrr hm hlk p0 p1 p2 p3 p4 p5 k0 k1 k2 k3 k4 k5
  rcases ho4 with ⟨rfl,hf,hij,hv,hl1,hl2⟩|⟨her,hf⟩
  ·have HF4:=Lib.hid hf
   have HJ4:=Lib.hid hij
   have HV4:=Lib.hid hv
   have HL4:=Lib.hid (And.intro hl1 hl2)
   clear hf hij hv hl1 hl2
   have QG4:=Lib.hid (QG.out j2 _ HP4.out (by have:=HJ.out;have:=HJ4.out;omega) (by have hn:=HNn.out;have h1:=HJ.out;have h2:=HJ4.out;rw [left_length] at hn ⊢;omega) _ _ _ HB4.out)
   go_wp2_with fail
   refine QG4.out.mono ?_
   rintro e w5 ⟨gs,bs,j3,er3,gv,bv,m3,rfl,hk5,hp5,hB5,hrg,hrb,hm3,hlg,ho5⟩
   obtain ⟨gA,gc,rfl⟩:=RowG.zform hrg
   obtain ⟨bA,bc,rfl⟩:=RowG.zform hrb
   have HT5:=Lib.hid (HT4.out.kb hk5 hTR (by omega))
   have HB5:=Lib.hid hB5
   have HK5:=Lib.hid (Kp.unb HK4.out (by omega) hk5)
   have HP5:=Lib.hid hp5
   have HRk5:=Lib.hid (HRk4.out.kb hk5 (by omega) (by omega))
   have HRr5:=Lib.hid (HRr4.out.kb hk5 (by have:=HM4.out;omega) (by have:=HM4.out;omega))
   have HLr5:=Lib.hid (HRr4.out.less)
   have HRg5:=Lib.hid hrg
   have HRb5:=Lib.hid hrb
   have HM5:=Lib.hid hm3
   have HLg5:=Lib.hid hlg
   have hsz5:w4.heap.size≤w5.heap.size:=hk5.size
   clear b0 b1 b2 b3 b4 b5 f0 f1 f2 f3 f4 f5 c0 c1 c2 c3 c4 c5 g0 g1 g2 g3 g4 g5
   obtain ⟨b0,b1,b2,b3,b4,b5,f0,f1,f2,f3,f4,f5⟩:=hB5.get6
   obtain ⟨c0,c1,c2,c3,c4,c5,g0,g1,g2,g3,g4,g5⟩:=HT5.out.get6
   clear hk5 hp5 hB5 hrg hrb hm3 hlg
   rcases ho5 with ⟨rfl,hf,hij,hv,hl1,hl2⟩|⟨her,hf⟩
   ·have HF5:=Lib.hid hf
    have HJ5:=Lib.hid hij
    have HV5:=Lib.hid hv
    have HL5:=Lib.hid (And.intro hl1 hl2)
    clear hf hij hv hl1 hl2
    obtain ⟨b,hb⟩:∃b,((l.getD j3 default).2.2==[46])=b:=⟨_,rfl⟩
    have X5:=Lib.hid (isS_text HG.out HP5.out.ilt [46] (by decide) hb)
    have QE:=Lib.hid (fun W (hW:Pq W R A c l j3)=>expect_at HG.out hW [46] (by decide) hb)
    have HPa:=Lib.hid (show ∃bb,partsS ex (leftT l i) []=(if b=true then .ok ⟨t,ks.map (rdAm.h (gL l i)),rs.map (rdAm.h (gL l i)),gs.map (rdGl.h (gL l i)),bodyS bb,0⟩ (leftT l (j3+1)) (nsL l i j3) else .err (leftT l j3).length 16)∧bodyS bb=bs.map (rdGl.h (gL l i))∧AllG (gs.map (rdGl.h (gL l i)))∧AllG bb by
     obtain ⟨bb,hb1,hb2⟩:=HF5.out
     have h0:=HF.out
     rw [HN0.out] at h0
     have hgf:=goals1_facts hb1
     refine ⟨bb,?_,hb2,hgf.1,hgf.2⟩
     rw [parts_plain h0 HF4.out hb1,X5.out,left_tail])
    clear hb
    cases b
    ·go_wp2_with (go_at_call 56;refine (QE.out _ HP5.out).mono ?_;rintro en w6 ⟨rfl,hk6,hp6⟩;have HK6:=Lib.hid (HK5.out.trans hk6);have HP6:=Lib.hid (show Pq w6 R A c l j3 from hp6);clear b0 b1 b2 b3 b4 b5 f0 f1 f2 f3 f4 f5 c0 c1 c2 c3 c4 c5 g0 g1 g2 g3 g4 g5;obtain ⟨b0,b1,b2,b3,b4,b5,f0,f1,f2,f3,f4,f5⟩:=(HB5.out.kq hk6 hBR).get6;obtain ⟨c0,c1,c2,c3,c4,c5,g0,g1,g2,g3,g4,g5⟩:=(HT5.out.kq hk6 hTR).get6;clear hk6 hp6)
     refine bodyPost_ret (v:=.tuple #[.agg #[.string (S t),.slice kA ks.length kc,.slice rA rs.length rc,.slice gA gs.length gc,.slice bA bs.length bc,.int .i64 0],.int .i64 16]) (by simp [results,Tryz.results30,go_sem,c0,c1,c2,c3,c4,c5]) rfl ?_
     obtain ⟨e1,e2⟩:=end6 hR HK6.out HP6.out (.string (S t)) (.slice kA ks.length kc) (.slice rA rs.length rc) (.slice gA gs.length gc) (.slice bA bs.length bc) (.int .i64 0)
     refine ⟨t,ks,rs,gs,bs,kA,rA,gA,bA,ks.length,kc,rs.length,rc,gs.length,gc,bs.length,bc,0,j3,16,rfl,e1,e2,.inr ⟨by omega,?_⟩⟩
     obtain ⟨bb,hb1,_⟩:=HPa.out
     simp only [ruleS,hb1]
     rfl
    ·have HRows:=Lib.hid (show ∀W,Kq R w5 W→RowsM W.heap.size w3.heap.size (min m w4.heap.size) w4.heap.size (min m3 w5.heap.size) W (.slice kA ks.length kc) (.slice rA rs.length rc) (.slice gA gs.length gc) (.slice bA bs.length bc) ks rs gs bs from fun W hk=>by
      have hm4:=HM4.out
      have hm5:=HM5.out
      have hsW:=hk.size
      exact ⟨HRk5.out.kq hk (by omega),(HRr5.out.low (Nat.min_le_left _ _)).kq hk (by omega),HRg5.out.kq hk (by omega),(HRb5.out.low (Nat.min_le_left _ _)).kq hk (by omega),
       ⟨fun k hk=>by have:=HLk4.out.1 k hk;have:=HRk4.out.less.1 k hk;omega,fun k hk=>by have:=HLk4.out.2 k hk;have:=HRk4.out.less.2 k hk;omega⟩,HLr5.out,
       ⟨fun k hk=>by have:=HLg5.out.1 k hk;have:=HRg5.out.less.1 k hk;omega,fun k hk=>by have:=HLg5.out.2 k hk;have:=HRg5.out.less.2 k hk;omega⟩,
       ((HRb5.out.low (Nat.min_le_left m3 w5.heap.size)).kq hk (by omega)).less,by omega,by omega,by omega,by omega⟩)
     have hvv:=HV4.out.append HV5.out (Nat.le_refl _) (by have:=HJ4.out;omega) (by have:=HJ5.out;omega)
     have HVs:=Lib.hid (show OkV l i j3 (ks.flatMap Am.args++(rs.flatMap Am.args++(gs.flatMap Gl.args++bs.flatMap Gl.args))) by
      rw [←List.append_assoc]
      exact hvv.wide HJ.out (Nat.le_refl _))
     clear hvv
     have HSz:=Lib.hid (show nodesLL (argsA ks)+nodesLL (argsA rs)+nodesLL (argsG gs)+nodesLL (argsG bs)≤100000 by
      have hbo:=both_facts HF4.out
      obtain ⟨bb,_,hb2,hb3,hb4⟩:=HPa.out
      have hbb:AllG (bs.map (rdGl.h (gL l i))):=by rw [←hb2];exact (body_facts bb hb4).1
      obtain ⟨v1,v2⟩:=okv_sub HVs.out
      obtain ⟨v2,v3⟩:=okv_sub v2
      obtain ⟨v3,v4⟩:=okv_sub v3
      have s1:=sizes_A hbo.1 v1
      have s2:=sizes_A hbo.2.1 v2
      have s3:=sizes_G hb3 v3
      have s4:=sizes_G hbb v4
      have:=HL4.out.1
      have:=HL4.out.2
      have:=HL5.out.1
      have:=HL5.out.2
      omega)
     have HNs6:=Lib.hid (show nsL l i (j3+1)=nsL l i j3 from nsL_s HP5.out.ilt X5.out)
     have QN:=Lib.hid (fun W (hk:Kq R w5 W) (hp:Pq W R A c l (j3+1)) (hB:BoxL W (w.heap.size+1) [.string (S t),.slice kA ks.length kc,.slice rA rs.length rc,.slice gA gs.length gc,.slice bA bs.length bc,.int .i64 0])=>by
      obtain ⟨v1,v2⟩:=okv_sub HVs.out
      obtain ⟨v2,v3⟩:=okv_sub v2
      obtain ⟨v3,v4⟩:=okv_sub v3
      exact nrule_at HG.out hp.toks (fun g e=>by have:=HLow.out g e;omega) (HRows.out W hk) hB (by omega) v1 v2 v3 v4 (Nat.le_of_lt HP5.out.ilt) HSz.out)
     go_wp2_with (go_at_call 56;refine (QE.out _ HP5.out).mono ?_;rintro en w6 ⟨rfl,hk6,hp6⟩;have HK6:=Lib.hid hk6;have HP6:=Lib.hid (show Pq w6 R A c l (j3+1) from hp6);have HB6:=Lib.hid (HB5.out.kq hk6 hBR);have HT6:=Lib.hid (HT5.out.kq hk6 hTR);clear b0 b1 b2 b3 b4 b5 f0 f1 f2 f3 f4 f5 c0 c1 c2 c3 c4 c5 g0 g1 g2 g3 g4 g5 hk6 hp6;have r0:=HP6.out.l0)
     refine (QN.out _ HK6.out HP6.out HB6.out).mono ?_
     rintro en w7 ⟨rfl,ho,htp,hout,hs7,hb7,hrows7,hB7⟩
     have HP7:=Lib.hid (HP6.out.of hs7 fun k hk=>hb7 k (by omega) (by omega))
     have hk56:=HK5.out.trans HK6.out
     have HK7:=Lib.hid (show Kq R w w7 from ⟨ho.trans hk56.os,htp.trans hk56.tape,hout.trans hk56.output,Nat.le_trans hk56.size hs7,fun k hk h1 h2=>(hb7 k (by omega) (by omega)).trans (hk56.block k hk h1 h2),fun _ h=>.inl h⟩)
     have HRw7:=Lib.hid hrows7
     have HSz7:=Lib.hid hs7
     obtain ⟨b0,b1,b2,b3,b4,b5,f0,f1,f2,f3,f4,f5⟩:=hB7.get6
     obtain ⟨c0,c1,c2,c3,c4,c5,g0,g1,g2,g3,g4,g5⟩:=(HT6.out.of hs7 (hb7 w.heap.size (by omega) (by omega))).get6
     clear ho htp hout hs7 hb7 hrows7 hB7 hk56 r0
     have hTB:¬w.heap.size=w.heap.size+1:=by omega
     generalize hn7:(nB (xV l) ks rs gs bs).2.length=n7 at *
     go_wp2_with fail
     refine bodyPost_ret (v:=.tuple #[.agg #[.string (S t),.slice kA ks.length kc,.slice rA rs.length rc,.slice gA gs.length gc,.slice bA bs.length bc,.int .i64 (n7:Int)],.int .i64 0]) (by simp [results,Tryz.results30,go_sem,c0,c1,c2,c3,c4,c5]) rfl ?_
     obtain ⟨e1,e2⟩:=end6 hR HK7.out HP7.out (.string (S t)) (.slice kA ks.length kc) (.slice rA rs.length rc) (.slice gA gs.length gc) (.slice bA bs.length bc) (.int .i64 (n7:Int))
     refine ⟨t,setA ks (nK (xV l) ks).1,setA rs (nR (xV l) ks rs).1,setG gs (nG (xV l) ks rs gs).1,setG bs (nB (xV l) ks rs gs bs).1,kA,rA,gA,bA,ks.length,kc,rs.length,rc,gs.length,gc,bs.length,bc,n7,j3+1,0,rfl,e1,e2,.inl ⟨rfl,?_,by have:=HJ.out;have:=HJ4.out;have:=HJ5.out;omega,HTt.out,w6.heap.size,min m w4.heap.size,w4.heap.size,min m3 w5.heap.size,?_,?_⟩⟩
     ·obtain ⟨bb,hb1,hb2,_⟩:=HPa.out
      refine ⟨nsL l i j3,?_⟩
      have e3:partsS ex (leftT l i) []=.ok ⟨t,ks.map (rdAm.h (gL l i)),rs.map (rdAm.h (gL l i)),gs.map (rdGl.h (gL l i)),bs.map (rdGl.h (gL l i)),0⟩ (leftT l (j3+1)) (nsL l i j3):=by
       rw [hb1,hb2]
       first|exact if_pos rfl|exact if_pos trivial|simp
      simp only [ruleS,e3]
      rw [rule_numbered t (Nat.le_refl i) HVs.out,hn7]
     ·rw [sets6_size];exact HSz7.out
     ·exact (HRw7.out.of (Nat.le_of_eq (sets6_size _ _ _ _ _ _ _ _).symm) fun k h1 h2=>sets6_block _ _ _ _ _ _ _ _ (by omega)).low (by omega)
   ·have hne:(er3==0)=false:=by simpa using her
    have HE:=Lib.hid her
    have HRe:=Lib.hid (show ruleS ex (leftT l i)=.err (leftT l j3).length er3 by
     have h0:=HF.out
     rw [HN0.out] at h0
     simp only [ruleS,parts_err3 h0 HF4.out hf])
    clear her hf
    go_wp2_with fail
    refine bodyPost_ret (v:=.tuple #[.agg #[.string (S t),.slice kA ks.length kc,.slice rA rs.length rc,.slice gA gs.length gc,.slice bA bs.length bc,.int .i64 0],.int .i64 er3]) (by simp [results,Tryz.results30,go_sem,c0,c1,c2,c3,c4,c5]) rfl ?_
    obtain ⟨e1,e2⟩:=end6 hR HK5.out HP5.out (.string (S t)) (.slice kA ks.length kc) (.slice rA rs.length rc) (.slice gA gs.length gc) (.slice bA bs.length bc) (.int .i64 0)
    exact ⟨t,ks,rs,gs,bs,kA,rA,gA,bA,ks.length,kc,rs.length,rc,gs.length,gc,bs.length,bc,0,j3,er3,rfl,e1,e2,.inr ⟨HE.out,HRe.out⟩⟩
  ·have hne:(er2==0)=false:=by simpa using her
   have HE:=Lib.hid her
   have HRe:=Lib.hid (show ruleS ex (leftT l i)=.err (leftT l j2).length er2 by
    have h0:=HF.out
    rw [HN0.out] at h0
    simp only [ruleS,parts_err2 h0 hf])
   clear her hf
   go_wp2_with fail
   refine bodyPost_ret (v:=.tuple #[.agg #[.string (S t),.slice kA ks.length kc,.slice rA rs.length rc,.slice none 0 0,.slice none 0 0,.int .i64 0],.int .i64 er2]) (by simp [results,Tryz.results30,go_sem,c0,c1,c2,c3,c4,c5]) rfl ?_
   obtain ⟨e1,e2⟩:=end6 hR HK4.out HP4.out (.string (S t)) (.slice kA ks.length kc) (.slice rA rs.length rc) (.slice none 0 0) (.slice none 0 0) (.int .i64 0)
   exact ⟨t,ks,rs,[],[],kA,rA,none,none,ks.length,kc,rs.length,rc,0,0,0,0,0,j2,er2,rfl,e1,e2,.inr ⟨HE.out,HRe.out⟩⟩
 ·have hne:(er==0)=false:=by rcases her with rfl|rfl<;>rfl
  have HE:=Lib.hid (show er≠0 by omega)
  have HRe:=Lib.hid (show ruleS ex (leftT l j)=.err (leftT l j).length er by
   rw [HN0.out] at hf
   simp only [ruleS,parts_err1 hf])
  clear her hf
  obtain ⟨b0,b1,b2,b3,b4,b5,f0,f1,f2,f3,f4,f5⟩:=HB3.out.get6
  obtain ⟨c0,c1,c2,c3,c4,c5,g0,g1,g2,g3,g4,g5⟩:=HT3.out.get6
  go_wp2_with fail
  refine bodyPost_ret (v:=.tuple #[.agg #[.string (S t),.slice none 0 0,.slice none 0 0,.slice none 0 0,.slice none 0 0,.int .i64 0],.int .i64 er]) (by simp [results,Tryz.results30,go_sem,c0,c1,c2,c3,c4,c5]) rfl ?_
  obtain ⟨e1,e2⟩:=end6 hR HK3.out HP3.out (.string (S t)) (.slice none 0 0) (.slice none 0 0) (.slice none 0 0) (.slice none 0 0) (.int .i64 0)
  exact ⟨t,[],[],[],[],none,none,none,none,0,0,0,0,0,0,0,0,0,j,er,rfl,e1,e2,.inr ⟨HE.out,HRe.out⟩⟩
end
end Go.Proofs.YtaojnljppcnhjaaGreatDoor
namespace Go.Proofs.YtaojnljppcnhjaaGreatDoor
open Go.RowKit
section
variable {R:Nat} {A:Option Addr} {c:Nat} {l:List Tk}
def QueryQ (ex:Rd1 Tm) (R:Nat) (A:Option Addr) (c:Nat) (l:List Tk) (i:Nat) (w:World) (en:Ending) (w':World):Prop :=
 ∃(gs:List Gl) (ns:List (List UInt8)) (gA zA:Option Addr) (gn gc zn zc:Nat) (j:Nat) (er:Int),
  en=.returned (.tuple #[.agg #[.slice gA gn gc,.slice zA zn zc],.int .i64 er])∧Kq R w w'∧Pq w' R A c l j ∧
  ((er=0∧(∃m,quS ex (leftT l i)=.ok (gs.map sG,ns) (leftT l j) m)∧RowG elGl 54 w.heap.size w' (.slice gA gn gc) gs∧w'.ownsRow w.heap.size 9 1 (.slice zA zn zc) ns.length (nmC ns))∨(er≠0∧quS ex (leftT l i)=.err (leftT l j).length er))
abbrev sets2 (w:World) (T:Nat) (v0 v1:Value):World:=(w.setCell ⟨T,0,none⟩ v0).setCell ⟨T,1,none⟩ v1
theorem sets2_block (w:World) (T:Nat) (v0 v1:Value) {k:Nat} (h:k≠T):(sets2 w T v0 v1).heap[k]?=w.heap[k]?:=by
 have e:∀(W:World) (q:Nat) (v:Value),(W.setCell ⟨T,q,none⟩ v).heap[k]?=W.heap[k]?:=fun W q v=>Below.heap_setCell _ _ _ _ h
 rw [e,e]
theorem sets2_size (w:World) (T:Nat) (v0 v1:Value):(sets2 w T v0 v1).heap.size=w.heap.size:=by simp [World.setCell]
theorem end22 {w W:World} {j:Nat} (hR:R < w.heap.size) (hk:Kq R w W) (hp:Pq W R A c l j) (v0 v1:Value):Kq R w (sets2 W w.heap.size v0 v1)∧Pq (sets2 W w.heap.size v0 v1) R A c l j :=
 endV hR hk hp (Nat.le_of_eq (sets2_size W w.heap.size v0 v1).symm) (fun _ h=>sets2_block W w.heap.size v0 v1 h) rfl rfl rfl
theorem own_low {w:World} {lo lo':Nat} {t:TypeId} {k:Nat} {r:Value} {n:Nat} {vs:List Value} (h:w.ownsRow lo t k r n vs) (hl:lo'≤lo):w.ownsRow lo' t k r n vs:=by
 obtain ⟨h1,h2⟩:=h
 refine ⟨h1,h2.imp id ?_⟩
 rintro ⟨g,cap,cur,e1,e2,e3⟩
 exact ⟨g,cap,cur,e1,Nat.le_trans hl e2,e3⟩
set_option maxHeartbeats 8000000 in
set_option maxRecDepth 100000 in
theorem query_at (hg:GoodT l) {n:Nat} {ex:Rd1 Tm} (i:Nat)
  (hGl:∀(k:Nat) (w:World),Pq w R A c l k→i≤k→(leftT l k).length≤n→Calls Tryz.prog 59 #[.pointer (some ⟨R,0,none⟩)] w (ElR rdGl (goalR ex) R A c l i k w))
  (w:World) (h:Pq w R A c l i) (hn:(leftT l i).length≤n) :
  Calls Tryz.prog 34 #[.pointer (some ⟨R,0,none⟩)] w (QueryQ ex R A c l i w):=by
 have HG:=Lib.hid hg
 have hR:=h.lt
 have hTR:¬w.heap.size=R:=by omega
 have HLow:=Lib.hid h.low
 have HB1:=Lib.hid (BoxL.new w [.slice none 0 0,.slice none 0 0] 79)
 have Q:=Lib.hid (list_Gl_at hg i n 40 (by omega) (goalR ex) hGl i _ (h.alloc (.cells #[.slice none 0 0,.slice none 0 0] 79)) (Nat.le_refl _) hn)
 have HN0:=Lib.hid (show nsL l i i=[] from nsU_start (Nat.le_refl _))
 clear hg hGl h hn
 go_enter Tryz.func34,Tryz.ntmps34
 go_wp2_with fail
 refine Q.out.mono ?_
 rintro e w2 ⟨gs,j,er,gv,rfl,hk,hp,hr,ho⟩
 obtain ⟨gA,gc,rfl⟩:=hr.zform
 have HB2:=Lib.hid (HB1.out.kq hk hTR)
 have HK2:=Lib.hid (Kq.from_new hk)
 have HP2:=Lib.hid hp
 have HR2:=Lib.hid (show RowG elGl 54 (w.heap.size+1) w2 (.slice gA gs.length gc) gs from hr.low (by simp))
 have hsz2:w.heap.size+1≤w2.heap.size:=by have:=hk.size;simpa using this
 obtain ⟨c0,c1,f0,f1⟩:=HB2.out.get2
 clear hk hp hr
 rcases ho with ⟨rfl,hf,hij,hv,hl1,hl2⟩|⟨her,rfl,hz,hf⟩
 ·have HF:=Lib.hid (show goalsS ex 40 [] (leftT l i) []=.ok (gs.map (rdGl.h (gL l i))) (leftT l j) (nsL l i j) by
   rw [HN0.out] at hf
   rw [goals_list ex _ _ (Nat.le_refl _) _ _ (by simp),hf])
  have HV:=Lib.hid hv
  have HSz:=Lib.hid (show nodesLL (argsG gs)≤100000 by
   have hgf:=goals_facts 40 _ _ (Nat.le_refl _) _ _ _ _ _ HF.out AllG.nil
   have:=sizes_G hgf.1 hv
   have h40:=hgf.2.1
   rw [List.length_map] at h40
   omega)
  clear hf hij hv hl1 hl2
  have QN:=Lib.hid (ngoals_at HG.out HP2.out.toks (fun g e=>by have:=HLow.out g e;omega) hsz2 HR2.out HV.out (Nat.le_of_lt HP2.out.ilt) HSz.out)
  have r0:=HP2.out.l0
  go_wp2_with fail
  refine QN.out.mono ?_
  rintro e w3 ⟨zA,zc,rfl,ho,htp,hout,hs3,hb3,hr3,hz3⟩
  have hsame:∀k,k < w.heap.size+1→w3.heap[k]?=w2.heap[k]?:=hb3
  have HK3:=Lib.hid (show Kq R w w3 from ⟨ho.trans HK2.out.os,htp.trans HK2.out.tape,hout.trans HK2.out.output,Nat.le_trans HK2.out.size hs3,fun k hk h1 h2=>(hsame k (by omega)).trans (HK2.out.block k hk h1 h2),fun _ h=>.inl h⟩)
  have HP3:=Lib.hid (HP2.out.of hs3 fun k hk=>hsame k (by omega))
  have HR3:=Lib.hid hr3
  have HZ3:=Lib.hid hz3
  have HB3:=Lib.hid (HB2.out.of hs3 (hsame w.heap.size (by omega)))
  clear c0 c1 f0 f1
  obtain ⟨c0,c1,f0,f1⟩:=HB3.out.get2
  clear ho htp hout hs3 hb3 hr3 hz3 hsame r0
  generalize hns:(numLL (xV l) (argsG gs) []).2=ns at *
  go_wp2_with fail
  refine bodyPost_ret (v:=.tuple #[.agg #[.slice gA gs.length gc,.slice zA ns.length zc],.int .i64 0]) (by simp [results,Tryz.results34,go_sem,c0,c1]) rfl ?_
  obtain ⟨e1,e2⟩:=end22 hR HK3.out HP3.out (.slice gA gs.length gc) (.slice zA ns.length zc)
  refine ⟨setG gs (numLL (xV l) (argsG gs) []).1,ns,gA,zA,gs.length,gc,ns.length,zc,j,0,rfl,e1,e2,.inl ⟨rfl,⟨nsL l i j,?_⟩,?_,?_⟩⟩
  ·rw [goals_numbered (Nat.le_of_lt HP2.out.ilt) HV.out HF.out,hns]
  ·exact (HR3.out.frame (Nat.le_of_eq (sets2_size _ _ _ _).symm) fun _ h1 _=>sets2_block _ _ _ _ (by omega)).low (by omega)
  ·refine own_low (own_of HZ3.out fun k hk=>sets2_block _ _ _ _ ?_) (by omega)
   have:=(own_lt HZ3.out k hk).1
   omega
 ·have hne:(er != 0)=true:=bne_iff_ne.2 her
  have HE:=Lib.hid her
  have HF:=Lib.hid (show quS ex (leftT l i)=.err (leftT l j).length er by
   rw [HN0.out] at hf
   unfold quS
   rw [goals_list ex _ _ (Nat.le_refl _) _ _ (by simp),hf])
  injection hz with hz1 hz2 hz3
  subst hz1 hz3
  clear her hf hz2
  go_wp2_with fail
  refine bodyPost_ret (v:=.tuple #[.agg #[.slice none 0 0,.slice none 0 0],.int .i64 er]) (by simp [results,Tryz.results34,go_sem,c0,c1]) rfl ?_
  obtain ⟨e1,e2⟩:=end22 hR HK2.out HP2.out (.slice none 0 0) (.slice none 0 0)
  exact ⟨[],[],none,none,0,0,0,0,j,er,rfl,e1,e2,.inr ⟨HE.out,HF.out⟩⟩
end
end Go.Proofs.YtaojnljppcnhjaaGreatDoor
namespace Go.Proofs.YtaojnljppcnhjaaGreatDoor
open Go.RowKit
section
variable {R:Nat} {A:Option Addr} {c:Nat} {l:List Tk}
structure LpZ (ex:Rd1 Tm) (R:Nat) (A:Option Addr) (c:Nat) (l:List Tk) (n i1 T:Nat) (ns0:List (List UInt8)) (z0:Value) (w:World) (t:List UInt8) (gk:Nat) (more:Bool) (wr:World) (q:Nat) (acc:List Tm) (z:Value) (ns:List (List UInt8)) (at_:Nat) (B:Option Addr) (zc:Nat):Prop where
 k:Kp R z0 z w wr
 p:Pr wr R A c l q z ns at_ 0
 row:RowZ elTm 56 (T+1) z wr (.slice B acc.length zc) acc
 b2:BoxL wr w.heap.size [.string ⟨#[]⟩,.slice none 0 0]
 b6:BoxL wr T [.string (S t),.slice B acc.length zc]
 z2:z.ownBlock≠some w.heap.size
 z6:z.ownBlock≠some T
 all:argsS ex [] (leftT l i1) ns0=if more then argsS ex (stripL acc) (leftT l q) ns else wantS [41] (stripL acc) (leftT l q) ns
 sym:more=true→(l.getD q default).2.2≠[]
 iq:i1≤q
 len:acc.length≤q
 nn:acc=[]→more=true
 nsl:ns.length+(leftT l q).length≤ns0.length+(leftT l i1).length
 gk:l.length - q+(if more then 1 else 0)≤gk
set_option maxHeartbeats 8000000 in
set_option maxRecDepth 100000 in
theorem atom_z (hg:GoodT l) {n:Nat} {ex:Rd1 Tm} (hE:ExprZ R A c l n ex) (i:Nat) (z:Value) (ns:List (List UInt8)) (at_:Nat) (w:World) (h:Pr w R A c l i z ns at_ 0) (hn:(leftT l i).length≤n+1) (hns:ns.length+(leftT l i).length≤100000) :
  Calls Tryz.prog 101 #[.pointer (some ⟨R,0,none⟩)] w (ElZ elAm Am.val sA (atomS ex) R A c l i z ns w):=by
 obtain ⟨i0,hi,hz0,hz1,hz2⟩:=info_parts term_info
 have HG:=Lib.hid hg
 have hR:=h.lt
 have hTR:¬w.heap.size=R:=by omega
 have HI:=Lib.hid h.ilt
 have hb1:=(Below.refl w.heap.size w).alloc (Nat.le_refl _) (.cells #[.string ⟨#[]⟩,.slice none 0 0] 92)
 have HP1:=Lib.hid (h.below hb1)
 have HZ1:=Lib.hid h.znew
 have HB1:=Lib.hid (BoxL.new w [.string ⟨#[]⟩,.slice none 0 0] 92)
 have Q:=Lib.hid (z_name_at hg HP1.out)
 have HN:=Lib.hid (And.intro hn hns)
 have QE:=Lib.hid hE
 clear hg hE h hn hns hb1
 go_enter Tryz.func101,Tryz.ntmps101
 go_wp2_with fail
 refine Q.out.mono ?_
 rintro en w2 ⟨t,b,rfl,ht,hk,ho⟩
 have HB2:=Lib.hid (HB1.out.kz hk hTR HZ1.out)
 have HK2:=Lib.hid hk.from_alloc
 have HT:=Lib.hid ht
 have hs2:w.heap.size+1≤w2.heap.size:=by have:=hk.size;simpa using this
 clear hk ht
 rcases ho with ⟨rfl,hk1,hf,a,hp⟩|⟨rfl,e,he,hf,hp⟩
 ·have HF:=Lib.hid hf
  have HK1:=Lib.hid hk1
  have HP2:=Lib.hid hp
  have HZ6:=Lib.hid hp.znew
  obtain ⟨b,hb⟩:∃b,((l.getD (i+1) default).2.2==[40])=b:=⟨_,rfl⟩
  have X1:=Lib.hid (isS_text HG.out hp.ilt [40] (by decide) hb)
  have QI:=Lib.hid (fun W a z ns (hW:Pr W R A c l (i+1) z ns a 0)=>z_is_at HG.out hW [40] (by decide) hb)
  have HB3:=Lib.hid (Lib.hid (HB2.out.alloc (.cells #[.string (S t),.slice none 0 0] 92))).out
  have HB6:=Lib.hid (BoxL.new w2 [.string (S t),.slice none 0 0] 92)
  have HP3:=Lib.hid (hp.below ((Below.refl w2.heap.size w2).alloc (Nat.le_refl _) (.cells #[.string (S t),.slice none 0 0] 92)))
  have HK3:=Lib.hid (HK2.out.alloc (.cells #[.string (S t),.slice none 0 0] 92))
  have HSy:=Lib.hid (show b=true→(l.getD (i+1) default).2.2≠[] from fun e h0=>by rw [h0] at hb;rw [e] at hb;exact absurd hb (by decide))
  clear hf hk1 hp hb
  have hT6:¬w2.heap.size=w.heap.size:=by omega
  cases b
  ·go_wp2_with (go_at_call 47;(with_reducible refine (QI.out _ _ _ _ HP3.out).mono ?_);rintro en w4 ⟨rfl,hb4⟩;have HB4:=Lib.hid hb4;obtain ⟨c0,c1,f0,f1⟩:=(HB3.out.below hb4).get2;obtain ⟨d0,d1,g0,g1⟩:=(HB6.out.below hb4).get2;clear hb4)
   refine bodyPost_ret (v:=.tuple #[.agg #[.string (S t),.slice none 0 0],.bool true]) (by simp [results,Tryz.results101,go_sem,c0,c1]) rfl ?_
   have hP4:=HP3.out.below HB4.out
   have hK4:=HK3.out.trans (Below.kp HB4.out R z)
   have hz0:=HZ1.out
   have hs4:=HB4.out.size
   simp only [World.size_alloc] at hs4
   refine ⟨⟨S t,none,0,[]⟩,true,rfl,.inl ⟨rfl,z,ns,i+1,a,(hK4.put (p:=⟨w.heap.size,0,none⟩) (Nat.le_refl _) _).put (p:=⟨w.heap.size,1,none⟩) (Nat.le_refl _) _,(hP4.store (p:=⟨w.heap.size,0,none⟩) hR hz0 _).store (p:=⟨w.heap.size,1,none⟩) hR hz0 _,?_,Nat.lt_succ_self _,by rw [left_length,left_length];omega,?_⟩⟩
   ·rw [atomS,HF.out]
    simp only [X1.out]
    rfl
   ·refine ⟨fun x hx=>?_,fun b hb=>?_,fun b hb=>?_⟩
    ·rw [List.mem_singleton.1 hx]
     exact ⟨⟨by show (S t).size≤_;have:=HT.out;simp only [ByteArray.size,List.size_toArray];unfold maxLen;omega,Lst.nil _⟩,fun _=>⟨rfl,rfl⟩,by simp⟩
    ·simp [Elt.blkL,elAm,blkA,blkL] at hb
    ·simp [Elt.blkL,elAm,blkA,blkL] at hb
  ·go_wp2_with (go_at_call 47;(with_reducible refine (QI.out _ _ _ _ HP3.out).mono ?_);rintro en w4 ⟨rfl,hb4⟩;have HB4:=Lib.hid hb4;clear hb4)
   have hs4:=HB4.out.size
   simp only [World.size_alloc] at hs4
   have H0:=Lib.hid (show LpZ ex R A c l n (i+1) w2.heap.size ns z w t (l.length - (i+1)+1) true w4 (i+1) [] z ns a none 0 from
    ⟨HK3.out.trans (Below.kp HB4.out R z),HP3.out.below HB4.out,RowZ.nil _ _ _ _ _,HB3.out.below HB4.out,HB6.out.below HB4.out,HZ1.out,HZ6.out,rfl,fun _=>(by first|exact HSy.out rfl|exact HSy.out trivial),Nat.le_refl _,by simp,fun _=>rfl,Nat.le_refl _,Nat.le_refl _⟩)
   clear HP3 HK3 HB3 HB6 HB4 QI HSy HK2 HB2 HP2
   go_loopg [7] (l.length - (i+1)+1) (fun gk mv wr=>∃(more:Bool) (q:Nat) (acc:List Tm) (z':Value) (ns':List (List UInt8)) (a':Nat) (B:Option Addr) (zc:Nat),mv=.bool more∧Hid (LpZ ex R A c l n (i+1) w2.heap.size ns z w t gk more wr q acc z' ns' a' B zc))
   case atStart=>exact ⟨true,i+1,[],z,ns,a,none,0,rfl,H0⟩
   case round =>
    clear H0
    obtain ⟨more,q,acc,z',ns',a',B,zc,rfl,hJ⟩:=hrel
    cases more
    ·have hPJ:=hJ.out.p
     have hTl:=hJ.out.b6.lt
     have hne:acc≠[]:=fun e=>by have:=hJ.out.nn e;cases this
     have HNe:=Lib.hid hne
     obtain ⟨b3,hb3⟩:∃b3,((l.getD q default).2.2==[41])=b3:=⟨_,rfl⟩
     have X3:=Lib.hid (isS_text HG.out hPJ.ilt [41] (by decide) hb3)
     have QW:=Lib.hid (fun W (hW:Pr W R A c l q z' ns' a' 0)=>z_want_at HG.out hW [41] (by decide) hb3)
     have HPJ:=Lib.hid hPJ
     have hT2R:¬w2.heap.size=R:=by omega
     clear hPJ hne hb3
     obtain ⟨p0,p1,_,_⟩:=hJ.out.b6.get2
     go_wp2_with fail
     go_region_with (go_at_call 50;refine (QW.out _ (by first|exact HPJ.out|exact HPJ.out.of (Nat.le_refl _) (fun _ _ _=>rfl))).mono ?_;rintro en w5 ⟨rfl,hk5,ho5⟩;have hk0:Kp R z' z' wr w5:=(by first|exact hk5|exact ⟨hk5.os,hk5.tape,hk5.output,hk5.size,hk5.block,hk5.own⟩);have HK5:=Lib.hid hk0;have HO5:=Lib.hid ho5;obtain ⟨c0,c1,f0,f1⟩:=(hJ.out.b2.kz hk0 hTR hJ.out.z2).get2;obtain ⟨d0,d1,g0,g1⟩:=(hJ.out.b6.kz hk0 hT2R hJ.out.z6).get2;clear hk5 ho5 hk0)
     all_goals
      have HZ25:=Lib.hid (HK5.out.off hJ.out.b2.lt hJ.out.z2)
      have HK9:=Lib.hid (((hJ.out.k.trans HK5.out).put (p:=⟨w.heap.size,0,none⟩) (Nat.le_refl _) (.string (S t))).put (p:=⟨w.heap.size,1,none⟩) (Nat.le_refl _) (.slice B acc.length zc))
      have HRow5:=Lib.hid (hJ.out.row.kp HK5.out (by omega))
      go_wp2_with fail
      refine bodyPost_ret (v:=.tuple #[.agg #[.string (S t),.slice B acc.length zc],.bool b3]) (by simp [results,Tryz.results101,go_sem,c0,c1]) rfl ?_
      have hz2:=HZ25.out
      refine ⟨⟨S t,B,zc,acc⟩,b3,rfl,?_⟩
      rcases HO5.out with ⟨rfl,a6,hp⟩|⟨rfl,hp⟩
      ·refine .inl ⟨rfl,z',ns',q+1,a6,?_,?_,?_,?_,?_,?_⟩
       ·first|exact HK9.out|exact HK9.out.drew
       ·first|exact (hp.store (p:=⟨w.heap.size,0,none⟩) hR hz2 _).store (p:=⟨w.heap.size,1,none⟩) hR hz2 _|exact ((hp.store (p:=⟨w.heap.size,0,none⟩) hR hz2 _).store (p:=⟨w.heap.size,1,none⟩) hR hz2 _).drew
       ·rw [atomS,HF.out]
        simp only [X1.out,if_true,hJ.out.all,wantS,X3.out,left_tail]
        rfl
       ·have:=hJ.out.iq;omega
       ·have h6:=hJ.out.nsl
        simp only [left_length] at h6 ⊢
        omega
       ·have hA:=HRow5.out.atom HT.out HNe.out (by have h5:=hJ.out.len;have h6:=HPJ.out.ilt;have h7:=HG.out.small;omega)
        have hno:w.heap.size∉elAm.blkL [(⟨S t,B,zc,acc⟩:Am)]:=fun hx=>by
         have:=(hA.bd _ hx).1
         omega
        have hB:=((hA.put (p:=⟨w.heap.size,0,none⟩) hno (.string (S t))).put (p:=⟨w.heap.size,1,none⟩) hno (.slice B acc.length zc)).low (show w.heap.size≤w2.heap.size+1 by omega)
        first|exact hB|exact ⟨hB.at_,hB.bd,hB.out⟩
      ·refine .inr ⟨rfl,z',ns',q,(leftT l q).length,16,?_,?_,by omega,?_⟩
       ·first|exact HK9.out|exact HK9.out.drew
       ·first|exact (hp.store (p:=⟨w.heap.size,0,none⟩) hR hz2 _).store (p:=⟨w.heap.size,1,none⟩) hR hz2 _|exact ((hp.store (p:=⟨w.heap.size,0,none⟩) hR hz2 _).store (p:=⟨w.heap.size,1,none⟩) hR hz2 _).drew
       ·rw [atomS,HF.out]
        simp only [X1.out,if_true,hJ.out.all,wantS,X3.out]
        rfl
    ·have hPJ:=hJ.out.p
     have QX:=Lib.hid (z_next_at HG.out hPJ (hJ.out.sym rfl))
     have hTl:=hJ.out.b6.lt
     have hql:acc.length≤16385:=by have:=hJ.out.len;have:=hPJ.ilt;have:=HG.out.small;omega
     clear hPJ
     go_wp2_with (go_at_call 48;(with_reducible refine QX.out.mono ?_);rintro en w5 ⟨rfl,hk5,hp5⟩;have HK5:=Lib.hid hk5;have HP5:=Lib.hid hp5;clear hk5 hp5)
     refine (QE.out (q+1) z' ns' a' _ HP5.out (by have h1:=HN.out.1;have h2:=hJ.out.iq;simp only [left_length] at h1 ⊢;omega) (by have h1:=HN.out.2;have h2:=hJ.out.iq;have h3:=hJ.out.nsl;simp only [left_length] at h1 h3 ⊢;omega)).mono ?_
     rintro e w6 ⟨u,b,he,ho⟩
     have he2:e=.returned (.tuple #[.agg #[.int .i64 u.kind,.int .i64 u.num,.string u.name,.slice u.at_ u.args.length u.cap],.bool b]):=he
     clear he
     subst he2
     rcases ho with ⟨rfl,z7,ns7,j,a7,hk7,hp7,hf7,hqj,hnl,hs7⟩|⟨rfl,z7,ns7,j,m,e7,hk7,hp7,he7,hf7⟩
     ·have HK5':=HK5.out
      have hl5:=HK5'.size
      have hl7:=hk7.size
      have hz25:=HK5'.off hJ.out.b2.lt hJ.out.z2
      have hz65:=HK5'.off hJ.out.b6.lt hJ.out.z6
      have hT2R:¬w2.heap.size=R:=by omega
      have HB27:=Lib.hid ((hJ.out.b2.kz HK5' hTR hJ.out.z2).kz hk7 hTR hz25)
      have HB67:=Lib.hid ((hJ.out.b6.kz HK5' hT2R hJ.out.z6).kz hk7 hT2R hz65)
      have HZ27:=Lib.hid (hk7.off (hJ.out.b2.kz HK5' hTR hJ.out.z2).lt hz25)
      have HZ67:=Lib.hid (hk7.off (hJ.out.b6.kz HK5' hT2R hJ.out.z6).lt hz65)
      have HK7:=Lib.hid ((hJ.out.k.trans HK5').trans hk7)
      have HRow:=Lib.hid ((hJ.out.row.kp HK5' (by omega)).kp hk7 (by omega))
      have HRm:=Lib.hid (fun k hk=>(own_lt (hJ.out.row.kp HK5' (by omega)).row k hk).2)
      have HOwn:=Lib.hid (fun k hk=>own_lt HRow.out.row k hk)
      have HP7:=Lib.hid hp7
      have HS7:=Lib.hid hs7
      have HF7:=Lib.hid hf7
      have HJ7:=Lib.hid (And.intro hqj hnl)
      have hT5:w2.heap.size+1≤w5.heap.size:=by omega
      have HT5:=Lib.hid hT5
      obtain ⟨b2,hb2⟩:∃b2,((l.getD j default).2.2==[44])=b2:=⟨_,rfl⟩
      have X2:=Lib.hid (isS_text HG.out hp7.ilt [44] (by decide) hb2)
      have QC:=Lib.hid (fun W (hW:Pr W R A c l j z7 ns7 a7 0)=>z_is_at HG.out hW [44] (by decide) hb2)
      have HSy7:=Lib.hid (show b2=true→(l.getD j default).2.2≠[] from fun e h0=>by rw [h0] at hb2;rw [e] at hb2;exact absurd hb2 (by decide))
      have d1:=fun o=>(HB67.out.alloc o).get2.2.1
      clear HK5' hz25 hz65 hk7 hp7 hf7 hqj hnl hs7 hb2
      go_wp2_with (first
       | (at_builtin; refine wpList_append_lies _ rfl _ _ 52 rfl (w2.heap.size + 1) 56 i0 _ 4 56 Tryz.underlying52 hi hz0 hz1 hz2 rfl (by decide) (.slice B acc.length zc) acc.length (Elt.cellsL elTm acc) rfl ((HRow.out.row.alloc _).alloc _) ⟨w6.heap.size + 1, 0, none⟩ 1 1 (Elt.cells elTm u) rfl rfl (news2_Tm w6 _ u _) (Elt.one elTm u) (by decide) (by unfold maxLen; omega) (by omega) (by simp; omega) _ rfl ?_; intro g cap w7 hown hg hat hglt
          have hbox := ((Below.refl w6.heap.size w6).alloc (Nat.le_refl _) (.cells #[.int .i64 u.kind, .int .i64 u.num, .string u.name, .slice u.at_ u.args.length u.cap] 56)).alloc (by simp) (.cells #[.int .i64 u.kind, .int .i64 u.num, .string u.name, .slice u.at_ u.args.length u.cap] 56)
          have HRow8 := Lib.hid (HRow.out.next (fun k hk => (HP7.out.zlt k hk).2) HT5.out HRm.out HS7.out hbox hown hg hat)
          have HK8 := Lib.hid (((HK7.out.alloc _).alloc _).grown hg (fun k hk => by have := (HOwn.out k hk).1; omega))
          have HP8 := Lib.hid ((HP7.out.below hbox).of hg.size (fun k hk hx => hg.block k hk (fun e => by rcases hx with h1 | h1; (have := (HOwn.out k e.symm).1; omega); exact HRow.out.zap k e.symm h1)))
          have HB28 := Lib.hid (((HB27.out.alloc _).alloc _).grown hg (fun e => by have := (HOwn.out _ e).1; omega))
          have HB68 := Lib.hid (((HB67.out.alloc _).alloc _).grown hg (fun e => by have := (HOwn.out _ e).1; omega))
          obtain ⟨e0, e1, g0, g1⟩ := HB68.out.get2
          clear hown hg hat hglt hbox))
      have hRT:R < w2.heap.size:=by omega
      have HP9:=Lib.hid (HP8.out.store (p:=⟨w2.heap.size,1,none⟩) hRT HZ67.out (.slice (some ⟨g,0,none⟩) (acc.length+1) cap))
      go_wp2_with (go_at_call 47;(with_reducible refine (QC.out _ HP9.out).mono ?_);rintro en w8 ⟨rfl,hb8⟩;have HB8:=Lib.hid hb8;clear hb8)
      have HNx:=Lib.hid (show LpZ ex R A c l n (i+1) w2.heap.size ns z w t (gk - 1) b2 w8 j (acc++[u]) z7 ns7 a7 (some ⟨g,0,none⟩) cap by
       have el:(acc++[u]).length=acc.length+1:=by simp
       have hj:=HJ7.out.1
       have hn:=HJ7.out.2
       have h2:=hJ.out.gk
       have h3:=HP7.out.ilt
       have h4:=hJ.out.iq
       have h5:=hJ.out.len
       have h6:=hJ.out.nsl
       simp only [left_length,if_true] at hn h2 h6
       refine ⟨(HK8.out.put (p:=⟨w2.heap.size,1,none⟩) (show w.heap.size≤w2.heap.size by omega) _).trans (Below.kp HB8.out R z7),HP9.out.below HB8.out,?_,(HB28.out.put (p:=⟨w2.heap.size,1,none⟩) (show w2.heap.size≠w.heap.size by omega) _).below HB8.out,?_,HZ27.out,HZ67.out,?_,HSy7.out,by omega,by omega,fun e=>by simp at e,by simp only [left_length];omega,by cases b2<;>simp<;>omega⟩
       ·rw [el]
        exact (HRow8.out.frame (by simp [World.setCell]) (fun b h1 _ _=>Below.heap_setCell _ _ _ _ (show b≠w2.heap.size by omega)) (fun _ h=>.inl h)).below HB8.out
       ·rw [el]
        exact (HB68.out.set (j:=1) (by simp) _).below HB8.out
       ·rw [hJ.out.all,if_pos rfl,args_step (show ex (leftT l q).tail ns'=_ by rw [left_tail];exact HF7.out) (by simp only [left_length];omega),X2.out,stripL_app])
      have HGk:=Lib.hid (show gk - 1 < gk by have:=hJ.out.gk;simp at this;omega)
      go_wp2_with fail
      go_roundg (gk - 1)
      case measure=>exact HGk.out
      case rel=>exact ⟨b2,j,_,_,_,_,_,_,rfl,HNx⟩
     ·have HK5':=HK5.out
      have hl5:=HK5'.size
      have HE7:=Lib.hid (And.intro he7 hf7)
      have HP7:=Lib.hid hp7
      have hz25:=HK5'.off hJ.out.b2.lt hJ.out.z2
      have HB27:=Lib.hid ((hJ.out.b2.kz HK5' hTR hJ.out.z2).kz hk7 hTR hz25)
      have HZ27:=Lib.hid (hk7.off (hJ.out.b2.kz HK5' hTR hJ.out.z2).lt hz25)
      have HK7:=Lib.hid ((hJ.out.k.trans HK5').trans hk7)
      have c0:=fun o=>(HB27.out.alloc o).get2.1
      have c1:=fun o=>(HB27.out.alloc o).get2.2.1
      have f0:=fun o=>(HB27.out.alloc o).get2.2.2.1
      have f1:=fun o=>(HB27.out.alloc o).get2.2.2.2
      clear HK5' he7 hf7 hp7 hk7 hz25
      go_wp2_with fail
      refine bodyPost_ret (v:=.tuple #[.agg #[.string ⟨#[]⟩,.slice none 0 0],.bool false]) (by simp [results,Tryz.results101,go_sem,c0,c1]) rfl ?_
      have hz27:=HZ27.out
      refine ⟨⟨⟨#[]⟩,none,0,[]⟩,false,rfl,.inr ⟨rfl,z7,ns7,j,m,e7,((HK7.out.alloc _).put (p:=⟨w.heap.size,0,none⟩) (Nat.le_refl _) _).put (p:=⟨w.heap.size,1,none⟩) (Nat.le_refl _) _,((HP7.out.below ((Below.refl _ _).alloc (Nat.le_refl _) _)).store (p:=⟨w.heap.size,0,none⟩) hR hz27 _).store (p:=⟨w.heap.size,1,none⟩) hR hz27 _,HE7.out.1,?_⟩⟩
      rw [atomS,HF.out]
      simp only [X1.out,if_true,hJ.out.all,args_err (show ex (leftT l q).tail ns'=_ by rw [left_tail];exact HE7.out.2)]
 ·have HF:=Lib.hid hf
  have HE:=Lib.hid he
  have HP2:=Lib.hid hp
  obtain ⟨c0,c1,f0,f1⟩:=HB2.out.get2
  clear hf he hp
  go_wp2_with fail
  refine bodyPost_ret (v:=.tuple #[.agg #[.string ⟨#[]⟩,.slice none 0 0],.bool false]) (by simp [results,Tryz.results101,go_sem,c0,c1]) rfl ?_
  refine ⟨⟨⟨#[]⟩,none,0,[]⟩,false,rfl,.inr ⟨rfl,z,ns,i,(leftT l i).length,e,(HK2.out.put (p:=⟨w.heap.size,0,none⟩) (Nat.le_refl _) _).put (p:=⟨w.heap.size,1,none⟩) (Nat.le_refl _) _,(HP2.out.store (p:=⟨w.heap.size,0,none⟩) hR HZ1.out _).store (p:=⟨w.heap.size,1,none⟩) hR HZ1.out _,HE.out,?_⟩⟩
  rw [atomS,HF.out]
end
end Go.Proofs.YtaojnljppcnhjaaGreatDoor
