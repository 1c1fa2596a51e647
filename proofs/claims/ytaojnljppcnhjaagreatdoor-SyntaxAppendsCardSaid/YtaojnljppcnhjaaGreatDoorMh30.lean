/-
  PgParse.
  PgParseG.
  RzQuery.
 LwMem.
-/
import Derived.Test.YtaojnljppcnhjaaGreatDoorMh29
import Derived.Test.YtaojnljppcnhjaaGreatDoorMh18
import Derived.Test.YtaojnljppcnhjaaGreatDoorMh19
import Derived.Test.YtaojnljppcnhjaaGreatDoorMh9
import Derived.Test.YtaojnljppcnhjaaGreatDoorMh17
import Derived.Test.YtaojnljppcnhjaaGreatDoorMh4
import Derived.Deep.AppendLies
namespace Go.Proofs.YtaojnljppcnhjaaGreatDoor
open Go.RowKit
section
variable {F:Nat} {R:Nat} {A:Option Addr} {c:Nat} {l:List Tk}
theorem goal_F (hg:GoodT l) (a k:Nat) (w:World) (hP:Pq w R A c l k) (ha:a≤k) (hn:(leftT l k).length≤F+1) :
  Calls Tryz.prog 59 #[.pointer (some ⟨R,0,none⟩)] w (ElR rdGl (goalR (exprS (F+1))) R A c l a k w) :=
 one_Gl_at hg (n:=F+1) (fun k w hP ha hn=>any_goal_at hg (exprs_at hg a (F+1)) (expr_name _) (fun _ g r ns h=>expr_res F h g r ns) k w hP ha hn) k w hP ha hn
theorem head_F (hg:GoodT l) (a k:Nat) (w:World) (hP:Pq w R A c l k) (ha:a≤k) (hn:(leftT l k).length≤F+1) :
  Calls Tryz.prog 81 #[.pointer (some ⟨R,0,none⟩)] w (ElR rdAm (headR (exprS (F+1))) R A c l a k w) :=
 one_Am_at hg (n:=F+1) (fun k w hP ha hn=>atom_at hg (exprs_at hg a (F+1)) k w hP ha (by omega)) k w hP ha hn
theorem rule_F (hg:GoodT l) (k:Nat) (w:World) (hP:Pq w R A c l k) (hn:(leftT l k).length≤F+1) :
  Calls Tryz.prog 30 #[.pointer (some ⟨R,0,none⟩)] w (RuleQ (exprS (F+1)) R A c l k w) :=
 rule_at hg k (fun j w hP h hn=>head_F hg k j w hP h hn) (fun j w hP h hn=>goal_F hg k j w hP h hn) w hP hn
theorem len_F (hF:16384≤F) (hg:GoodT l):(leftT l 0).length≤F+1:=by rw [left_length];have:=hg.small;omega
end
section
variable {F:Nat} (hF:16384≤F) (s:ByteArray) (hs:s.size≤100000) (w:World)
include hF hs
theorem wholeP_F:Calls Tryz.prog 23 #[.string s,.func (.func 24) #[] #[]] w (WholeQ (programS (exprS (F+1))) #[.slice none 0 0,.slice none 0 0] MemP s w) :=
 whole_P (fun _ _ _ _ w hg hP=>program_at hg 0 (fun k w hP _ hn=>rule_F hg k w hP hn) w hP (len_F hF hg)) s hs w
theorem wholeR_F:Calls Tryz.prog 29 #[.string s,.func (.func 30) #[] #[]] w (WholeQ (ruleS (exprS (F+1))) ZR MemR s w) :=
 whole_R (fun _ _ _ _ w hg hP=>rule_F hg 0 w hP (len_F hF hg)) s hs w
theorem wholeQ_F:Calls Tryz.prog 33 #[.string s,.func (.func 34) #[] #[]] w (WholeQ (quS (exprS (F+1))) #[.slice none 0 0,.slice none 0 0] MemQ s w) :=
 whole_Q (fun _ _ _ _ w hg hP=>query_at hg 0 (fun j w hP h hn=>goal_F hg 0 j w hP h hn) w hP (len_F hF hg)) s hs w
set_option maxHeartbeats 4000000 in
set_option maxRecDepth 100000 in
theorem parse_at:Calls Tryz.prog 10 #[.string s] w (WholeQ (programS (exprS (F+1))) #[.slice none 0 0,.slice none 0 0] MemP s w):=by
 have Q:=Lib.hid (wholeP_F hF s hs (w.alloc (.cells #[.slice none 0 0,.slice none 0 0] 26)))
 have HB:=Lib.hid (BoxL.new w [.slice none 0 0,.slice none 0 0] 26)
 have H1:=Lib.hid ((Below.refl w.heap.size w).alloc (Nat.le_refl _) (.cells #[.slice none 0 0,.slice none 0 0] 26))
 clear hs hF
 go_enter Tryz.func10,Tryz.ntmps10
 go_wp2_with fail
 refine Q.out.mono ?_
 rintro en w2 ⟨V,p,er,rfl,hb,ho⟩
 have HB2:=Lib.hid (Below.after H1.out hb (by simp))
 have hs2:w.heap.size+1≤w2.heap.size:=by have:=hb.size;simpa using this
 obtain ⟨c0,c1,f0,f1⟩:=(HB.out.below hb).get2
 have HO:=Lib.hid ho
 clear hb
 obtain ⟨dA,dn,dc,rA,rn,rc,rfl⟩:∃dA dn dc rA rn rc,V=#[.slice dA dn dc,.slice rA rn rc]:=by
  rcases ho with ⟨_,_,x,_,ds,rz,dA,rA,dn,dc,rn,rc,e,_⟩|⟨_,e,_⟩
  ·exact ⟨dA,dn,dc,rA,rn,rc,e⟩
  ·exact ⟨none,0,0,none,0,0,e⟩
 clear ho
 go_wp2_with fail
 refine bodyPost_ret (v:=.tuple #[.agg #[.slice dA dn dc,.slice rA rn rc],.int .i64 (p:Int),.int .i64 er]) (by simp [results,Tryz.results10,go_sem,c0,c1]) rfl ?_
 refine ⟨#[.slice dA dn dc,.slice rA rn rc],p,er,rfl,(HB2.out.setCell (Nat.le_refl _) _).setCell (Nat.le_refl _) _,?_⟩
 rcases HO.out with ⟨h1,h2,x,hx,hm⟩|h
 ·refine .inl ⟨h1,h2,x,hx,hm.frame (by simp) (Nat.le_of_eq (sets2_size w2 w.heap.size _ _).symm) fun b h1 _=>?_⟩
  simp only [World.size_alloc] at h1
  exact sets2_block w2 w.heap.size _ _ (by omega)
 ·exact .inr h
set_option maxHeartbeats 4000000 in
set_option maxRecDepth 100000 in
theorem parse_rule_at:Calls Tryz.prog 13 #[.string s] w (WholeQ (ruleS (exprS (F+1))) ZR MemR s w):=by
 have Q:=Lib.hid (wholeR_F hF s hs (w.alloc (.cells ZR 35)))
 have HB:=Lib.hid (BoxL.new w ZR.toList 35)
 have H1:=Lib.hid ((Below.refl w.heap.size w).alloc (Nat.le_refl _) (.cells ZR 35))
 clear hs hF
 go_enter Tryz.func13,Tryz.ntmps13
 go_wp2_with fail
 refine Q.out.mono ?_
 rintro en w2 ⟨V,p,er,rfl,hb,ho⟩
 have HB2:=Lib.hid (Below.after H1.out hb (by simp))
 have hs2:w.heap.size+1≤w2.heap.size:=by have:=hb.size;simpa using this
 obtain ⟨c0,c1,c2,c3,c4,c5,f0,f1,f2,f3,f4,f5⟩:=(show BoxL w2 w.heap.size [.string ⟨#[]⟩,.slice none 0 0,.slice none 0 0,.slice none 0 0,.slice none 0 0,.int .i64 0] from HB.out.below hb).get6
 have HO:=Lib.hid ho
 clear hb
 obtain ⟨t,kA,kn,kc,rA,rn,rc,gA,gn,gc,bA,bn,bc,n,rfl⟩:∃(t:List UInt8) (kA:Option Addr) (kn kc:Nat) (rA:Option Addr) (rn rc:Nat) (gA:Option Addr) (gn gc:Nat) (bA:Option Addr) (bn bc n:Nat),V=#[.string (S t),.slice kA kn kc,.slice rA rn rc,.slice gA gn gc,.slice bA bn bc,.int .i64 (n:Int)]:=by
  rcases ho with ⟨_,_,x,_,t,ks,rs,gs,bs,kA,rA,gA,bA,kn,kc,rn,rc,gn,gc,bn,bc,n,e,_⟩|⟨_,e,_⟩
  ·exact ⟨t,kA,kn,kc,rA,rn,rc,gA,gn,gc,bA,bn,bc,n,e⟩
  ·exact ⟨[],none,0,0,none,0,0,none,0,0,none,0,0,0,e⟩
 clear ho
 go_wp2_with fail
 refine bodyPost_ret (v:=.tuple #[.agg #[.string (S t),.slice kA kn kc,.slice rA rn rc,.slice gA gn gc,.slice bA bn bc,.int .i64 (n:Int)],.int .i64 (p:Int),.int .i64 er]) (by simp [results,Tryz.results13,go_sem,c0,c1,c2,c3,c4,c5]) rfl ?_
 refine ⟨_,p,er,rfl,(((((HB2.out.setCell (Nat.le_refl _) _).setCell (Nat.le_refl _) _).setCell (Nat.le_refl _) _).setCell (Nat.le_refl _) _).setCell (Nat.le_refl _) _).setCell (Nat.le_refl _) _,?_⟩
 rcases HO.out with ⟨h1,h2,x,hx,hm⟩|h
 ·refine .inl ⟨h1,h2,x,hx,hm.frame (by simp) (Nat.le_of_eq (sets6_size w2 w.heap.size _ _ _ _ _ _).symm) fun b h1 _=>?_⟩
  simp only [World.size_alloc] at h1
  exact sets6_block w2 w.heap.size _ _ _ _ _ _ (by omega)
 ·exact .inr h
end
end Go.Proofs.YtaojnljppcnhjaaGreatDoor
namespace Go.Proofs.YtaojnljppcnhjaaGreatDoor
open Go.RowKit
def GoalsW (F:Nat) (s:ByteArray) (w:World) (en:Ending) (w':World):Prop :=
 ∃(gA zA:Option Addr) (gn gc zn zc:Nat) (p:Nat) (er:Int),en=.returned (.tuple #[.slice gA gn gc,.slice zA zn zc,.int .i64 (p:Int),.int .i64 er])∧Below w.heap.size w w' ∧
  ((er=0∧p=0∧∃x,wholeS (quS (exprS (F+1))) s=.ok x∧MemQ w.heap.size w' #[.slice gA gn gc,.slice zA zn zc] x)∨(er≠0∧gA=none∧gn=0∧gc=0∧zA=none∧zn=0∧zc=0∧wholeS (quS (exprS (F+1))) s=.error (p,er)))
section
variable {F:Nat} (hF:16384≤F) (s:ByteArray) (hs:s.size≤100000) (w:World)
include hF hs
set_option maxHeartbeats 4000000 in
set_option maxRecDepth 100000 in
theorem parse_goals_at:Calls Tryz.prog 16 #[.string s] w (GoalsW F s w):=by
 have Q:=Lib.hid (wholeQ_F hF s hs w)
 clear hs hF
 go_enter Tryz.func16,Tryz.ntmps16
 go_wp2_with fail
 refine Q.out.mono ?_
 rintro en w2 ⟨V,p,er,rfl,hb,ho⟩
 have HB2:=Lib.hid hb
 have HO:=Lib.hid ho
 obtain ⟨gA,gn,gc,zA,zn,zc,rfl⟩:∃gA gn gc zA zn zc,V=#[.slice gA gn gc,.slice zA zn zc]:=by
  rcases ho with ⟨_,_,x,_,gs,ns,gA,zA,gn,gc,zn,zc,e,_⟩|⟨_,e,_⟩
  ·exact ⟨gA,gn,gc,zA,zn,zc,e⟩
  ·exact ⟨none,0,0,none,0,0,e⟩
 obtain ⟨c0,c1,_,_⟩:=(BoxL.new w2 [.slice gA gn gc,.slice zA zn zc] 79).get2
 clear ho hb
 go_wp2_with fail
 go_region
 go_wp2_with fail
 refine bodyPost_ret (v:=.tuple #[.slice gA gn gc,.slice zA zn zc,.int .i64 (p:Int),.int .i64 er]) (by simp [results,Tryz.results16,go_sem]) rfl ?_
 refine ⟨gA,zA,gn,gc,zn,zc,p,er,rfl,?_,?_⟩
 ·first|exact (HB2.out.alloc HB2.out.size _).drew|exact HB2.out.alloc HB2.out.size _
 ·rcases HO.out with ⟨h1,h2,x,hx,hm⟩|⟨h1,h2,h3⟩
  ·refine .inl ⟨h1,h2,x,hx,hm.frame (Nat.le_refl _) (by first|exact Nat.le_of_lt (by simp [World.drew])|simp) fun b _ h2=>?_⟩
   exact Below.heap_alloc w2 _ b h2
  ·injection h2 with h2
   injection h2 with a1 h2
   injection h2 with a2 _
   injection a1 with b1 b2 b3
   injection a2 with b4 b5 b6
   exact .inr ⟨h1,b1,b2,b3,b4,b5,b6,h3⟩
end
end Go.Proofs.YtaojnljppcnhjaaGreatDoor
namespace Go.Proofs.YtaojnljppcnhjaaGreatDoor
open Go.RowKit
def MemQz (lo:Nat) (w':World) (V:Array Value) (x:List Gs×List (List UInt8)):Prop:=∃(gs:List Gl) (ns:List (List UInt8)) (gA zA:Option Addr) (gn gc zn zc:Nat),V=#[.slice gA gn gc,.slice zA zn zc]∧x=(gs.map sG,ns)∧RowZ elGl 54 lo Z0 w' (.slice gA gn gc) gs∧w'.ownsRow lo 9 1 (.slice zA zn zc) ns.length (nmC ns)
def GoalsZ (F:Nat) (s:ByteArray) (w:World) (en:Ending) (w':World):Prop :=
 ∃(gA zA:Option Addr) (gn gc zn zc:Nat) (p:Nat) (er:Int),en=.returned (.tuple #[.slice gA gn gc,.slice zA zn zc,.int .i64 (p:Int),.int .i64 er])∧Below w.heap.size w w' ∧
  ((er=0∧p=0∧∃x,wholeS (quS (exprS (F+1))) s=.ok x∧MemQz w.heap.size w' #[.slice gA gn gc,.slice zA zn zc] x)∨(er≠0∧gA=none∧gn=0∧gc=0∧zA=none∧zn=0∧zc=0∧wholeS (quS (exprS (F+1))) s=.error (p,er)))
structure QuZ (A:Option Addr) (c:Nat) (l:List Tk) (w w3:World) (base q:Nat) (z:Value) (ns:List (List UInt8)) (a:Nat) (gs:List Gl) (gA:Option Addr) (gc:Nat) (V:Option Addr) (vc:Nat) (U:List Int) (j:Nat) (done:List Gl) (wr:World):Prop where
 bel:Below w.heap.size w wr
 p:Pr wr w3.heap.size A c l q z ns a 0
 row:RowZ elGl 54 (w3.heap.size+1) z wr (.slice gA gs.length gc) (done++gs.drop j)
 own:OwnI wr base (.slice V U.length vc) U
 top:base≤wr.heap.size
 num:NumG (placeS U) base gs done j
 zT:∀k,z.ownBlock=some k→k < base
theorem RowZ.fz {α:Type} {E:Elt α} {T:TypeId} {lo g n cap:Nat} {z:Value} {w:World} {xs:List α} (h:RowZ E T lo z w (.slice (some ⟨g,0,none⟩) n cap) xs) (h0:0 < xs.length):∀j,w.frozen? ⟨g,j,none⟩=false:=by
 rcases h.row.2 with ⟨_,h1⟩|⟨g',cap',cur,e,hb,hg,_⟩
 ·omega
 ·injection e with e1 e2 e3
  injection e1 with e1
  injection e1 with e1 _ _
  subst e1
  intro j
  simp [World.frozen?,hg]
theorem goals_zF {F:Nat} {R:Nat} {A:Option Addr} {c:Nat} {l:List Tk} (hF:16384≤F) (hg:GoodT l) (i:Nat) (z:Value) (at_:Nat) (w:World) (h:Pr w R A c l i z [] at_ 0) :
  Calls Tryz.prog 35 #[.pointer (some ⟨R,0,none⟩),.int .i64 ((40:Nat):Int)] w (ListZ elGl 54 sG (fun ts ns=>goalsS (exprS (F+1)) 40 [] ts ns) R A c l i z [] w) :=
 goals_z hg (exprs_z hg (F+1)) (expr_sized (F+1)) 40 (by omega) i z [] at_ w h (by rw [left_length];have:=hg.small;omega) (by rw [left_length];have:=hg.small;simp;omega)
def namesT (ns:List (List UInt8)) (us:List Int):List (List UInt8):=us.map fun v=>ns.getD v.toNat []
theorem namesT_next (ns:List (List UInt8)) {us:List Int} {j:Nat} (hj:j < us.length):namesT ns (us.take (j+1))=namesT ns (us.take j)++[ns.getD (us.getD j 0).toNat []]:=by
 have e:us.take (j+1)=us.take j++[us.getD j 0]:=by
  rw [List.take_add_one]
  simp [List.getD,hj]
 rw [e,namesT,namesT,List.map_append]
 rfl
theorem namesT_len (ns:List (List UInt8)) (us:List Int):(namesT ns us).length=us.length:=by simp [namesT]
theorem order_goals (gs:List Gl):orderS ((gs.map sG).flatMap (·.2.2))=usG [] gs:=by
 unfold orderS usG
 rw [flat_sG,occ_strip2.2]
theorem undrew_gr {w w':World} {row:Option Nat} (h:w.drew.grownBy w' row):w.grownBy w' row:=⟨h.os,h.tape,h.output,h.size,h.block⟩
theorem names_step {wq wo w4:World} {o:Obj} {v:Value} {k n:Nat} {T:TypeId} {xs:List Value} (hb:Below wq.heap.size wq wo) (ho:wo.ownsRow wq.heap.size T k v n xs) (hg:(wo.alloc o).grownBy w4 v.ownBlock):Below wq.heap.size wq w4 :=
 (hb.alloc hb.size o).grown hg (by have:=hb.size;simp;omega) fun k h=>(own_lt ho k h).1
theorem query_read {F:Nat} {l:List Tk} {i j:Nat} {gs done:List Gl} {ns:List (List UInt8)} (h:goalsS (exprS F) 40 [] (leftT l i) []=.ok (gs.map sG) (leftT l j) ns) (hp:done.map sG=(gs.take gs.length).map (fun x=>Gs.num2 (placeS (usG [] gs)) (sG x))) :
  quS (exprS F) (leftT l i)=.ok (done.map sG,namesT ns (usG [] gs)) (leftT l j) ns:=by
 unfold quS
 rw [h]
 simp only [order_goals,namesT]
 rw [hp,List.take_length,List.map_map]
 rfl
theorem query_in {F:Nat} {l:List Tk} {i j:Nat} {gs:List Gl} {ns:List (List UInt8)} (h:goalsS (exprS F) 40 [] (leftT l i) []=.ok (gs.map sG) (leftT l j) ns):∀k,k < (usG [] gs).length→∃q:Nat,(usG [] gs).getD k 0=(q:Int)∧q < ns.length:=fun k hk=>by
 have hm:(usG [] gs).getD k 0∈orderS ((gs.map sG).flatMap (·.2.2)):=by
  rw [order_goals,List.getD_eq_getElem?_getD,List.getElem?_eq_getElem hk]
  exact List.getElem_mem hk
 obtain ⟨h0,h1⟩:=query_named h _ hm
 exact ⟨_,(Int.toNat_of_nonneg h0).symm,h1⟩
section
variable {F:Nat} (hF:16384≤F) (s:ByteArray) (hs:s.size≤100000) (w:World)
include hF hs
set_option maxHeartbeats 16000000 in
set_option maxRecDepth 100000 in
theorem parse_goals_z:Calls Tryz.prog 17 #[.string s] w (GoalsZ F s w):=by
 have QS:=Lib.hid (fun W=>tr_scan_at s W hs)
 have HR:=Lib.hid (fun (R:Nat) (A:Option Addr) (c:Nat) (l:List Tk) (hg:GoodT l) i z a W (h:Pr W R A c l i z [] a 0)=>goals_zF hF hg i z a W h)
 have HSc:=Lib.hid (fun h0=>good_scan (s:=s) h0)
 obtain ⟨sc,hsc⟩:∃sc,scanP s=sc:=⟨_,rfl⟩
 rw [show ScanR s=fun w e w'=>∃A c,e=.returned (.tuple #[.slice A (scanP s).1.length c,.int .i64 ((scanP s).2.1:Int),.int .i64 (scanP s).2.2])∧TLst w' A (scanP s).1 c∧Below w.heap.size w w' from rfl,hsc] at QS
 rw [hsc] at HSc
 obtain ⟨l,p,e⟩:=sc
 have HW:=Lib.hid hsc
 clear hsc hs hF
 by_cases he:e=0
 ·subst he
  go_enter Tryz.func17,Tryz.ntmps17
  go_wp2_with fail
  refine (QS.out _).mono ?_
  rintro en w3 ⟨A,c,rfl,hT,hb3⟩
  have HT:=Lib.hid (show TLst w3 A l c from hT)
  have HG:=Lib.hid (show GoodT l by first|exact HSc.out rfl|exact HSc.out trivial)
  have HB3:=Lib.hid hb3
  have hsz3:w.heap.size≤w3.heap.size:=hb3.size
  have HP:=Lib.hid (pr_new HT.out HG.out.ended.1 63)
  have QR:=Lib.hid (HR.out _ A c l HG.out _ _ _ _ HP.out)
  clear hT hb3 HSc QS
  go_wp2_with fail
  refine QR.out.mono ?_
  rintro en w4 ⟨gs,b,rv,rfl,ho⟩
  rcases ho with ⟨rfl,z',ns',j,a,hk4,hp4,hf4,_,_,hrw,hgl⟩|⟨rfl,rfl,z',ns',j,nn,er,hk4,hp4,hne,hf4⟩
  ·obtain ⟨gA,gc,rfl⟩:=hrw.zform
   have hs34:w3.heap.size+1≤w4.heap.size:=by have:=hk4.size;simpa using this
   have HB4:=Lib.hid (hk4.bel (HB3.out.alloc (by omega) _) (by omega) (by simp;omega))
   have HP4:=Lib.hid hp4
   have HF4:=Lib.hid hf4
   have HR4:=Lib.hid (hrw.low (lo':=w3.heap.size+1) (by simp))
   obtain ⟨tk,htk⟩:∃tk,l.getD j default=tk:=⟨_,rfl⟩
   obtain ⟨k,q,x⟩:=tk
   have fk:=tok_kind k (q:Int) (S x)
   have fa:=tok_at k (q:Int) (S x)
   have QT:=Lib.hid (fun W (hW:Pr W w3.heap.size A c l j z' ns' a 0)=>r_tok_of hW htk)
   have HTk:=Lib.hid htk
   clear hk4 hp4 hf4 hrw htk
   by_cases hk:k=0
   ·subst hk
    go_wp2_with (go_at_call 27;(with_reducible refine (QT.out _ HP4.out).mono ?_);rintro en w5 ⟨rfl,hb5⟩;have HB5:=Lib.hid (Below.after HB4.out hb5 (by omega));have hs5:w3.heap.size+1≤w5.heap.size:=Nat.le_trans hs34 hb5.size;have HP5:=Lib.hid (HP4.out.below hb5);have HR5:=Lib.hid (HR4.out.below hb5);clear hb5)
    obtain ⟨hAll,hg40,_⟩:=goals_facts 40 _ _ (Nat.le_refl _) _ _ _ _ _ HF4.out (fun _ h=>by cases h)
    rw [List.length_map] at hg40
    have HNa:=Lib.hid (show ∀x∈gs,nodesL x.args≤200 from fun x hx=>nodes_rightG (hAll _ (List.mem_map_of_mem hx)))
    have hgl2:gs.length≤9223372036854775807:=by omega
    clear hAll
    go_loopg [12,13] gs.length (fun gk v i wr=>∃(j:Nat) (V:Option Addr) (vc:Nat),j≤gs.length∧i=.int .i64 (j:Int)∧v=.slice V (usG [] (gs.take j)).length vc∧Hid (OrdL w5.heap.size w5 (usG [] (gs.take j)) V vc wr∧gs.length - j≤gk))
    case atStart=>exact ⟨0,none,0,Nat.zero_le _,rfl,by first|rfl|simp [usG,occL],Lib.hid ⟨⟨by exact World.ownsRow_nil _ _ _ _,Below.refl _ _⟩,Nat.le_refl _⟩⟩
    case round =>
     obtain ⟨j1,V,vc,hj,rfl,rfl,hI⟩:=hrel
     obtain ⟨wo,hwo⟩:∃wo,wo=wr:=⟨_,rfl⟩
     subst hwo
     obtain ⟨ko,hko⟩:∃ko,ko=gk:=⟨_,rfl⟩
     subst hko
     have HO:=Lib.hid hI.out.1
     have HGk:=Lib.hid hI.out.2
     clear hI
     by_cases hlt:j1 < gs.length
     ·obtain ⟨g,hBA,hg1,hg2,hnn,hcell⟩:=HR5.out.elt hlt
      have hat:=HR5.out.sit.at_ _ (getD_in hlt)
      have HBl:=Lib.hid (fun b (hb:b∈blkA (gs.getD j1 default).at_ (gs.getD j1 default).args.length++blkL (gs.getD j1 default).args)=>(HR5.out.sit.bd b (List.mem_flatMap.2 ⟨_,getD_in hlt,hb⟩)).2)
      have HNx:=Lib.hid (usG_next [] hlt)
      have HNl:=Lib.hid (occ_len2 _ (HNa.out _ (getD_in hlt)))
      have HUj:=Lib.hid (show (usG [] (gs.take j1)).length≤8000 from by
       have h1:=usG_len [] (gs.take j1) (fun x hx=>HNa.out x (List.mem_of_mem_take hx))
       simp only [List.length_take,List.length_nil] at h1
       omega)
      have c1:wo.cell? ⟨g,j1*3+2,none⟩=some (.slice (gs.getD j1 default).at_ (gs.getD j1 default).args.length (gs.getD j1 default).cap):=(HO.out.b.cell (p:=⟨g,j1*3+2,none⟩) hg2).trans (hcell 2 _ rfl)
      subst hBA
      have QO:=Lib.hid (order_z w5.heap.size (gs.getD j1 default).at_ (gs.getD j1 default).args (gs.getD j1 default).cap wo (fun W hW=>lst_blk hat.2.2 fun b hb=>(hW b (HBl.out b hb)).trans (HO.out.b.block b (HBl.out b hb))) HO.out.b.size V (usG [] (gs.take j1)) vc HO.out.own (by have:=HNl.out.2;have:=HUj.out;omega))
      clear hcell hat hnn
      generalize gs.getD j1 default=x at *
      obtain ⟨xo,xn,xA,xc,xa⟩:=x
      simp only at c1
      go_wp2_with (go_at_call 36;(with_reducible refine QO.out.mono ?_);rintro e w6 ⟨A4,c4,rfl,how,hb6⟩;have HOw:=Lib.hid how;have HB6:=Lib.hid hb6;clear how hb6)
      have HNo:=Lib.hid (show OrdL w5.heap.size w5 (usG [] (gs.take (j1+1))) A4 c4 w6 by rw [HNx.out];exact ⟨HOw.out,HO.out.b.trans HB6.out⟩)
      go_roundg (ko - 1)
      case measure=>have:=HGk.out;omega
      case rel=>exact ⟨j1+1,A4,c4,by omega,by go_num,by rw [HNx.out],Lib.hid ⟨HNo.out,by have:=HGk.out;omega⟩⟩
     ·obtain rfl:j1=gs.length:=by omega
      have HV:=Lib.hid (show OrdL w5.heap.size w5 (usG [] gs) V vc wo by have h:=HO.out;rw [List.take_length] at h;exact h)
      have HZt:=Lib.hid (show ∀k,z'.ownBlock=some k→k < w5.heap.size from fun k hk=>(HP5.out.apart k hk).2)
      have hUl:(usG [] gs).length≤8000:=by
       have h1:=usG_len [] gs HNa.out
       simp only [List.length_nil] at h1
       omega
      have HUl:=Lib.hid hUl
      obtain ⟨U,hU⟩:∃U,usG [] gs=U:=⟨_,rfl⟩
      have HU:=Lib.hid hU
      have HE:=Lib.hid (show usG [] (gs.take gs.length)=U by rw [List.take_length];exact hU)
      rw [hU] at HV HUl
      have H2:=Lib.hid (show QuZ A c l w w3 w5.heap.size j z' ns' a gs gA gc V vc U 0 [] wo from
       ⟨Below.after HB5.out HV.out.b (by omega),HP5.out.below HV.out.b,HR5.out.below HV.out.b,HV.out.own,HV.out.b.size,⟨rfl,rfl,fun b hb=>by simp [Elt.blkL] at hb⟩,HZt.out⟩)
      clear hUl hU HGk HO hj hlt
      go_wp2_with fail
      rw [HE.out]
      go_loopg [14] gs.length (fun gk i wr=>∃(j2:Nat) (done:List Gl),j2≤gs.length∧i=.int .i64 (j2:Int)∧Hid (QuZ A c l w w3 w5.heap.size j z' ns' a gs gA gc V vc U j2 done wr∧gs.length - j2≤gk))
      case atStart=>exact ⟨0,[],Nat.zero_le _,rfl,Lib.hid ⟨H2.out,Nat.le_refl _⟩⟩
      case round =>
       clear H2
       obtain ⟨j2,done,hj2,rfl,hI2⟩:=hrel
       by_cases hlt:j2 < gs.length
       ·obtain ⟨e1,e2,e3,e4⟩:=done_get hI2.out.1.num.len hlt
        have hrow:=hI2.out.1.row
        have HFz:=Lib.hid (fun g (hg:gA=some ⟨g,0,none⟩) W (hW:Below wr.heap.size wr W) j=>RowZ.fz (g:=g) (by have:=hrow.below hW;rw [hg] at this;exact this) (by omega) j)
        obtain ⟨g,hBA,hg1,hg2,hnn,hcell⟩:=hrow.elt e2
        subst hBA
        have hat:=hrow.sit.at_ _ (getD_in e2)
        have hno:=HNa.out _ (getD_in hlt)
        obtain ⟨x,hx⟩:∃x,gs.getD j2 default=x:=⟨_,rfl⟩
        rw [hx] at e1 hno
        rw [e1] at hat hcell
        have c1:wr.cell? ⟨g,j2*3+2,none⟩=some (.slice x.at_ x.args.length x.cap):=hcell 2 _ rfl
        have HCell:=Lib.hid (fun W (hW:Below wr.heap.size wr W)=>(hW.cell (p:=⟨g,j2*3+2,none⟩) hg2).trans c1)
        obtain ⟨_,_,ev,hints,_⟩:=hI2.out.1.own.form
        injection ev with ev1 _ ev3
        subst ev1 ev3
        have QR2:=Lib.hid (renumber_z V U vc (by have:=HUl.out;omega) _ _ _ x.cap wr rfl (by omega) hat.2.2 hints)
        have hR3:=HP5.out.lt
        have HGb:=Lib.hid (show g < w5.heap.size from by have:=(own_lt HR5.out.row g rfl).2;exact this)
        have HX:=Lib.hid hx
        clear hx hno hrow hcell hat hints hnn e1 e2 e3 e4 hg1
        go_wp2_with (go_at_call 37;(with_reducible refine QR2.out.mono ?_);rintro e w6 ⟨A2,c2,k2,rfl,hb6,hst,hl6,hbl6,hnil⟩;have c6:=HCell.out _ hb6;have f6:=HFz.out g rfl _ hb6 (j2*3+2);have HB6:=Lib.hid hb6;have HK6:=Lib.hid (And.intro hst (And.intro hl6 (And.intro hbl6 hnil)));clear hb6 hst hl6 hbl6 hnil)
        have HNx:=Lib.hid (show QuZ A c l w w3 w5.heap.size j z' ns' a gs (some ⟨g,0,none⟩) gc V vc U (j2+1) (done++[⟨x.op,x.name,A2,c2,k2⟩]) (w6.setCell ⟨g,j2*3+2,none⟩ (.slice A2 k2.length c2)) from by
         have hI:=hI2.out.1
         have hlt2:=hlt
         obtain ⟨hst,hl6,hbl6,hnil⟩:=HK6.out
         have hx:=HX.out
         have htop:=hI.top
         have hs6:=HB6.out.size
         have hrow:=num_stepG hI.row hI.num.len hlt2 (fun k hk=>by have:=hI.zT k hk;omega) HB6.out hl6 hbl6
         rw [hx] at hrow
         have hnum:=hI.num.next (A2:=A2) (c2:=c2) (k2:=k2) (m:=wr.heap.size) hlt2 (by rw [hx];exact hst) htop (fun b hb=>(hbl6 b hb).1)
         rw [hx] at hnum
         have hzg:=hI.row.zap g rfl
         have hlo:=(own_lt hI.row.row g rfl).1
         refine ⟨(Below.after hI.bel HB6.out (by omega)).setCell (by show w.heap.size≤g;omega) _,(hI.p.below HB6.out).store (p:=⟨g,j2*3+2,none⟩) (by show w3.heap.size < g;omega) hzg _,hrow,?_,by simpa [World.setCell] using Nat.le_trans htop hs6,hnum,hI.zT⟩
         exact ownsRow_setCell_below (hI.own.below HB6.out) (HGb.out) _)
        go_roundg (gk - 1)
        case measure=>have:=hI2.out.2;omega
        case rel=>exact ⟨j2+1,_,by omega,by go_num,Lib.hid ⟨HNx.out,by have:=hI2.out.2;omega⟩⟩
       ·obtain rfl:j2=gs.length:=by omega
        have HQ:=Lib.hid hI2.out.1
        have HIn:=Lib.hid (query_in HF4.out)
        have HUe:=HU
        rw [HU.out] at HIn
        clear hI2 hj2 hlt
        obtain ⟨wq,hwq⟩:∃wo,wo=wr:=⟨_,rfl⟩
        subst hwq
        obtain ⟨kq,hkq⟩:∃ko,ko=gk:=⟨_,rfl⟩
        subst hkq
        have hU8:U.length≤9223372036854775807:=by have:=HUl.out;omega
        obtain ⟨i0,hi,hz0,hz1,hz2⟩:=info_parts string_info
        go_wp2_with fail
        go_loopg [3,15] U.length (fun gk v i wr=>∃(j3:Nat) (zA:Option Addr) (zc:Nat),j3≤U.length∧i=.int .i64 (j3:Int)∧v=.slice zA j3 zc∧Hid (Below wq.heap.size wq wr∧wr.ownsRow wq.heap.size 9 1 (.slice zA j3 zc) j3 (nmC (namesT ns' (U.take j3)))∧U.length - j3≤gk))
        case atStart=>exact ⟨0,none,0,Nat.zero_le _,rfl,rfl,Lib.hid ⟨Below.refl _ _,World.ownsRow_nil _ _ _ _,Nat.le_refl _⟩⟩
        case round =>
         obtain ⟨j3,zA,zc,hj3,rfl,rfl,hI3⟩:=hrel
         obtain ⟨wo,hwo⟩:∃wo,wo=wr:=⟨_,rfl⟩
         subst hwo
         have HB6:=Lib.hid hI3.out.1
         have HO6:=Lib.hid hI3.out.2.1
         have HGk:=Lib.hid hI3.out.2.2
         clear hI3
         by_cases hlt:j3 < U.length
         ·have hltI:(j3:Int) < (U.length:Int):=by omega
          have HP6:=Lib.hid (HQ.out.p.below HB6.out)
          obtain ⟨xq,hxq,hxl⟩:=HIn.out j3 hlt
          obtain ⟨zg,zcap,hze,hz1',hz2',hzc⟩:=HP6.out.nameAt hxl
          have l2:=HP6.out.l2
          obtain ⟨_,_,ev,hints,_⟩:=(HQ.out.own.below HB6.out).form
          injection ev with ev1 _ ev3
          subst ev1 ev3
          obtain ⟨vb,vo,hV,hvc⟩:=hints.get hlt
          rw [hxq] at hvc
          subst hV
          rw [hze] at l2
          have HNx:=Lib.hid (namesT_next ns' hlt)
          rw [hxq] at HNx
          have hns8:ns'.length≤9223372036854775807:=by unfold maxLen at hz2';omega
          have hxI:(xq:Int) < (ns'.length:Int):=by omega
          have l2x:∀o,(wo.alloc o).cell? ⟨w3.heap.size,2,none⟩=_:=fun o=>(World.cell?_alloc_lt _ _ _ (World.block_lt_of_cell? _ _ l2)).trans l2
          have hvcx:∀o,(wo.alloc o).cell? ⟨vb,vo+j3,none⟩=_:=fun o=>(World.cell?_alloc_lt _ _ _ (World.block_lt_of_cell? _ _ hvc)).trans hvc
          have hzcx:∀o,(wo.alloc o).cell? ⟨zg,xq,none⟩=_:=fun o=>(World.cell?_alloc_lt _ _ _ (World.block_lt_of_cell? _ _ hzc)).trans hzc
          obtain ⟨xs,hxs⟩:∃xs,ns'.getD xq []=xs:=⟨_,rfl⟩
          rw [show (((xq:Int).toNat))=xq from Int.toNat_natCast xq,hxs] at HNx
          rw [hxs] at hzc hzcx
          have hj8:j3 < 100000:=by have:=HUl.out;omega
          clear hints hxs hxq hz1' hz2'
          go_wp2_with fail
          go_region_law (first
           | (refine step_append_lies _ (by rfl) _ _ _ (by rfl) wq.heap.size 9 i0 _ 1 16 Tryz.underlying39 hi hz0 hz1 hz2 rfl (by omega) (.slice zA j3 zc) j3 (nmC (namesT ns' (U.take j3))) (by rfl) (World.ownsRow.alloc HO6.out _) ⟨wo.heap.size,0,none⟩ 1 1 [.string (S xs)] (by rfl) (by rfl) (World.news_of_block (cs:=#[.string (S xs)]) (t:=9) (fr:=(0,0)) (by exact heap_alloc_new wo (.cells #[.string (S xs)] 9))) (by simp [Value.oneCell']) (by omega) (by unfold maxLen;omega) (by omega) (by have:=HB6.out.size;simp;omega) (wo.heap.size+1) (by simp) ?_;intro g cap w7 hown hgrow hat hgl)
           | (refine step_append_lies _ (by rfl) _ _ _ (by rfl) wq.heap.size 9 i0 _ 1 16 Tryz.underlying39 hi hz0 hz1 hz2 rfl (by omega) (.slice zA j3 zc) j3 (nmC (namesT ns' (U.take j3))) (by rfl) (World.ownsRow.alloc HO6.out _).drew ⟨wo.heap.size,0,none⟩ 1 1 [.string (S xs)] (by rfl) (by rfl) (World.news_of_block (cs:=#[.string (S xs)]) (t:=9) (fr:=(0,0)) (by exact heap_alloc_new wo (.cells #[.string (S xs)] 9))) (by simp [Value.oneCell']) (by omega) (by unfold maxLen;omega) (by omega) (by have:=HB6.out.size;simp;omega) (wo.heap.size+1) (by simp) ?_;intro g cap w7 hown hgrow hat hgl))
          all_goals
           have HB7:=Lib.hid (show Below wq.heap.size wq w7 by first|exact names_step HB6.out HO6.out (undrew_gr hgrow)|exact names_step HB6.out HO6.out hgrow)
           have HO7:=Lib.hid (show w7.ownsRow wq.heap.size 9 1 (.slice (some ⟨g,0,none⟩) (j3+1) cap) (j3+1) (nmC (namesT ns' (U.take (j3+1)))) by rw [HNx.out,nmC_append];exact hown)
           clear hown hgrow hat hgl
           go_wp2_with fail
           go_roundg (gk - 1)
           case measure=>have:=HGk.out;omega
           case rel=>exact ⟨j3+1,some ⟨g,0,none⟩,cap,by omega,by go_num,rfl,Lib.hid ⟨HB7.out,HO7.out,by have:=HGk.out;omega⟩⟩
         ·obtain rfl:j3=U.length:=by omega
          have HD:=HQ.out.num.p
          have HR6:=Lib.hid (HQ.out.row.below HB6.out)
          go_wp2_with fail
          refine bodyPost_ret (v:=.tuple #[.slice gA gs.length gc,.slice zA U.length zc,.int .i64 0,.int .i64 0]) (by simp [results,Tryz.results17,go_sem]) rfl ?_
          rw [List.take_length] at HO6
          refine ⟨gA,zA,gs.length,gc,U.length,zc,0,0,rfl,Below.after HQ.out.bel HB6.out HQ.out.bel.size,.inl ⟨rfl,rfl,(done.map sG,namesT ns' U),?_,done,namesT ns' U,gA,zA,gs.length,gc,U.length,zc,rfl,rfl,?_,?_⟩⟩
          ·rw [whole_ok HW.out,← HU.out,query_read HF4.out (by rw [HU.out];exact HD),onlyS,if_pos (by rw [left_cons HP4.out.ilt,HTk.out];rfl)]
          ·have hr:=HR6.out
           rw [show gs.drop gs.length=[] from List.drop_length,List.append_nil] at hr
           exact (hr.frame (z':=Z0) (Nat.le_refl _) (fun _ _ _ _=>rfl) (fun b hb=>absurd hb (Z0_own b))).low (by omega)
          ·rw [namesT_len]
           exact HO6.out.mono HQ.out.bel.size
   ·have hkb:(k != 0)=true:=bne_iff_ne.2 hk
    have HKn:=Lib.hid hk
    have QF:=Lib.hid (fun W (hW:Pr W w3.heap.size A c l j z' ns' a 0)=>r_fail_at hW q 16)
    have HZO:=Lib.hid HP4.out.apart
    clear hk
    go_wp2_with (first
     | (go_at_call 27;(with_reducible refine (QT.out _ HP5.out).mono ?_);rintro en w6 ⟨rfl,hb6⟩;have HB6:=Lib.hid (Below.after HB5.out hb6 (by omega));have hs6:=Nat.le_trans hs5 hb6.size;have HP6:=Lib.hid (HP5.out.below hb6);clear hb6)
     | (go_at_call 27;(with_reducible refine (QT.out _ HP4.out).mono ?_);rintro en w5 ⟨rfl,hb5⟩;have HB5:=Lib.hid (Below.after HB4.out hb5 (by omega));have hs5:w3.heap.size+1≤w5.heap.size:=Nat.le_trans hs34 hb5.size;have HP5:=Lib.hid (HP4.out.below hb5);clear hb5)
     | (go_at_call 31;(with_reducible refine (QF.out _ HP6.out).mono ?_);rintro en w7 ⟨rfl,hk7,hp7⟩;have HB7:=Lib.hid (hk7.belz HB6.out (by omega) (by omega) (fun k hk=>by have:=(HZO.out k hk).1;omega));have l3:=hp7.l3;have l4:=hp7.l4;clear hk7 hp7))
    go_region
    all_goals
     go_wp2_with fail
     refine bodyPost_ret (v:=.tuple #[.slice none 0 0,.slice none 0 0,.int .i64 (q:Int),.int .i64 16]) (by simp [results,Tryz.results17,go_sem]) rfl ?_
     refine ⟨none,none,0,0,0,0,q,16,rfl,?_,.inr ⟨by decide,rfl,rfl,rfl,rfl,rfl,rfl,?_⟩⟩
     ·first|(with_reducible refine Below.drew ?_;exact HB7.out)|exact HB7.out
     ·rw [whole_ok HW.out]
      have hne:¬((leftT l j).headD (0,[],false)).1=0:=by
       rw [left_cons HP4.out.ilt,HTk.out]
       exact HKn.out
      simp only [quS,HF4.out,onlyS,if_neg hne,off_here HP4.out.ilt,HTk.out]
  ·have hs34:w3.heap.size+1≤w4.heap.size:=by have:=hk4.size;simpa using this
   have HB4:=Lib.hid (hk4.bel (HB3.out.alloc (by omega) _) (by omega) (by simp;omega))
   have l3:=hp4.l3
   have l4:=hp4.l4
   have HNe:=Lib.hid hne
   have HF4:=Lib.hid hf4
   obtain ⟨po,hpo⟩:∃po,offT l nn=po:=⟨_,rfl⟩
   rw [hpo] at l3
   have HPo:=Lib.hid hpo
   clear hk4 hp4 hne hf4 hpo
   go_wp2_with fail
   go_region
   all_goals
    go_wp2_with fail
    refine bodyPost_ret (v:=.tuple #[.slice none 0 0,.slice none 0 0,.int .i64 (po:Int),.int .i64 er]) (by simp [results,Tryz.results17,go_sem]) rfl ?_
    refine ⟨none,none,0,0,0,0,po,er,rfl,?_,.inr ⟨HNe.out,rfl,rfl,rfl,rfl,rfl,rfl,?_⟩⟩
    ·first|(with_reducible refine Below.drew ?_;exact HB4.out)|exact HB4.out
    ·rw [whole_ok HW.out]
     simp only [quS,HF4.out,onlyS,HPo.out]
 ·have HE:=Lib.hid he
  have hne:(e != 0)=true:=bne_iff_ne.2 he
  clear he
  go_enter Tryz.func17,Tryz.ntmps17
  go_wp2_with fail
  refine (QS.out _).mono ?_
  rintro en w3 ⟨A,c,rfl,_,hb3⟩
  have HB3:=Lib.hid hb3
  clear hb3
  go_wp2_with fail
  refine bodyPost_ret (v:=.tuple #[.slice none 0 0,.slice none 0 0,.int .i64 (p:Int),.int .i64 e]) (by simp [results,Tryz.results17,go_sem]) rfl ?_
  exact ⟨none,none,0,0,0,0,p,e,rfl,HB3.out,.inr ⟨HE.out,rfl,rfl,rfl,rfl,rfl,rfl,whole_err HW.out HE.out⟩⟩
end
end Go.Proofs.YtaojnljppcnhjaaGreatDoor
namespace Go.Proofs.YtaojnljppcnhjaaGreatDoor
open Go.RowKit
def elNm:Elt (List UInt8):=⟨1,fun x=>[.string (S x)],fun _=>rfl,fun x v hv=>by
 simp only [List.mem_cons,List.not_mem_nil,or_false] at hv
 rcases hv with rfl
 rfl,fun _=>[],fun _ _=>True,fun h _=>h⟩
theorem nm_cells (ns:List (List UInt8)):elNm.cellsL ns=nmC ns:=by
 induction ns with
 | nil=>rfl
 | cons a r ih =>
  simp only [Elt.cellsL,nmC,List.flatMap_cons,List.map_cons] at ih ⊢
  rw [ih]
  rfl
theorem nm_blk (ns:List (List UInt8)):elNm.blkL ns=[]:=by
 rw [Elt.blkL,List.flatMap_eq_nil_iff]
 exact fun _ _=>rfl
section
variable {α:Type}
structure RdB (E:Elt α) (w:World) (B:Option Addr) (xs:List α):Prop where
 rd:RdL E w B xs
 bd:∀b∈blkR E B xs,b < w.heap.size
variable {E:Elt α} {w w':World} {B:Option Addr} {xs:List α} {T:TypeId} {lo n c:Nat}
theorem RdB.below (h:RdB E w B xs) (hb:Below w.heap.size w w'):RdB E w' B xs:=⟨h.rd.frame fun b hx=>hb.block b (h.bd b hx),fun b hx=>Nat.lt_of_lt_of_le (h.bd b hx) hb.size⟩
theorem RdB.nil (E:Elt α) (w:World):RdB E w none []:=⟨⟨fun _ h=>(by cases h),fun h=>(by simp at h)⟩,fun b h=>(by simp [blkR,blkA,Elt.blkL] at h)⟩
theorem RdB.get [Inhabited α] (h:RdB E w B xs) {i:Nat} (hi:i < xs.length):∃g,B=some ⟨g,0,none⟩∧E.At w (xs.getD i default)∧∀j u,(E.cells (xs.getD i default))[j]?=some u→w.cell? ⟨g,i*E.k+j,none⟩=some u:=by
 obtain ⟨g,e,hr⟩:=h.rd.row (by omega)
 refine ⟨g,e,h.rd.at_ _ (getD_in hi),fun j u hu=>hr _ _ ?_⟩
 have hj:j < E.k:=by
  have:=(List.getElem?_eq_some_iff.1 hu).1
  rwa [E.len] at this
 rw [E.cellsL_get xs hi hj]
 exact hu
theorem RdB.elt (h:RdB E w B xs) {x:α} (hx:x∈xs):∀b∈E.blk x,b < w.heap.size:=fun b hb=>h.bd b (List.mem_append.2 (.inr (List.mem_flatMap.2 ⟨x,hx,hb⟩)))
theorem own_rd (h:w.ownsRow lo T E.k (.slice B n c) xs.length (E.cellsL xs)) (hat:∀x∈xs,E.At w x) (hbd:∀b∈E.blkL xs,b < w.heap.size):n=xs.length∧n≤maxLen∧RdB E w B xs:=by
 rcases h.2 with ⟨e,h1⟩|⟨g,cap,cur,e,hb,hg,hle,hcap,hcs,hcur⟩
 ·injection e with e1 e2 e3
  subst e1 e2
  exact ⟨h1.symm,by unfold maxLen;omega,⟨hat,fun h0=>by omega⟩,fun b hx=>by
   rcases List.mem_append.1 hx with hx|hx
   ·simp [blkA,blkO] at hx
   ·exact hbd b hx⟩
 ·injection e with e1 e2 e3
  subst e1 e2 e3
  have hlt:=own_lt h g rfl
  refine ⟨rfl,by omega,⟨hat,fun _=>⟨g,rfl,fun j u hu=>?_⟩⟩,fun b hx=>?_⟩
  ·have hj:j < (E.cellsL xs).length:=(List.getElem?_eq_some_iff.1 hu).1
   rw [Elt.cellsL_len] at hj
   rw [World.ownsRow.cellAt h j hj]
   exact hu
  ·rcases List.mem_append.1 hx with hx|hx
   ·have e:b=g:=by
     unfold blkA at hx
     split at hx
     ·cases hx
     ·simpa [blkO] using hx
    subst e
    exact hlt.2
   ·exact hbd b hx
theorem RowG.rdb (h:RowG E T lo w (.slice B n c) xs):n=xs.length∧n≤maxLen∧RdB E w B xs:=own_rd h.row h.sit.at_ fun b hb=>(h.sit.bd b hb).2
theorem RowZ.rdb {z:Value} (h:RowZ E T lo z w (.slice B n c) xs):n=xs.length∧n≤maxLen∧RdB E w B xs:=own_rd h.row h.sit.at_ fun b hb=>(h.sit.bd b hb).2
end
structure RuB (w:World) (u:Ru):Prop where
 t:u.t.length≤16384
 k:RdB elAm w u.kA u.ks
 r:RdB elAm w u.rA u.rs
 g:RdB elGl w u.gA u.gs
 b:RdB elGl w u.bA u.bs
theorem RuB.below {w w':World} {u:Ru} (h:RuB w u) (hb:Below w.heap.size w w'):RuB w' u:=⟨h.t,h.k.below hb,h.r.below hb,h.g.below hb,h.b.below hb⟩
theorem ru_at {w:World} {u:Ru} (h:elRu.At w u) (hb:∀b∈elRu.blk u,b < w.heap.size):RuB w u :=
 ⟨h.1,⟨h.2.1.1,fun b hx=>hb b (List.mem_append.2 (.inl (List.mem_append.2 (.inl hx))))⟩,⟨h.2.1.2,fun b hx=>hb b (List.mem_append.2 (.inl (List.mem_append.2 (.inr hx))))⟩,
  ⟨h.2.2.1,fun b hx=>hb b (List.mem_append.2 (.inr (List.mem_append.2 (.inl hx))))⟩,⟨h.2.2.2,fun b hx=>hb b (List.mem_append.2 (.inr (List.mem_append.2 (.inr hx))))⟩⟩
theorem ru_of_at {lo:Nat} {w:World} {u:Ru} (h:u.At lo w):elRu.At w u∧∀b∈elRu.blk u,b < w.heap.size:=by
 have hk:=(show RowG elAm 92 lo w (.slice u.kA u.ks.length u.kc) u.ks from h.k).rdb.2.2
 have hr:=(show RowG elAm 92 lo w (.slice u.rA u.rs.length u.rc) u.rs from h.r).rdb.2.2
 have hg:=(show RowG elGl 54 lo w (.slice u.gA u.gs.length u.gc) u.gs from h.g).rdb.2.2
 have hb:=(show RowG elGl 54 lo w (.slice u.bA u.bs.length u.bc) u.bs from h.b).rdb.2.2
 refine ⟨⟨h.name,⟨hk.rd,hr.rd⟩,⟨hg.rd,hb.rd⟩⟩,fun b hx=>?_⟩
 rcases List.mem_append.1 hx with hx|hx<;>rcases List.mem_append.1 hx with hx|hx
 ·exact hk.bd b hx
 ·exact hr.bd b hx
 ·exact hg.bd b hx
 ·exact hb.bd b hx
def RdP (w:World) (V:Array Value) (x:List Dl×List Rs):Prop:=∃(ds:List Dl) (rz:List Ru) (dA rA:Option Addr) (dc rc:Nat),V=#[.slice dA ds.length dc,.slice rA rz.length rc]∧x=(ds,rz.map Ru.p)∧RdB elDl w dA ds∧RdB elRu w rA rz
def RdR (w:World) (V:Array Value) (x:Rs):Prop:=∃u:Ru,V=u.cells.toArray∧x=u.p∧RuB w u
def RdQ (w:World) (V:Array Value) (x:List Gs×List (List UInt8)):Prop:=∃(gs:List Gl) (ns:List (List UInt8)) (gA zA:Option Addr) (gc zc:Nat),V=#[.slice gA gs.length gc,.slice zA ns.length zc]∧x=(gs.map sG,ns)∧ns.length≤maxLen∧RdB elGl w gA gs∧RdB elNm w zA ns
section
variable {w w':World} {V:Array Value}
theorem RdP.below {x:List Dl×List Rs} (h:RdP w V x) (hb:Below w.heap.size w w'):RdP w' V x:=by
 obtain ⟨ds,rz,dA,rA,dc,rc,e1,e2,h1,h2⟩:=h
 exact ⟨ds,rz,dA,rA,dc,rc,e1,e2,h1.below hb,h2.below hb⟩
theorem RdR.below {x:Rs} (h:RdR w V x) (hb:Below w.heap.size w w'):RdR w' V x:=by
 obtain ⟨u,e1,e2,h1⟩:=h
 exact ⟨u,e1,e2,h1.below hb⟩
theorem RdQ.below {x:List Gs×List (List UInt8)} (h:RdQ w V x) (hb:Below w.heap.size w w'):RdQ w' V x:=by
 obtain ⟨gs,ns,gA,zA,gc,zc,e1,e2,h0,h1,h2⟩:=h
 exact ⟨gs,ns,gA,zA,gc,zc,e1,e2,h0,h1.below hb,h2.below hb⟩
variable {lo:Nat}
theorem MemP.rd {x:List Dl×List Rs} (h:MemP lo w V x):RdP w V x:=by
 obtain ⟨ds,rz,dA,rA,dn,dc,rn,rc,e1,e2,hd,hr⟩:=h
 obtain ⟨a1,_,a2⟩:=hd.rdb
 have hrow:w.ownsRow lo 35 elRu.k (.slice rA rn rc) rz.length (elRu.cellsL rz):=hr.row
 obtain ⟨b1,_,b2⟩:=own_rd hrow (fun x hx=>(ru_of_at (hr.at_ x hx)).1) fun b hb=>by
  obtain ⟨x,hx,hb⟩:=List.mem_flatMap.1 hb
  exact (ru_of_at (hr.at_ x hx)).2 b hb
 subst a1 b1
 exact ⟨ds,rz,dA,rA,dc,rc,e1,e2,a2,b2⟩
theorem MemPz.rd {x:List Dl×List Rs} (h:MemPz lo w V x):RdP w V x:=by
 obtain ⟨ds,rz,dA,rA,dn,dc,rn,rc,e1,e2,hd,hr⟩:=h
 obtain ⟨a1,_,a2⟩:=hd.rdb
 obtain ⟨b1,_,b2⟩:=hr.rdb
 subst a1 b1
 exact ⟨ds,rz,dA,rA,dc,rc,e1,e2,a2,b2⟩
theorem MemR.rd {x:Rs} (h:MemR lo w V x):RdR w V x:=by
 obtain ⟨t,ks,rs,gs,bs,kA,rA,gA,bA,kn,kc,rn,rc,gn,gc,bn,bc,n,e1,e2,hm⟩:=h
 obtain ⟨a1,a2,a3,a4,ha⟩:=ru_of (n:=n) hm
 subst a1 a2 a3 a4
 obtain ⟨h1,h2⟩:=ru_of_at ha
 exact ⟨⟨t,ks,rs,gs,bs,kA,kc,rA,rc,gA,gc,bA,bc,n⟩,e1,e2,ru_at h1 h2⟩
theorem MemRz.rd {x:Rs} (h:MemRz lo w V x):RdR w V x:=by
 obtain ⟨u,e1,e2,hm⟩:=h
 exact ⟨u,e1,e2,ru_at (hm.at_ u (List.mem_singleton.2 rfl)) fun b hb=>(hm.bd b (by rw [Elt.blkL_one];exact hb)).2⟩
theorem nm_rd {zA:Option Addr} {zn zc:Nat} {ns:List (List UInt8)} (h:w.ownsRow lo 9 1 (.slice zA zn zc) ns.length (nmC ns)):zn=ns.length∧zn≤maxLen∧RdB elNm w zA ns :=
 own_rd (E:=elNm) (by rw [nm_cells];exact h) (fun _ _=>trivial) fun b hb=>by rw [nm_blk] at hb;cases hb
theorem MemQ.rd {x:List Gs×List (List UInt8)} (h:MemQ lo w V x):RdQ w V x:=by
 obtain ⟨gs,ns,gA,zA,gn,gc,zn,zc,e1,e2,hg,hz⟩:=h
 obtain ⟨a1,_,a2⟩:=hg.rdb
 obtain ⟨b1,b3,b2⟩:=nm_rd hz
 subst a1 b1
 exact ⟨gs,ns,gA,zA,gc,zc,e1,e2,b3,a2,b2⟩
theorem MemQz.rd {x:List Gs×List (List UInt8)} (h:MemQz lo w V x):RdQ w V x:=by
 obtain ⟨gs,ns,gA,zA,gn,gc,zn,zc,e1,e2,hg,hz⟩:=h
 obtain ⟨a1,_,a2⟩:=hg.rdb
 obtain ⟨b1,b3,b2⟩:=nm_rd hz
 subst a1 b1
 exact ⟨gs,ns,gA,zA,gc,zc,e1,e2,b3,a2,b2⟩
end
theorem whole_read {α:Type} {f:List Tok→PS α} {s:ByteArray} {x:α} (h:wholeS f s=.ok x):∃r ns,f (leftT (scanP s).1 0)=.ok x r ns:=by
 unfold wholeS at h
 split at h
 ·cases h
 ·split at h
  ·rename_i v r ns hv
   injection h with h
   subst h
   unfold onlyS at hv
   split at hv
   ·rename_i v2 r2 ns2 hf
    split at hv
    ·injection hv with h1 h2 h3
     subst h1
     exact ⟨_,_,hf⟩
    ·cases hv
   ·cases hv
  ·cases h
theorem whole_P_ok {F:Nat} {s:ByteArray} {x:List Dl×List Rs} (h:wholeS (programS (exprS F)) s=.ok x):x.1.length≤30∧x.2.length≤40∧∀q∈x.2,RuleOk q:=by
 obtain ⟨r,ns,h⟩:=whole_read h
 exact program_ok (d:=x.1) (l:=x.2) h
theorem whole_R_ok {F:Nat} {s:ByteArray} {x:Rs} (h:wholeS (ruleS (exprS F)) s=.ok x):RuleOk x:=by
 obtain ⟨r,ns,h⟩:=whole_read h
 exact rule_ok h
theorem whole_Q_ok {F:Nat} {s:ByteArray} {x:List Gs×List (List UInt8)} (h:wholeS (quS (exprS F)) s=.ok x):x.1.length≤40:=by
 obtain ⟨r,ns,h⟩:=whole_read h
 unfold quS at h
 split at h
 ·rename_i l r2 ns2 hg
  injection h with h1 _ _
  subst h1
  have:=(goals_facts 40 _ _ (Nat.le_refl _) _ _ _ _ _ hg AllG.nil).2.1
  simpa using this
 ·cases h
end Go.Proofs.YtaojnljppcnhjaaGreatDoor
