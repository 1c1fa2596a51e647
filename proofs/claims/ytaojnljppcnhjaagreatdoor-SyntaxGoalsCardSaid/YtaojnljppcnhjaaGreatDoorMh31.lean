/-
  LwSame.
  LwSame2.
  LwExP.
 LwEx.
-/
import Derived.Test.YtaojnljppcnhjaaGreatDoorMh30
import Derived.BigQuiet
import Derived.Lib.QuietBelow
import Derived.Deep.QuietTactic
import Derived.BigRegion
namespace Go.Proofs.YtaojnljppcnhjaaGreatDoor
open Go.RowKit Go.Sort
theorem stripL_get {l m:List Tm} (h:stripL l=stripL m) (i:Nat):(l.getD i default).strip=(m.getD i default).strip:=by
 rw [stripL_map,stripL_map] at h
 have e:∀x:List Tm,(x.getD i default).strip=(x.map Tm.strip).getD i default:=fun x=>by
  rw [List.getD_eq_getElem?_getD,List.getD_eq_getElem?_getD,List.getElem?_map]
  cases x[i]?<;>rfl
 rw [e,e,h]
theorem box88 {w w':World} {v0 v1 v2 v3 u0 u1 u2 u3:Value} {T:TypeId}
  (hb:Below ((w.alloc (.cells #[v0,v1,v2,v3] T)).alloc (.cells #[u0,u1,u2,u3] T)).heap.size ((w.alloc (.cells #[v0,v1,v2,v3] T)).alloc (.cells #[u0,u1,u2,u3] T)) w') :
  (w'.cell? ⟨w.heap.size,0,none⟩=some v0∧w'.cell? ⟨w.heap.size,1,none⟩=some v1∧w'.cell? ⟨w.heap.size,2,none⟩=some v2∧w'.cell? ⟨w.heap.size,3,none⟩=some v3) ∧
  (w'.cell? ⟨w.heap.size+1,0,none⟩=some u0∧w'.cell? ⟨w.heap.size+1,1,none⟩=some u1∧w'.cell? ⟨w.heap.size+1,2,none⟩=some u2∧w'.cell? ⟨w.heap.size+1,3,none⟩=some u3)∧Below w.heap.size w w':=by
 have hz:(w.alloc (.cells #[v0,v1,v2,v3] T)).heap.size=w.heap.size+1:=by simp
 have h:∀j,w'.cell? ⟨w.heap.size,j,none⟩=(#[v0,v1,v2,v3]:Array Value)[j]?:=fun j=>by
  rw [hb.cell (p:=⟨w.heap.size,j,none⟩) (by simp;omega),World.cell?_alloc_lt _ _ _ (by simp),World.cell?_alloc_at _ _ _ _ rfl]
 have g:∀j,w'.cell? ⟨w.heap.size+1,j,none⟩=(#[u0,u1,u2,u3]:Array Value)[j]?:=fun j=>by
  rw [hb.cell (p:=⟨w.heap.size+1,j,none⟩) (by simp),World.cell?_alloc_at _ _ _ _ hz.symm]
 exact ⟨⟨h 0,h 1,h 2,h 3⟩,⟨g 0,g 1,g 2,g 3⟩,(((Below.refl _ _).alloc (Nat.le_refl _) _).alloc (by simp) _).trans (hb.mono (by simp;omega))⟩
set_option maxHeartbeats 4000000 in
theorem same4_at (t:Tm):∀(u:Tm) (w:World),t.strip=u.strip→t.At w→u.At w →
  Calls Tryz.prog 64 #[t.val,u.val] w fun e w'=>e=.returned (.bool true)∧Below w.heap.size w w':=by
 induction t using Tm.induct with
 | h k n s A c a ih =>
  intro u w hs ht hu
  obtain ⟨k',n',s',A',c',a'⟩:=u
  obtain ⟨h1,h2,h3,h4,h5⟩:=strip_parts hs
  simp only [Tm.kind,Tm.num,Tm.name,Tm.args] at h1 h2 h3 h4 h5
  subst h1 h2 h3
  have hl:Lst w A a c:=ht.lst
  have hm:Lst w A' a' c':=hu.lst
  have hlen:a.length≤9223372036854775807:=by have:=hl.1;have:=hl.2.1;unfold maxLen at *;omega
  have H5:=Lib.hid h5
  have H4:=Lib.hid h4
  have HL:=Lib.hid hl
  have HM:=Lib.hid hm
  have QI:=Lib.hid ih
  show Calls Tryz.prog 64 #[.agg #[.int .i64 k,.int .i64 n,.string s,.slice A a.length c],.agg #[.int .i64 k,.int .i64 n,.string s,.slice A' a'.length c']] w _
  rw [←h4]
  clear hs ht hu hl hm ih h4 h5
  go_enter Tryz.func64,Tryz.ntmps64
  go_wp2_with fail
  go_loopw [37] (fun i wr=>∃j:Nat,j≤a.length∧i=.int .i64 j∧Below ((w.alloc (.cells #[.int .i64 k,.int .i64 n,.string s,.slice A a.length c] 56)).alloc (.cells #[.int .i64 k,.int .i64 n,.string s,.slice A' a.length c'] 56)).heap.size ((w.alloc (.cells #[.int .i64 k,.int .i64 n,.string s,.slice A a.length c] 56)).alloc (.cells #[.int .i64 k,.int .i64 n,.string s,.slice A' a.length c'] 56)) wr) (fun i _=>a.length - (intOf i).toNat)
  case atStart=>exact ⟨0,Nat.zero_le _,rfl,Below.refl _ _⟩
  case round =>
   obtain ⟨j,hj,rfl,hbb⟩:=hrel
   obtain ⟨⟨_,_,_,d3⟩,⟨_,_,_,e3⟩,hbw⟩:=box88 hbb
   by_cases hlt:j < a.length
   ·have hlt':j < a'.length:=by rw [←H4.out];exact hlt
    obtain ⟨b,o,rfl,⟨c0,c1,c2,c3⟩,hx⟩:=(HL.out.below hbw).get hlt
    obtain ⟨b',o',rfl,⟨g0,g1,g2,g3⟩,hy⟩:=(HM.out.below hbw).get hlt'
    have hmem:=getD_mem hlt
    have hst:=stripL_get H5.out j
    generalize a.getD j default=x at *
    generalize a'.getD j default=y at *
    have Q1:=Lib.hid (fun W (h:Below wr.heap.size wr W)=>QI.out x hmem y W hst (hx.below h) (hy.below h))
    clear hx hy QI hmem hst hlt'
    obtain ⟨k1,n1,s1,A1,p1,a1⟩:=x
    obtain ⟨k2,n2,s2,A2,p2,a2⟩:=y
    simp only [Tm.kind,Tm.num,Tm.name,Tm.at_,Tm.args,Tm.cap] at c0 c1 c2 c3 g0 g1 g2 g3
    have kc0:=cell_regrown c0
    have kc1:=cell_regrown c1
    have kc2:=cell_regrown c2
    have kc3:=cell_regrown c3
    have kg0:=cell_regrown g0
    have kg1:=cell_regrown g1
    have kg2:=cell_regrown g2
    have kg3:=cell_regrown g3
    have kd3:=cell_regrown d3
    have ke3:=cell_regrown e3
    go_wp2_with fail
    refine wp_region_quiet_below (by kernel_rfl) (by kernel_rfl) ?_
    repeat (go_big_quiet_step ((go_at_call 64;exact Calls.regrown_of (Q1.out _ (below_regrown _ _ _)))))
    refine wpQuiet_nil ?_
    intro w1 hw'
    have hb4:=hbb.trans ((regrown_below hw').mono hbb.size)
    clear kc0 kc1 kc2 kc3 kg0 kg1 kg2 kg3 kd3 ke3 hw'
    go_wp2_with fail
    go_roundw
    case rel=>exact ⟨j+1,by omega,by go_num,hb4⟩
    case measure=>simp [intOf];omega
   ·obtain rfl:j=a.length:=by omega
    clear QI
    go_wp2_with fail
    go_ret
    exact ⟨rfl,hbw⟩
set_option maxHeartbeats 4000000 in
theorem lw_terms_at (a a':List Tm) (A A':Option Addr) (c c':Nat) (w:World) (hs:stripL a=stripL a') (hl:Lst w A a c) (hm:Lst w A' a' c') :
  Calls Tryz.prog 38 #[.slice A a.length c,.slice A' a'.length c'] w fun e w'=>e=.returned (.bool true)∧Below w.heap.size w w':=by
 have h4:a.length=a'.length:=by have:=congrArg List.length hs;simpa [stripL_len] using this
 have hlen:a.length≤9223372036854775807:=by have:=hl.1;have:=hl.2.1;unfold maxLen at *;omega
 have H5:=Lib.hid hs
 have H4:=Lib.hid h4
 have HL:=Lib.hid hl
 have HM:=Lib.hid hm
 rw [←h4]
 clear hs hl hm h4
 go_enter Tryz.func38,Tryz.ntmps38
 go_wp2_with fail
 go_loopw [13] (fun i wr=>∃j:Nat,j≤a.length∧i=.int .i64 j∧Below w.heap.size w wr) (fun i _=>a.length - (intOf i).toNat)
 case atStart=>exact ⟨0,Nat.zero_le _,rfl,Below.refl _ _⟩
 case round =>
  obtain ⟨j,hj,rfl,hbw⟩:=hrel
  by_cases hlt:j < a.length
  ·have hlt':j < a'.length:=by rw [←H4.out];exact hlt
   obtain ⟨b,o,rfl,⟨c0,c1,c2,c3⟩,hx⟩:=(HL.out.below hbw).get hlt
   obtain ⟨b',o',rfl,⟨g0,g1,g2,g3⟩,hy⟩:=(HM.out.below hbw).get hlt'
   have hst:=stripL_get H5.out j
   generalize a.getD j default=x at *
   generalize a'.getD j default=y at *
   have Q1:=Lib.hid (fun W (h:Below wr.heap.size wr W)=>same4_at x y W hst (hx.below h) (hy.below h))
   clear hx hy hst hlt'
   obtain ⟨k1,n1,s1,A1,p1,a1⟩:=x
   obtain ⟨k2,n2,s2,A2,p2,a2⟩:=y
   simp only [Tm.kind,Tm.num,Tm.name,Tm.at_,Tm.args,Tm.cap] at c0 c1 c2 c3 g0 g1 g2 g3
   have kc0:=cell_regrown c0
   have kc1:=cell_regrown c1
   have kc2:=cell_regrown c2
   have kc3:=cell_regrown c3
   have kg0:=cell_regrown g0
   have kg1:=cell_regrown g1
   have kg2:=cell_regrown g2
   have kg3:=cell_regrown g3
   go_wp2_with fail
   refine wp_region_quiet_below (by kernel_rfl) (by kernel_rfl) ?_
   repeat (go_big_quiet_step ((go_at_call 64;exact Calls.regrown_of (Q1.out _ (below_regrown _ _ _)))))
   refine wpQuiet_nil ?_
   intro w1 hw'
   have hb4:=hbw.trans ((regrown_below hw').mono hbw.size)
   clear kc0 kc1 kc2 kc3 kg0 kg1 kg2 kg3 hw'
   go_wp2_with fail
   go_roundw
   case rel=>exact ⟨j+1,by omega,by go_num,hb4⟩
   case measure=>simp [intOf];omega
  ·obtain rfl:j=a.length:=by omega
   go_wp2_with fail
   go_ret
   exact ⟨rfl,hbw⟩
theorem atoms_same {l m:List Am} (h:l.map sA=m.map sA) {i:Nat} (hi:i < l.length):sA (l.getD i default)=sA (m.getD i default):=by
 have hm:i < m.length:=by have:=congrArg List.length h;simp at this;omega
 have e:=congrArg (fun x=>x[i]?) h
 simp only [List.getElem?_map,List.getElem?_eq_getElem hi,List.getElem?_eq_getElem hm,Option.map_some,Option.some.injEq] at e
 simpa [List.getD,hi,hm] using e
set_option maxHeartbeats 4000000 in
theorem lw_atoms_at (a a':List Am) (A A':Option Addr) (c c':Nat) (w:World) (hs:a.map sA=a'.map sA) (hlen:a.length≤1000) (hl:RdB elAm w A a) (hm:RdB elAm w A' a') :
  Calls Tryz.prog 32 #[.slice A a.length c,.slice A' a'.length c'] w fun e w'=>e=.returned (.bool true)∧Below w.heap.size w w':=by
 have h4:a.length=a'.length:=by have:=congrArg List.length hs;simpa using this
 have H5:=Lib.hid (fun i (hi:i < a.length)=>atoms_same hs hi)
 have H4:=Lib.hid h4
 have HL:=Lib.hid hl
 have HM:=Lib.hid hm
 rw [←h4]
 clear hs hl hm h4
 go_enter Tryz.func32,Tryz.ntmps32
 go_wp2_with fail
 go_loopw [13] (fun i wr=>∃j:Nat,j≤a.length∧i=.int .i64 j∧Below w.heap.size w wr) (fun i _=>a.length - (intOf i).toNat)
 case atStart=>exact ⟨0,Nat.zero_le _,rfl,Below.refl _ _⟩
 case round =>
  obtain ⟨j,hj,rfl,hbw⟩:=hrel
  by_cases hlt:j < a.length
  ·have hlt':j < a'.length:=by rw [←H4.out];exact hlt
   obtain ⟨g,hA,hx,hc⟩:=(HL.out.below hbw).get hlt
   obtain ⟨g',hA',hy,hg⟩:=(HM.out.below hbw).get hlt'
   subst hA hA'
   have hst:=H5.out j hlt
   have c0:wr.cell? ⟨g,j*2,none⟩=_:=hc 0 _ rfl
   have g0:wr.cell? ⟨g',j*2,none⟩=_:=hg 0 _ rfl
   have c1:wr.cell? ⟨g,j*2+1,none⟩=_:=hc 1 _ rfl
   have g1:wr.cell? ⟨g',j*2+1,none⟩=_:=hg 1 _ rfl
   clear hc hg
   generalize a.getD j default=x at *
   generalize a'.getD j default=y at *
   obtain ⟨s1,A1,p1,a1⟩:=x
   obtain ⟨s2,A2,p2,a2⟩:=y
   obtain ⟨e1,e3⟩:=Prod.mk.inj hst
   simp only at e1 e3
   obtain rfl:s2=s1:=WideShapes.bytes_inj e1.symm
   clear e1
   simp only at c0 g0 c1 g1
   have kc0:=cell_regrown c0
   have kg0:=cell_regrown g0
   have kc1:=cell_regrown c1
   have kg1:=cell_regrown g1
   have hxl:Lst wr A1 a1 p1:=hx.1.2
   have hyl:Lst wr A2 a2 p2:=hy.1.2
   have Q1:=Lib.hid (fun W (h:Below wr.heap.size wr W)=>lw_terms_at a1 a2 A1 A2 p1 p2 W e3 (hxl.below h) (hyl.below h))
   clear hx hy hst hxl hyl hlt' e3
   go_wp2_with fail
   refine wp_region_quiet_below (by kernel_rfl) (by kernel_rfl) ?_
   repeat (go_big_quiet_step ((go_at_call 38;exact Calls.regrown_of (Q1.out _ (below_regrown _ _ _)))))
   refine wpQuiet_nil ?_
   intro w1 hw'
   have hb4:=hbw.trans ((regrown_below hw').mono hbw.size)
   clear kc0 kc1 kg0 kg1 hw'
   go_wp2_with fail
   go_roundw
   case rel=>exact ⟨j+1,by omega,by go_num,hb4⟩
   case measure=>simp [intOf];omega
  ·obtain rfl:j=a.length:=by omega
   go_wp2_with fail
   go_ret
   exact ⟨rfl,hbw⟩
theorem goals_same {l m:List Gl} (h:l.map sG=m.map sG) {i:Nat} (hi:i < l.length):sG (l.getD i default)=sG (m.getD i default):=by
 have hm:i < m.length:=by have:=congrArg List.length h;simp at this;omega
 have e:=congrArg (fun x=>x[i]?) h
 simp only [List.getElem?_map,List.getElem?_eq_getElem hi,List.getElem?_eq_getElem hm,Option.map_some,Option.some.injEq] at e
 simpa [List.getD,hi,hm] using e
set_option maxHeartbeats 4000000 in
theorem lw_goals_at (a a':List Gl) (A A':Option Addr) (c c':Nat) (w:World) (hs:a.map sG=a'.map sG) (hlen:a.length≤1000) (hl:RdB elGl w A a) (hm:RdB elGl w A' a') :
  Calls Tryz.prog 18 #[.slice A a.length c,.slice A' a'.length c'] w fun e w'=>e=.returned (.bool true)∧Below w.heap.size w w':=by
 have h4:a.length=a'.length:=by have:=congrArg List.length hs;simpa using this
 have H5:=Lib.hid (fun i (hi:i < a.length)=>goals_same hs hi)
 have H4:=Lib.hid h4
 have HL:=Lib.hid hl
 have HM:=Lib.hid hm
 rw [←h4]
 clear hs hl hm h4
 go_enter Tryz.func18,Tryz.ntmps18
 go_wp2_with fail
 go_loopw [13] (fun i wr=>∃j:Nat,j≤a.length∧i=.int .i64 j∧Below w.heap.size w wr) (fun i _=>a.length - (intOf i).toNat)
 case atStart=>exact ⟨0,Nat.zero_le _,rfl,Below.refl _ _⟩
 case round =>
  obtain ⟨j,hj,rfl,hbw⟩:=hrel
  by_cases hlt:j < a.length
  ·have hlt':j < a'.length:=by rw [←H4.out];exact hlt
   obtain ⟨g,hA,hx,hc⟩:=(HL.out.below hbw).get hlt
   obtain ⟨g',hA',hy,hg⟩:=(HM.out.below hbw).get hlt'
   subst hA hA'
   have hst:=H5.out j hlt
   have c0:wr.cell? ⟨g,j*3,none⟩=_:=hc 0 _ rfl
   have g0:wr.cell? ⟨g',j*3,none⟩=_:=hg 0 _ rfl
   have c1:wr.cell? ⟨g,j*3+1,none⟩=_:=hc 1 _ rfl
   have g1:wr.cell? ⟨g',j*3+1,none⟩=_:=hg 1 _ rfl
   have c2:wr.cell? ⟨g,j*3+2,none⟩=_:=hc 2 _ rfl
   have g2:wr.cell? ⟨g',j*3+2,none⟩=_:=hg 2 _ rfl
   clear hc hg
   generalize a.getD j default=x at *
   generalize a'.getD j default=y at *
   obtain ⟨o1,s1,A1,p1,a1⟩:=x
   obtain ⟨o2,s2,A2,p2,a2⟩:=y
   obtain ⟨e1,e0⟩:=Prod.mk.inj hst
   obtain ⟨e2,e3⟩:=Prod.mk.inj e0
   simp only at e1 e2 e3
   subst e1
   obtain rfl:s2=s1:=WideShapes.bytes_inj e2.symm
   clear e2 e0
   simp only at c0 g0 c1 g1 c2 g2
   have kc0:=cell_regrown c0
   have kg0:=cell_regrown g0
   have kc1:=cell_regrown c1
   have kg1:=cell_regrown g1
   have kc2:=cell_regrown c2
   have kg2:=cell_regrown g2
   have hxl:Lst wr A1 a1 p1:=hx.2.2
   have hyl:Lst wr A2 a2 p2:=hy.2.2
   have Q1:=Lib.hid (fun W (h:Below wr.heap.size wr W)=>lw_terms_at a1 a2 A1 A2 p1 p2 W e3 (hxl.below h) (hyl.below h))
   clear hx hy hst hxl hyl hlt' e3
   go_wp2_with fail
   refine wp_region_quiet_below (by kernel_rfl) (by kernel_rfl) ?_
   repeat (go_big_quiet_step ((go_at_call 38;exact Calls.regrown_of (Q1.out _ (below_regrown _ _ _)))))
   refine wpQuiet_nil ?_
   intro w1 hw'
   have hb4:=hbw.trans ((regrown_below hw').mono hbw.size)
   clear kc0 kc1 kc2 kg0 kg1 kg2 hw'
   go_wp2_with fail
   go_roundw
   case rel=>exact ⟨j+1,by omega,by go_num,hb4⟩
   case measure=>simp [intOf];omega
  ·obtain rfl:j=a.length:=by omega
   go_wp2_with fail
   go_ret
   exact ⟨rfl,hbw⟩
set_option maxHeartbeats 4000000 in
theorem lw_texts_at (a:List (List UInt8)) (A A':Option Addr) (c c':Nat) (w:World) (hlen:a.length≤maxLen) (hl:RdB elNm w A a) (hm:RdB elNm w A' a) :
  Calls Tryz.prog 19 #[.slice A a.length c,.slice A' a.length c'] w fun e w'=>e=.returned (.bool true)∧Below w.heap.size w w':=by
 have hlen2:a.length≤9223372036854775807:=by unfold maxLen at hlen;omega
 have HL:=Lib.hid hl
 have HM:=Lib.hid hm
 clear hl hm hlen
 go_enter Tryz.func19,Tryz.ntmps19
 go_wp2_with fail
 go_loopw [13] (fun i wr=>∃j:Nat,j≤a.length∧i=.int .i64 j∧Below w.heap.size w wr) (fun i _=>a.length - (intOf i).toNat)
 case atStart=>exact ⟨0,Nat.zero_le _,rfl,Below.refl _ _⟩
 case round =>
  obtain ⟨j,hj,rfl,hbw⟩:=hrel
  by_cases hlt:j < a.length
  ·obtain ⟨g,hA,hx,hc⟩:=(HL.out.below hbw).get hlt
   obtain ⟨g',hA',hy,hg⟩:=(HM.out.below hbw).get hlt
   subst hA hA'
   have c0:wr.cell? ⟨g,j,none⟩=some (.string (S (a.getD j default))):=by have h:=hc 0 _ rfl;rwa [show j*elNm.k+0=j from Nat.mul_one j] at h
   have g0:wr.cell? ⟨g',j,none⟩=some (.string (S (a.getD j default))):=by have h:=hg 0 _ rfl;rwa [show j*elNm.k+0=j from Nat.mul_one j] at h
   clear hc hg hx hy
   generalize a.getD j default=x at *
   have kc0:=cell_regrown c0
   have kg0:=cell_regrown g0
   go_wp2_with fail
   refine wp_region_quiet_below (by kernel_rfl) (by kernel_rfl) ?_
   repeat (go_big_quiet_step (fail))
   refine wpQuiet_nil ?_
   intro w1 hw'
   have hb4:=hbw.trans ((regrown_below hw').mono hbw.size)
   clear kc0 kg0 hw'
   go_wp2_with fail
   go_roundw
   case rel=>exact ⟨j+1,by omega,by go_num,hb4⟩
   case measure=>simp [intOf];omega
  ·obtain rfl:j=a.length:=by omega
   go_wp2_with fail
   go_ret
   exact ⟨rfl,hbw⟩
end Go.Proofs.YtaojnljppcnhjaaGreatDoor
namespace Go.Proofs.YtaojnljppcnhjaaGreatDoor
open Go.RowKit Go.Sort
def RuleLen (q:Rs):Prop:=q.keep.length+q.remove.length≤4∧q.guard.length≤12∧q.body.length≤12
theorem RuleOk.lens {q:Rs} (h:RuleOk q):RuleLen q:=⟨h.heads,h.guards,h.bodies⟩
set_option maxHeartbeats 8000000 in
set_option maxRecDepth 100000 in
theorem lw_rule_at (u v:Ru) (w:World) (hs:u.p=v.p) (hok:RuleLen u.p) (hu:RuB w u) (hv:RuB w v) :
  Calls Tryz.prog 15 #[.agg u.cells.toArray,.agg v.cells.toArray] w fun e w'=>e=.returned (.bool true)∧Below w.heap.size w w':=by
 obtain ⟨t,ks,rs,gs,bs,kA,kc,rA,rc,gA,gc,bA,bc,n⟩:=u
 obtain ⟨t',ks',rs',gs',bs',kA',kc',rA',rc',gA',gc',bA',bc',n'⟩:=v
 obtain ⟨h1,h2,h3⟩:=hok
 simp only [Ru.p,ruP,List.length_map] at hs h1 h2 h3
 obtain ⟨e1,e2,e3,e4,e5,e6⟩:=Rs.mk.inj hs
 subst e1 e6
 have Q1:=Lib.hid (fun W (h:Below w.heap.size w W)=>lw_atoms_at ks ks' kA kA' kc kc' W e2 (by omega) (hu.k.below h) (hv.k.below h))
 have Q2:=Lib.hid (fun W (h:Below w.heap.size w W)=>lw_atoms_at rs rs' rA rA' rc rc' W e3 (by omega) (hu.r.below h) (hv.r.below h))
 have Q3:=Lib.hid (fun W (h:Below w.heap.size w W)=>lw_goals_at gs gs' gA gA' gc gc' W e4 (by omega) (hu.g.below h) (hv.g.below h))
 have Q4:=Lib.hid (fun W (h:Below w.heap.size w W)=>lw_goals_at bs bs' bA bA' bc bc' W e5 (by omega) (hu.b.below h) (hv.b.below h))
 clear hu hv h1 h2 h3 hs e2 e3 e4 e5
 show Calls Tryz.prog 15 #[.agg #[.string (S t),.slice kA ks.length kc,.slice rA rs.length rc,.slice gA gs.length gc,.slice bA bs.length bc,.int .i64 (n:Int)],.agg #[.string (S t),.slice kA' ks'.length kc',.slice rA' rs'.length rc',.slice gA' gs'.length gc',.slice bA' bs'.length bc',.int .i64 (n:Int)]] w _
 have B1:=(BoxL.new w [.string (S t),.slice kA ks.length kc,.slice rA rs.length rc,.slice gA gs.length gc,.slice bA bs.length bc,.int .i64 (n:Int)] 35)
 have HX:=Lib.hid (B1.alloc (.cells #[.string (S t),.slice kA' ks'.length kc',.slice rA' rs'.length rc',.slice gA' gs'.length gc',.slice bA' bs'.length bc',.int .i64 (n:Int)] 35))
 have HY:=Lib.hid (BoxL.new (w.alloc (.cells #[.string (S t),.slice kA ks.length kc,.slice rA rs.length rc,.slice gA gs.length gc,.slice bA bs.length bc,.int .i64 (n:Int)] 35)) [.string (S t),.slice kA' ks'.length kc',.slice rA' rs'.length rc',.slice gA' gs'.length gc',.slice bA' bs'.length bc',.int .i64 (n:Int)] 35)
 have HB:=Lib.hid (((Below.refl w.heap.size w).alloc (Nat.le_refl _) (.cells #[.string (S t),.slice kA ks.length kc,.slice rA rs.length rc,.slice gA gs.length gc,.slice bA bs.length bc,.int .i64 (n:Int)] 35)).alloc (by simp) (.cells #[.string (S t),.slice kA' ks'.length kc',.slice rA' rs'.length rc',.slice gA' gs'.length gc',.slice bA' bs'.length bc',.int .i64 (n:Int)] 35))
 clear B1
 rw [show (w.alloc (.cells #[.string (S t),.slice kA ks.length kc,.slice rA rs.length rc,.slice gA gs.length gc,.slice bA bs.length bc,.int .i64 (n:Int)] 35)).heap.size=w.heap.size+1 by simp] at HY
 obtain ⟨w0,hw0⟩:∃w0,((w.alloc (.cells #[.string (S t),.slice kA ks.length kc,.slice rA rs.length rc,.slice gA gs.length gc,.slice bA bs.length bc,.int .i64 (n:Int)] 35)).alloc (.cells #[.string (S t),.slice kA' ks'.length kc',.slice rA' rs'.length rc',.slice gA' gs'.length gc',.slice bA' bs'.length bc',.int .i64 (n:Int)] 35))=w0:=⟨_,rfl⟩
 have HX:=Lib.hid (show BoxL w0 w.heap.size _ by rw [←hw0];exact HX.out)
 have HY:=Lib.hid (show BoxL w0 (w.heap.size+1) _ by rw [←hw0];exact HY.out)
 have HB:=Lib.hid (show RowKit.Below w.heap.size w w0 by rw [←hw0];exact HB.out)
 go_enter Tryz.func15,Tryz.ntmps15
 obtain ⟨c0,c1,c2,c3,c4,c5,_,_,_,_,_,_⟩:=HX.out.get6
 obtain ⟨d0,d1,d2,d3,d4,d5,_,_,_,_,_,_⟩:=HY.out.get6
 go_wp2_with (first
  | (go_at_call 18;(with_reducible refine (Q4.out _ HB3.out).mono ?_);rintro e w4 ⟨rfl,hb4⟩;have HB4:=Lib.hid (HB3.out.trans (hb4.mono HB3.out.size));obtain ⟨c50,c51,c52,c53,c54,c55,_,_,_,_,_,_⟩:=(HX3.out.below hb4).get6;obtain ⟨d50,d51,d52,d53,d54,d55,_,_,_,_,_,_⟩:=(HY3.out.below hb4).get6;clear hb4)
  | (go_at_call 18;(with_reducible refine (Q3.out _ HB2.out).mono ?_);rintro e w3 ⟨rfl,hb3⟩;have HB3:=Lib.hid (HB2.out.trans (hb3.mono HB2.out.size));have HX3:=Lib.hid (HX2.out.below hb3);have HY3:=Lib.hid (HY2.out.below hb3);obtain ⟨c40,c41,c42,c43,c44,c45,_,_,_,_,_,_⟩:=HX3.out.get6;obtain ⟨d40,d41,d42,d43,d44,d45,_,_,_,_,_,_⟩:=HY3.out.get6;clear hb3)
  | (go_at_call 32;(with_reducible refine (Q2.out _ HB1.out).mono ?_);rintro e w2 ⟨rfl,hb2⟩;have HB2:=Lib.hid (HB1.out.trans (hb2.mono HB1.out.size));have HX2:=Lib.hid (HX1.out.below hb2);have HY2:=Lib.hid (HY1.out.below hb2);obtain ⟨c30,c31,c32,c33,c34,c35,_,_,_,_,_,_⟩:=HX2.out.get6;obtain ⟨d30,d31,d32,d33,d34,d35,_,_,_,_,_,_⟩:=HY2.out.get6;clear hb2)
  | (go_at_call 32;(with_reducible refine (Q1.out _ HB.out).mono ?_);rintro e w1 ⟨rfl,hb1⟩;have HB1:=Lib.hid (HB.out.trans (hb1.mono HB.out.size));have HX1:=Lib.hid (HX.out.below hb1);have HY1:=Lib.hid (HY.out.below hb1);obtain ⟨c20,c21,c22,c23,c24,c25,_,_,_,_,_,_⟩:=HX1.out.get6;obtain ⟨d20,d21,d22,d23,d24,d25,_,_,_,_,_,_⟩:=HY1.out.get6;clear hb1)
  | fail)
 go_ret
 exact ⟨rfl,HB4.out⟩
instance:Inhabited Ru:=⟨⟨[],[],[],[],[],none,0,none,0,none,0,none,0,0⟩⟩
theorem ru_blk_get {w:World} {B:Option Addr} {xs:List Ru} (h:RdB elRu w B xs) {i:Nat} (hi:i < xs.length):RuB w (xs.getD i default) :=
 ru_at (h.rd.at_ _ (getD_in hi)) (h.elt (getD_in hi))
theorem ru_map_get {l m:List Ru} (h:l.map Ru.p=m.map Ru.p) {i:Nat} (hi:i < l.length):(l.getD i default).p=(m.getD i default).p:=by
 have hm:i < m.length:=by have:=congrArg List.length h;simp at this;omega
 have e:=congrArg (fun x=>x[i]?) h
 simp only [List.getElem?_map,List.getElem?_eq_getElem hi,List.getElem?_eq_getElem hm,Option.map_some,Option.some.injEq] at e
 simpa [List.getD,hi,hm] using e
theorem get_two {w:World} {T:Nat} {v0 v1:Value} (h:BoxL w T [v0,v1]):w.cell? ⟨T,0,none⟩=some v0∧w.cell? ⟨T,1,none⟩=some v1:=⟨h.cells 0 _ rfl,h.cells 1 _ rfl⟩
set_option maxHeartbeats 8000000 in
set_option maxRecDepth 100000 in
theorem lw_program_at {V V':Array Value} {x:List Dl×List Rs} (w:World) (hd:x.1.length≤1000) (hr:x.2.length≤1000) (hok:∀q∈x.2,RuleLen q) (hx:RdP w V x) (hy:RdP w V' x) :
  Calls Tryz.prog 12 #[.agg V,.agg V'] w fun e w'=>e=.returned (.bool true)∧Below w.heap.size w w':=by
 obtain ⟨ds,rz,dA,rA,dc,rc,rfl,rfl,h1,h2⟩:=hx
 obtain ⟨ds',rz',dA',rA',dc',rc',rfl,e,h3,h4⟩:=hy
 injection e with ed er
 subst ed
 simp only [List.length_map] at hd hr
 have hrl:rz'.length=rz.length:=by have:=congrArg List.length er;simpa using this.symm
 have HOK:=Lib.hid (fun i (hi:i < rz.length)=>hok (rz.getD i default).p (List.mem_map_of_mem (getD_in hi)))
 have HR:=Lib.hid (fun i (hi:i < rz.length)=>ru_map_get er hi)
 have HRL:=Lib.hid hrl
 have H1:=Lib.hid h1
 have H2:=Lib.hid h2
 have H3:=Lib.hid h3
 have H4:=Lib.hid h4
 rw [hrl]
 clear h1 h2 h3 h4 er hok hrl
 have B1:=(BoxL.new w [.slice dA ds.length dc,.slice rA rz.length rc] 26)
 have HX:=Lib.hid (B1.alloc (.cells #[.slice dA' ds.length dc',.slice rA' rz.length rc'] 26))
 have HY:=Lib.hid (BoxL.new (w.alloc (.cells #[.slice dA ds.length dc,.slice rA rz.length rc] 26)) [.slice dA' ds.length dc',.slice rA' rz.length rc'] 26)
 have HB:=Lib.hid (((Below.refl w.heap.size w).alloc (Nat.le_refl _) (.cells #[.slice dA ds.length dc,.slice rA rz.length rc] 26)).alloc (by simp) (.cells #[.slice dA' ds.length dc',.slice rA' rz.length rc'] 26))
 clear B1
 rw [show (w.alloc (.cells #[.slice dA ds.length dc,.slice rA rz.length rc] 26)).heap.size=w.heap.size+1 by simp] at HY
 obtain ⟨w0,hw0⟩:∃w0,((w.alloc (.cells #[.slice dA ds.length dc,.slice rA rz.length rc] 26)).alloc (.cells #[.slice dA' ds.length dc',.slice rA' rz.length rc'] 26))=w0:=⟨_,rfl⟩
 have HX:=Lib.hid (show BoxL w0 w.heap.size _ by rw [←hw0];exact HX.out)
 have HY:=Lib.hid (show BoxL w0 (w.heap.size+1) _ by rw [←hw0];exact HY.out)
 have HB:=Lib.hid (show RowKit.Below w.heap.size w w0 by rw [←hw0];exact HB.out)
 go_enter Tryz.func12,Tryz.ntmps12
 obtain ⟨c0,c1⟩:=get_two HX.out
 obtain ⟨d0,d1⟩:=get_two HY.out
 have hd8:ds.length≤9223372036854775807:=by omega
 have hr8:rz.length≤9223372036854775807:=by omega
 go_wp2_with fail
 go_loopw [26] (fun i wr=>∃j:Nat,j≤ds.length∧i=.int .i64 j∧Below w0.heap.size w0 wr) (fun i _=>ds.length - (intOf i).toNat)
 case atStart=>exact ⟨0,Nat.zero_le _,rfl,Below.refl _ _⟩
 case round =>
  obtain ⟨j,hj,rfl,hbw⟩:=hrel
  clear c0 c1 d0 d1
  obtain ⟨c0,c1⟩:=get_two (HX.out.below hbw)
  obtain ⟨d0,d1⟩:=get_two (HY.out.below hbw)
  by_cases hlt:j < ds.length
  ·obtain ⟨g,hA,hx,hc⟩:=((H1.out.below HB.out).below hbw).get hlt
   obtain ⟨g',hA',hy,hg⟩:=((H3.out.below HB.out).below hbw).get hlt
   subst hA hA'
   have k0:wr.cell? ⟨g,j*2,none⟩=_:=hc 0 _ rfl
   have k1:wr.cell? ⟨g,j*2+1,none⟩=_:=hc 1 _ rfl
   have l0:wr.cell? ⟨g',j*2,none⟩=_:=hg 0 _ rfl
   have l1:wr.cell? ⟨g',j*2+1,none⟩=_:=hg 1 _ rfl
   clear hc hg hx hy
   generalize ds.getD j default=x at *
   obtain ⟨s,n⟩:=x
   simp only at k0 k1 l0 l1
   have kc0:=cell_regrown k0
   have kc1:=cell_regrown k1
   have kg0:=cell_regrown l0
   have kg1:=cell_regrown l1
   have kd0:=cell_regrown c0
   have ke0:=cell_regrown d0
   go_wp2_with fail
   refine wp_region_quiet_below (by kernel_rfl) (by kernel_rfl) ?_
   repeat (go_big_quiet_step (fail))
   refine wpQuiet_nil ?_
   intro w1 hw'
   have hb4:=hbw.trans ((regrown_below hw').mono hbw.size)
   clear kc0 kc1 kg0 kg1 kd0 ke0 hw'
   go_wp2_with fail
   go_roundw
   case rel=>exact ⟨j+1,by omega,by go_num,hb4⟩
   case measure=>simp [intOf];omega
  ·obtain rfl:j=ds.length:=by omega
   obtain ⟨wo,hwo⟩:∃wo,wo=wr:=⟨_,rfl⟩
   subst hwo
   have HB1:=Lib.hid (HB.out.trans (hbw.mono HB.out.size))
   have HX1:=Lib.hid (HX.out.below hbw)
   have HY1:=Lib.hid (HY.out.below hbw)
   clear hbw
   go_wp2_with fail
   go_loopw [44] (fun i wr=>∃j:Nat,j≤rz.length∧i=.int .i64 j∧Below wo.heap.size wo wr) (fun i _=>rz.length - (intOf i).toNat)
   case atStart=>exact ⟨0,Nat.zero_le _,rfl,Below.refl _ _⟩
   case round =>
    obtain ⟨j,hj,rfl,hbw⟩:=hrel
    clear c0 c1 d0 d1
    obtain ⟨c0,c1⟩:=get_two (HX1.out.below hbw)
    obtain ⟨d0,d1⟩:=get_two (HY1.out.below hbw)
    by_cases hlt:j < rz.length
    ·have hlt':j < rz'.length:=by rw [HRL.out];exact hlt
     obtain ⟨g,hA,hx,hc⟩:=((H2.out.below HB1.out).below hbw).get hlt
     obtain ⟨g',hA',hy,hg⟩:=((H4.out.below HB1.out).below hbw).get hlt'
     have Q1:=Lib.hid (fun W (h:Below wr.heap.size wr W)=>lw_rule_at (rz.getD j default) (rz'.getD j default) W (HR.out j hlt) (HOK.out j hlt) ((ru_blk_get ((H2.out.below HB1.out).below hbw) hlt).below h) ((ru_blk_get ((H4.out.below HB1.out).below hbw) hlt').below h))
     subst hA hA'
     have k0:wr.cell? ⟨g,j*6,none⟩=_:=hc 0 _ rfl
     have k1:wr.cell? ⟨g,j*6+1,none⟩=_:=hc 1 _ rfl
     have k2:wr.cell? ⟨g,j*6+2,none⟩=_:=hc 2 _ rfl
     have k3:wr.cell? ⟨g,j*6+3,none⟩=_:=hc 3 _ rfl
     have k4:wr.cell? ⟨g,j*6+4,none⟩=_:=hc 4 _ rfl
     have k5:wr.cell? ⟨g,j*6+5,none⟩=_:=hc 5 _ rfl
     have l0:wr.cell? ⟨g',j*6,none⟩=_:=hg 0 _ rfl
     have l1:wr.cell? ⟨g',j*6+1,none⟩=_:=hg 1 _ rfl
     have l2:wr.cell? ⟨g',j*6+2,none⟩=_:=hg 2 _ rfl
     have l3:wr.cell? ⟨g',j*6+3,none⟩=_:=hg 3 _ rfl
     have l4:wr.cell? ⟨g',j*6+4,none⟩=_:=hg 4 _ rfl
     have l5:wr.cell? ⟨g',j*6+5,none⟩=_:=hg 5 _ rfl
     clear hc hg hx hy hlt'
     generalize rz.getD j default=x at *
     generalize rz'.getD j default=y at *
     obtain ⟨t,ks,rs,gs,bs,kA,kc,pA,pc,gA,gc,bA,bc,n⟩:=x
     obtain ⟨t',ks',rs',gs',bs',kA',kc',pA',pc',gA',gc',bA',bc',n'⟩:=y
     simp only at k0 k1 k2 k3 k4 k5 l0 l1 l2 l3 l4 l5
     have Q2:=Lib.hid (show ∀W,Below wr.heap.size wr W→Calls Tryz.prog 15 #[.agg #[.string (S t),.slice kA ks.length kc,.slice pA rs.length pc,.slice gA gs.length gc,.slice bA bs.length bc,.int .i64 (n:Int)],.agg #[.string (S t'),.slice kA' ks'.length kc',.slice pA' rs'.length pc',.slice gA' gs'.length gc',.slice bA' bs'.length bc',.int .i64 (n':Int)]] W fun e w'=>e=.returned (.bool true)∧Below W.heap.size W w' from Q1.out)
     have q0:=cell_regrown k0
     have q1:=cell_regrown k1
     have q2:=cell_regrown k2
     have q3:=cell_regrown k3
     have q4:=cell_regrown k4
     have q5:=cell_regrown k5
     have r0:=cell_regrown l0
     have r1:=cell_regrown l1
     have r2:=cell_regrown l2
     have r3:=cell_regrown l3
     have r4:=cell_regrown l4
     have r5:=cell_regrown l5
     have kd1:=cell_regrown c1
     have ke1:=cell_regrown d1
     clear Q1
     go_wp2_with fail
     refine wp_region_quiet_below (by kernel_rfl) (by kernel_rfl) ?_
     repeat (go_big_quiet_step ((go_at_call 15;exact Calls.regrown_of (Q2.out _ (below_regrown _ _ _)))))
     refine wpQuiet_nil ?_
     intro w1 hw'
     have hb4:=hbw.trans ((regrown_below hw').mono hbw.size)
     clear q0 q1 q2 q3 q4 q5 r0 r1 r2 r3 r4 r5 kd1 ke1 hw'
     go_wp2_with fail
     go_roundw
     case rel=>exact ⟨j+1,by omega,by go_num,hb4⟩
     case measure=>simp [intOf];omega
    ·obtain rfl:j=rz.length:=by omega
     go_wp2_with fail
     go_ret
     exact ⟨rfl,HB1.out.trans (hbw.mono HB1.out.size)⟩
end Go.Proofs.YtaojnljppcnhjaaGreatDoor
namespace Go.Proofs.YtaojnljppcnhjaaGreatDoor
open Go.RowKit Go.Sort
def s1:ByteArray:={ data:=#[99,111,110,115,116,114,97,105,110,116,32,112,47,49,46,32,114,32,64,32,112,40,88,41,32,92,32,112,40,89,41,32,60,61,62,32,88,32,62,32,89,32,124,32,116,114,117,101,46] }
def s2:ByteArray:={ data:=#[112,40,88,41,32,60,61,62,32,88,46] }
def s3:ByteArray:={ data:=#[112,40,88,44,32,95,44,32,89,41,44,32,88,32,61,32,49,32,45,32,45,50] }
def x1:List Dl×List Rs:=([([112],1)],[⟨[114],[([112],[varS 0])],[([112],[varS 1])],[(7,[],[varS 1,varS 0])],[],2⟩])
def x3:List Gs×List (List UInt8):=([(0,[112],[varS 0,varS 1,varS 2]),(3,[],[varS 0,funS [45] [intS 1,intS (-2)]])],[[88],[95],[89]])
set_option maxRecDepth 100000 in
theorem ex1:wholeS (programS (exprS (16384+1))) s1=.ok x1:=by kernel_rfl
set_option maxRecDepth 100000 in
theorem ex2:wholeS (programS (exprS (16384+1))) s2=.error (10,16):=by kernel_rfl
set_option maxRecDepth 100000 in
theorem ex3:wholeS (quS (exprS (16384+1))) s3=.ok x3:=by kernel_rfl
theorem at1 (w:World):Calls Tryz.prog 10 #[.string s1] w fun e w'=>∃V,e=.returned (.tuple #[.agg V,.int .i64 0,.int .i64 0])∧RowKit.Below w.heap.size w w'∧RdP w' V x1:=by
 refine (parse_at (F:=16384) (Nat.le_refl _) s1 (by decide) w).mono ?_
 rintro e w' ⟨V,p,er,rfl,hb,⟨rfl,rfl,x,hx,hm⟩|⟨_,_,h⟩⟩
 ·rw [ex1] at hx
  injection hx with hx
  subst hx
  exact ⟨V,rfl,hb,hm.rd⟩
 ·rw [ex1] at h
  cases h
theorem at2 (w:World):Calls Tryz.prog 10 #[.string s2] w fun e w'=>e=.returned (.tuple #[.agg #[.slice none 0 0,.slice none 0 0],.int .i64 10,.int .i64 16])∧RowKit.Below w.heap.size w w':=by
 refine (parse_at (F:=16384) (Nat.le_refl _) s2 (by decide) w).mono ?_
 rintro e w' ⟨V,p,er,rfl,hb,⟨rfl,rfl,x,hx,hm⟩|⟨_,rfl,h⟩⟩
 ·rw [ex2] at hx
  cases hx
 ·rw [ex2] at h
  injection h with h
  injection h with h1 h2
  subst h1 h2
  exact ⟨rfl,hb⟩
theorem at3 (w:World):Calls Tryz.prog 16 #[.string s3] w fun e w'=>∃a b,e=.returned (.tuple #[a,b,.int .i64 0,.int .i64 0])∧RowKit.Below w.heap.size w w'∧RdQ w' #[a,b] x3:=by
 refine (parse_goals_at (F:=16384) (Nat.le_refl _) s3 (by decide) w).mono ?_
 rintro e w' ⟨gA,zA,gn,gc,zn,zc,p,er,rfl,hb,⟨rfl,rfl,x,hx,hm⟩|⟨_,_,_,_,_,_,_,h⟩⟩
 ·rw [ex3] at hx
  injection hx with hx
  subst hx
  exact ⟨_,_,rfl,hb,hm.rd⟩
 ·rw [ex3] at h
  cases h
theorem list_one {α β:Type} {f:α→β} {l:List α} {y:β} (h:l.map f=[y]):∃a,l=[a]∧f a=y:=by
 match l with
 | []=>cases h
 | [a]=>exact ⟨a,rfl,by simpa using h⟩
 | _ :: _ :: _=>simp at h
theorem list_two {α β:Type} {f:α→β} {l:List α} {y z:β} (h:l.map f=[y,z]):∃a b,l=[a,b]∧f a=y∧f b=z:=by
 match l with
 | []=>cases h
 | [a]=>simp at h
 | [a,b]=>exact ⟨a,b,rfl,by simpa using h⟩
 | _ :: _ :: _ :: _=>simp at h
theorem strip_two {l:List Tm} {y z:Tm} (h:stripL l=[y,z]):∃a b,l=[a,b]∧a.strip=y∧b.strip=z:=list_two (by rw [←stripL_map];exact h)
theorem mem1 {w:World} {V:Array Value} (h:RdP w V x1):∃(dA kA rA bA:Option Addr) (dc rc kc pc gc bc ac:Nat) (g q b o:Nat),V=#[.slice dA 1 dc,.slice (some ⟨g,0,none⟩) 1 rc] ∧
  (w.cell? ⟨g,0,none⟩=some (.string ⟨#[114]⟩)∧w.cell? ⟨g,1,none⟩=some (.slice kA 1 kc)∧w.cell? ⟨g,2,none⟩=some (.slice rA 1 pc)∧w.cell? ⟨g,3,none⟩=some (.slice (some ⟨q,0,none⟩) 1 gc)∧w.cell? ⟨g,4,none⟩=some (.slice bA 0 bc)∧w.cell? ⟨g,5,none⟩=some (.int .i64 2)) ∧
  w.cell? ⟨q,0,none⟩=some (.int .i64 7)∧w.cell? ⟨q,2,none⟩=some (.slice (some ⟨b,o,none⟩) 2 ac)∧w.cell? ⟨b,o+1,none⟩=some (.int .i64 1):=by
 obtain ⟨ds,rz,dA,rA,dc,rc,rfl,e,h1,h2⟩:=h
 injection e with ed er
 subst ed
 obtain ⟨u,rfl,hu⟩:=list_one er.symm
 obtain ⟨g,rfl,hat,hc⟩:=h2.get (i:=0) (by simp)
 obtain ⟨t,ks,rs,gs,bs,kA,kc,pA,pc,gA,gc,bA,bc,n⟩:=u
 simp only [Ru.p,ruP] at hu
 obtain ⟨e1,e2,e3,e4,e5,e6⟩:=Rs.mk.inj hu
 subst e1 e6
 have l2:ks.length=1:=by have:=congrArg List.length e2;simpa using this
 have l3:rs.length=1:=by have:=congrArg List.length e3;simpa using this
 have l5:bs.length=0:=by have:=congrArg List.length e5;simpa using this
 obtain ⟨v,rfl,hv⟩:=list_one e4
 obtain ⟨q,hq,hav,hcv⟩:=RdB.get (E:=elGl) (w:=w) (B:=gA) (xs:=[v]) ⟨hat.2.2.1,fun b hb=>h2.elt (x:=⟨[114],ks,rs,[v],bs,kA,kc,pA,pc,gA,gc,bA,bc,2⟩) (by simp) b (List.mem_append.2 (.inr (List.mem_append.2 (.inl hb))))⟩ (i:=0) (by simp)
 have hq2:gA=some ⟨q,0,none⟩:=hq
 subst hq2
 obtain ⟨op,nm,A,c,a⟩:=v
 obtain ⟨f1,f2⟩:=Prod.mk.inj hv
 obtain ⟨f3,f4⟩:=Prod.mk.inj f2
 simp only at f1 f3 f4
 subst f1
 obtain ⟨a1,a2,rfl,ha1,ha2⟩:=strip_two f4
 have hl:Lst w A [a1,a2] c:=hav.2.2
 obtain ⟨b,o,rfl,⟨_,y1,_,_⟩,_⟩:=hl.get (i:=0) (by simp)
 have hn1:a1.num=1:=by
  have:=congrArg Tm.num ha1
  obtain ⟨k,n,s,A,c,l⟩:=a1
  simpa [Tm.strip,Tm.num,varS] using this
 have y2:w.cell? ⟨b,o+4*0+1,none⟩=some (.int .i64 a1.num):=y1
 rw [hn1] at y2
 have c1:w.cell? ⟨g,1,none⟩=some (.slice kA ks.length kc):=hc 1 _ rfl
 have c2:w.cell? ⟨g,2,none⟩=some (.slice pA rs.length pc):=hc 2 _ rfl
 have c3:=hc 3 _ rfl
 have c4:w.cell? ⟨g,4,none⟩=some (.slice bA bs.length bc):=hc 4 _ rfl
 have c5:=hc 5 _ rfl
 have d0:=hcv 0 _ rfl
 have d2:=hcv 2 _ rfl
 rw [l2] at c1
 rw [l3] at c2
 rw [l5] at c4
 exact ⟨dA,kA,pA,bA,dc,rc,kc,pc,gc,bc,c,g,q,b,o,rfl,⟨hc 0 _ rfl,c1,c2,c3,c4,c5⟩,d0,d2,y2⟩
theorem mem3 {w:World} {a b:Value} (h:RdQ w #[a,b] x3):∃(gc zc c2 c3 g b2 o2 b3 o3:Nat) (zA:Option Addr),a=.slice (some ⟨g,0,none⟩) 2 gc∧b=.slice zA 3 zc∧RdB elNm w zA [[88],[95],[89]] ∧
  w.cell? ⟨g,5,none⟩=some (.slice (some ⟨b2,o2,none⟩) 2 c2)∧w.cell? ⟨b2,o2+7,none⟩=some (.slice (some ⟨b3,o3,none⟩) 2 c3)∧w.cell? ⟨b3,o3+5,none⟩=some (.int .i64 (-2)):=by
 obtain ⟨gs,ns,gA,zA,gc,zc,e1,e2,h0,h1,h2⟩:=h
 injection e2 with eg en
 subst en
 obtain ⟨u,v,rfl,hu,hv⟩:=list_two eg.symm
 have e3:a=.slice gA 2 gc∧b=.slice zA 3 zc:=by
  have:=congrArg Array.toList e1
  simpa using this
 obtain ⟨g,rfl,hat,hc⟩:=h1.get (i:=1) (by simp)
 obtain ⟨op,nm,A,c,l⟩:=v
 obtain ⟨f1,f2⟩:=Prod.mk.inj hv
 obtain ⟨f3,f4⟩:=Prod.mk.inj f2
 simp only at f1 f3 f4
 obtain ⟨a1,a2,rfl,ha1,ha2⟩:=strip_two f4
 have hl:Lst w A [a1,a2] c:=hat.2.2
 obtain ⟨b2,o2,rfl,⟨_,_,_,y3⟩,hx⟩:=hl.get (i:=1) (by simp)
 obtain ⟨k,n,s,A3,c3,l3⟩:=a2
 have hst:stripL l3=[intS 1,intS (-2)]:=by
  have:=congrArg Tm.args ha2
  simpa [Tm.strip,Tm.args,funS] using this
 obtain ⟨p1,p2,rfl,hp1,hp2⟩:=strip_two hst
 have hx2:(Tm.mk k n s A3 c3 [p1,p2]).At w:=hx
 obtain ⟨b3,o3,hA3,⟨_,z1,_,_⟩,_⟩:=hx2.lst.get (i:=1) (by simp [Tm.args])
 have hA3b:A3=some ⟨b3,o3,none⟩:=hA3
 subst hA3b
 have hn2:p2.num = -2:=by
  have:=congrArg Tm.num hp2
  obtain ⟨k,n,s,A,c,l⟩:=p2
  simpa [Tm.strip,Tm.num,intS] using this
 have z2:w.cell? ⟨b3,o3+4*1+1,none⟩=some (.int .i64 p2.num):=z1
 rw [hn2] at z2
 exact ⟨gc,zc,c,c3,g,b2,o2,b3,o3,zA,e3.1,e3.2,h2,hc 2 _ rfl,y3,z2⟩
end Go.Proofs.YtaojnljppcnhjaaGreatDoor
namespace Go.Proofs.YtaojnljppcnhjaaGreatDoor
open Go.RowKit Go.Sort
theorem nm_new (w:World) (T:TypeId):RdB elNm (w.alloc (.cells #[.string ⟨#[88]⟩,.string ⟨#[95]⟩,.string ⟨#[89]⟩] T)) (some ⟨w.heap.size,0,none⟩) [[88],[95],[89]]:=by
 refine ⟨⟨fun _ _=>trivial,fun _=>⟨w.heap.size,rfl,fun j u hu=>?_⟩⟩,fun b hb=>?_⟩
 ·rw [World.cell?_alloc_at _ _ _ _ rfl]
  rw [←hu,show (#[.string ⟨#[88]⟩,.string ⟨#[95]⟩,.string ⟨#[89]⟩]:Array Value)=([.string ⟨#[88]⟩,.string ⟨#[95]⟩,.string ⟨#[89]⟩]:List Value).toArray from rfl,List.getElem?_toArray]
  rfl
 ·rcases List.mem_append.1 hb with hb|hb
  ·have e:b=w.heap.size:=by simpa [blkA,blkO] using hb
   subst e
   simp
  ·rw [nm_blk] at hb
   cases hb
set_option maxHeartbeats 16000000 in
set_option maxRecDepth 100000 in
theorem awake_at (w:World):Calls Tryz.prog 9 #[] w fun e w'=>e=.returned (.bool true)∧RowKit.Below w.heap.size w w':=by
 have Q1:=Lib.hid at1
 have Q2:=Lib.hid at2
 have Q3:=Lib.hid at3
 unfold s1 at Q1
 unfold s2 at Q2
 unfold s3 at Q3
 go_enter Tryz.func9,Tryz.ntmps9
 go_wp2_with fail
 refine (Q1.out _).mono ?_
 rintro e w1 ⟨V,rfl,hb1,hr⟩
 obtain ⟨dA,kA,rA,bA,dc,rc,kc,pc,gc,bc,ac,g,q,b,o,rfl,⟨c0,c1,c2,c3,c4,c5⟩,c6,c7,c8⟩:=mem1 hr
 have HB1:=Lib.hid hb1
 have HC:=Lib.hid (fun W (h:RowKit.Below w1.heap.size w1 W)=>And.intro ((h.cell (World.block_lt_of_cell? _ _ c0)).trans c0) (And.intro ((h.cell (World.block_lt_of_cell? _ _ c1)).trans c1) (And.intro ((h.cell (World.block_lt_of_cell? _ _ c2)).trans c2) (And.intro ((h.cell (World.block_lt_of_cell? _ _ c3)).trans c3) (And.intro ((h.cell (World.block_lt_of_cell? _ _ c4)).trans c4) (And.intro ((h.cell (World.block_lt_of_cell? _ _ c5)).trans c5) (And.intro ((h.cell (World.block_lt_of_cell? _ _ c6)).trans c6) (And.intro ((h.cell (World.block_lt_of_cell? _ _ c7)).trans c7) ((h.cell (World.block_lt_of_cell? _ _ c8)).trans c8)))))))))
 have HX1:=Lib.hid (BoxL.new w1 [.slice dA 1 dc,.slice (some ⟨g,0,none⟩) 1 rc] 26)
 have HA1:=Lib.hid ((RowKit.Below.refl w1.heap.size w1).alloc (Nat.le_refl _) (.cells #[.slice dA 1 dc,.slice (some ⟨g,0,none⟩) 1 rc] 26))
 clear hb1 hr c0 c1 c2 c3 c4 c5 c6 c7 c8
 go_wp2_with fail
 refine (Q2.out _).mono ?_
 rintro e w2 ⟨rfl,hb2⟩
 have HX2:=Lib.hid (HX1.out.below hb2)
 have HA2:=Lib.hid (HA1.out.trans (hb2.mono HA1.out.size))
 clear hb2
 go_wp2_with fail
 refine (Q3.out _).mono ?_
 rintro e w3 ⟨va,vb,rfl,hb3,hr3⟩
 have hb23:=((RowKit.Below.refl w2.heap.size w2).alloc (Nat.le_refl _) (.cells #[.slice none 0 0,.slice none 0 0] 26)).trans (hb3.mono (by simp))
 have HX3:=Lib.hid (HX2.out.below hb23)
 have HA3:=Lib.hid (HA2.out.trans (hb23.mono HA2.out.size))
 obtain ⟨gc3,zc,k2,k3,h,b2,o2,b3,o3,zA,rfl,rfl,hz,d0,d1,d2⟩:=mem3 hr3
 have HD:=Lib.hid (fun W (h:RowKit.Below w3.heap.size w3 W)=>And.intro ((h.cell (World.block_lt_of_cell? _ _ d0)).trans d0) (And.intro ((h.cell (World.block_lt_of_cell? _ _ d1)).trans d1) ((h.cell (World.block_lt_of_cell? _ _ d2)).trans d2)))
 have HA4:=Lib.hid ((RowKit.Below.refl w3.heap.size w3).alloc (Nat.le_refl _) (.cells #[.string ⟨#[88]⟩,.string ⟨#[95]⟩,.string ⟨#[89]⟩] 9))
 have QT:=Lib.hid (show Calls Tryz.prog 19 #[.slice zA 3 zc,.slice (some ⟨w3.heap.size,0,none⟩) 3 3] (w3.alloc (.cells #[.string ⟨#[88]⟩,.string ⟨#[95]⟩,.string ⟨#[89]⟩] 9)) fun e w'=>e=.returned (.bool true)∧RowKit.Below (w3.alloc (.cells #[.string ⟨#[88]⟩,.string ⟨#[95]⟩,.string ⟨#[89]⟩] 9)).heap.size (w3.alloc (.cells #[.string ⟨#[88]⟩,.string ⟨#[95]⟩,.string ⟨#[89]⟩] 9)) w' from
  lw_texts_at [[88],[95],[89]] zA (some ⟨w3.heap.size,0,none⟩) zc 3 _ (by decide) (hz.below HA4.out) (nm_new w3 _))
 obtain ⟨x0,x1⟩:=get_two HX3.out
 clear hb3 hr3 hb23 hz d0 d1 d2 HX1 HX2 Q1 Q2 Q3
 go_wp2_with fail
 refine QT.out.mono ?_
 rintro e w4 ⟨rfl,hb4⟩
 have HA5:=Lib.hid (HA4.out.trans (hb4.mono (by simp)))
 have HX4:=Lib.hid (HX3.out.below HA5.out)
 have HA6:=Lib.hid (HA3.out.trans (HA5.out.mono HA3.out.size))
 obtain ⟨c0,c1,c2,c3,c4,c5,c6,c7,c8⟩:=HC.out _ HA6.out
 obtain ⟨d0,d1,d2⟩:=HD.out _ HA5.out
 clear x0 x1 hb4
 obtain ⟨x0,x1⟩:=get_two HX4.out
 have a6:∀o',(w4.alloc o').cell? ⟨q,0,none⟩=some (.int .i64 7):=fun o'=>(World.cell?_alloc_lt _ _ _ (World.block_lt_of_cell? _ _ c6)).trans c6
 have a7:∀o',(w4.alloc o').cell? ⟨q,2,none⟩=some (.slice (some ⟨b,o,none⟩) 2 ac):=fun o'=>(World.cell?_alloc_lt _ _ _ (World.block_lt_of_cell? _ _ c7)).trans c7
 have a8:∀o',(w4.alloc o').cell? ⟨b,o+1,none⟩=some (.int .i64 1):=fun o'=>(World.cell?_alloc_lt _ _ _ (World.block_lt_of_cell? _ _ c8)).trans c8
 have b0:∀o',(w4.alloc o').cell? ⟨h,5,none⟩=some (.slice (some ⟨b2,o2,none⟩) 2 k2):=fun o'=>(World.cell?_alloc_lt _ _ _ (World.block_lt_of_cell? _ _ d0)).trans d0
 have b1:∀o',(w4.alloc o').cell? ⟨b2,o2+7,none⟩=some (.slice (some ⟨b3,o3,none⟩) 2 k3):=fun o'=>(World.cell?_alloc_lt _ _ _ (World.block_lt_of_cell? _ _ d1)).trans d1
 have b2':∀o',(w4.alloc o').cell? ⟨b3,o3+5,none⟩=some (.int .i64 (-2)):=fun o'=>(World.cell?_alloc_lt _ _ _ (World.block_lt_of_cell? _ _ d2)).trans d2
 obtain ⟨y0,y1,y2,y3,y4,y5,_,_,_,_,_,_⟩:=(BoxL.new w4 [.string ⟨#[114]⟩,.slice kA 1 kc,.slice rA 1 pc,.slice (some ⟨q,0,none⟩) 1 gc,.slice bA 0 bc,.int .i64 2] 35).get6
 have HAz:=Lib.hid ((HB1.out.trans (HA6.out.mono HB1.out.size)).alloc (Nat.le_trans HB1.out.size HA6.out.size) (.cells #[.string ⟨#[114]⟩,.slice kA 1 kc,.slice rA 1 pc,.slice (some ⟨q,0,none⟩) 1 gc,.slice bA 0 bc,.int .i64 2] 35))
 go_wp2_with fail
 go_ret
 exact ⟨rfl,HAz.out⟩
end Go.Proofs.YtaojnljppcnhjaaGreatDoor
