/-
  TmOrd.
  TmRefOrd.
  TmOpen.
 TmVarsP.
 TmCon.
 SuMath.
 SuVarIn.
 SuCopy.
 SuApply.
 MaPlain.
 MaInst.
 VaPlain.
 VaNumber.
-/
import Derived.Test.YtnghanpmmbcbbaaGreatDoorMq6
import Derived.Test.YtnghanpmmbcbbaaGreatDoorMq4
import Derived.Deep.RegionLaw
import Derived.Test.YtnghanpmmbcbbaaGreatDoorMq2
namespace Go.Proofs.YtnghanpmmbcbbaaGreatDoor
open Go.RowKit Go.Sort
theorem box8 {w w':World} {v0 v1 v2 v3 u0 u1 u2 u3:Value} {T:TypeId}
  (hb:Below ((w.alloc (.cells #[v0,v1,v2,v3] T)).alloc (.cells #[u0,u1,u2,u3] T)).heap.size ((w.alloc (.cells #[v0,v1,v2,v3] T)).alloc (.cells #[u0,u1,u2,u3] T)) w') :
  (w'.cell? ⟨w.heap.size,0,none⟩=some v0∧w'.cell? ⟨w.heap.size,1,none⟩=some v1∧w'.cell? ⟨w.heap.size,2,none⟩=some v2∧w'.cell? ⟨w.heap.size,3,none⟩=some v3) ∧
  (w'.cell? ⟨w.heap.size+1,0,none⟩=some u0∧w'.cell? ⟨w.heap.size+1,1,none⟩=some u1∧w'.cell? ⟨w.heap.size+1,2,none⟩=some u2∧w'.cell? ⟨w.heap.size+1,3,none⟩=some u3)∧Below w.heap.size w w':=by
 have hz:(w.alloc (.cells #[v0,v1,v2,v3] T)).heap.size=w.heap.size+1:=by simp
 have h:∀j,w'.cell? ⟨w.heap.size,j,none⟩=(#[v0,v1,v2,v3]:Array Value)[j]?:=fun j=>by
  rw [hb.cell (p:=⟨w.heap.size,j,none⟩) (by simp;omega),World.cell?_alloc_lt _ _ _ (by simp),World.cell?_alloc_at _ _ _ _ rfl]
 have g:∀j,w'.cell? ⟨w.heap.size+1,j,none⟩=(#[u0,u1,u2,u3]:Array Value)[j]?:=fun j=>by
  rw [hb.cell (p:=⟨w.heap.size+1,j,none⟩) (by simp),World.cell?_alloc_at _ _ _ _ hz.symm]
 exact ⟨⟨h 0,h 1,h 2,h 3⟩,⟨g 0,g 1,g 2,g 3⟩,(((Below.refl _ _).alloc (Nat.le_refl _) _).alloc (by simp) _).trans (hb.mono (by simp;omega))⟩
theorem below2 (w:World) (o p:Obj):Below w.heap.size w ((w.alloc o).alloc p):=((Below.refl _ _).alloc (Nat.le_refl _) _).alloc (by simp) _
theorem lex_zero (y:Int):lex 0 y=y:=by simp [lex]
theorem lex_ne {x:Int} (h:x≠0) (y:Int):lex x y=x:=by simp [lex,h]
theorem cmpL_next {l m:List Tm} {j:Nat} (hl:j < l.length) (hm:j < m.length) (h:cmpL (l.take j) (m.take j)=0):cmpL (l.take (j+1)) (m.take (j+1))=cmpT (l.getD j default) (m.getD j default):=by
 induction j generalizing l m with
 | zero =>
  cases l with
  | nil=>simp at hl
  | cons x r=>cases m with
   | nil=>simp at hm
   | cons y q=>simp [cmpL,lex];omega
 | succ j ih =>
  cases l with
  | nil=>simp at hl
  | cons x r=>cases m with
   | nil=>simp at hm
   | cons y q =>
    simp only [List.take_succ_cons,cmpL] at h ⊢
    have hx:cmpT x y=0:=by unfold lex at h;split at h<;>assumption
    rw [hx,lex_zero] at h ⊢
    simpa using ih (by simpa using hl) (by simpa using hm) h
theorem cmpL_stop {l m:List Tm} {j:Nat} (hl:j < l.length) (hm:j < m.length) (h:cmpL (l.take j) (m.take j)=0) (hx:cmpT (l.getD j default) (m.getD j default)≠0):cmpL l m=cmpT (l.getD j default) (m.getD j default):=by
 induction j generalizing l m with
 | zero =>
  cases l with
  | nil=>simp at hl
  | cons x r=>cases m with
   | nil=>simp at hm
   | cons y q =>
    simp only [List.getD_cons_zero] at hx ⊢
    simp only [cmpL]
    exact lex_ne hx _
 | succ j ih =>
  cases l with
  | nil=>simp at hl
  | cons x r=>cases m with
   | nil=>simp at hm
   | cons y q =>
    simp only [List.take_succ_cons,cmpL] at h
    have hz:cmpT x y=0:=by unfold lex at h;split at h<;>assumption
    rw [hz,lex_zero] at h
    simp only [List.getD_cons_succ] at hx ⊢
    simp only [cmpL]
    rw [hz,lex_zero]
    exact ih (by simpa using hl) (by simpa using hm) h hx
theorem cmpL_end {l m:List Tm} {j:Nat} (hj:j=l.length∨j=m.length) (hl:j≤l.length) (hm:j≤m.length) (h:cmpL (l.take j) (m.take j)=0):cmpL l m=ints l.length m.length:=by
 induction j generalizing l m with
 | zero =>
  cases l with
  | nil=>cases m with
   | nil=>simp [cmpL,ints]
   | cons y q=>rw [ints_lt (by simp)];rfl
  | cons x r=>cases m with
   | nil=>rw [ints_gt (by simp)];rfl
   | cons y q=>simp at hj
 | succ j ih =>
  cases l with
  | nil=>simp at hl
  | cons x r=>cases m with
   | nil=>simp at hm
   | cons y q =>
    simp only [List.take_succ_cons,cmpL] at h ⊢
    have hz:cmpT x y=0:=by unfold lex at h;split at h<;>assumption
    rw [hz,lex_zero] at h ⊢
    rw [ih (by simpa using hj) (by simpa using hl) (by simpa using hm) h]
    unfold ints
    simp
theorem boxed8 (w:World) (v0 v1 v2 v3 u0 u1 u2 u3:Value) (T:TypeId) :
  (∀d os,(grow (redrawn ((w.alloc (.cells #[v0,v1,v2,v3] T)).alloc (.cells #[u0,u1,u2,u3] T)) d) os).cell? ⟨w.heap.size,0,none⟩=some v0)∧(∀d os,(grow (redrawn ((w.alloc (.cells #[v0,v1,v2,v3] T)).alloc (.cells #[u0,u1,u2,u3] T)) d) os).cell? ⟨w.heap.size,1,none⟩=some v1) ∧
  (∀d os,(grow (redrawn ((w.alloc (.cells #[v0,v1,v2,v3] T)).alloc (.cells #[u0,u1,u2,u3] T)) d) os).cell? ⟨w.heap.size,2,none⟩=some v2)∧(∀d os,(grow (redrawn ((w.alloc (.cells #[v0,v1,v2,v3] T)).alloc (.cells #[u0,u1,u2,u3] T)) d) os).cell? ⟨w.heap.size,3,none⟩=some v3) ∧
  (∀d os,(grow (redrawn ((w.alloc (.cells #[v0,v1,v2,v3] T)).alloc (.cells #[u0,u1,u2,u3] T)) d) os).cell? ⟨w.heap.size+1,0,none⟩=some u0)∧(∀d os,(grow (redrawn ((w.alloc (.cells #[v0,v1,v2,v3] T)).alloc (.cells #[u0,u1,u2,u3] T)) d) os).cell? ⟨w.heap.size+1,1,none⟩=some u1) ∧
  (∀d os,(grow (redrawn ((w.alloc (.cells #[v0,v1,v2,v3] T)).alloc (.cells #[u0,u1,u2,u3] T)) d) os).cell? ⟨w.heap.size+1,2,none⟩=some u2)∧(∀d os,(grow (redrawn ((w.alloc (.cells #[v0,v1,v2,v3] T)).alloc (.cells #[u0,u1,u2,u3] T)) d) os).cell? ⟨w.heap.size+1,3,none⟩=some u3) :=
 ⟨fun d os => (box8 (below_regrown _ d os)).1.1, fun d os => (box8 (below_regrown _ d os)).1.2.1, fun d os => (box8 (below_regrown _ d os)).1.2.2.1, fun d os => (box8 (below_regrown _ d os)).1.2.2.2,
  fun d os => (box8 (below_regrown _ d os)).2.1.1, fun d os => (box8 (below_regrown _ d os)).2.1.2.1, fun d os => (box8 (below_regrown _ d os)).2.1.2.2.1, fun d os => (box8 (below_regrown _ d os)).2.1.2.2.2⟩
end Go.Proofs.YtnghanpmmbcbbaaGreatDoor
namespace Go.Proofs.YtnghanpmmbcbbaaGreatDoor
open Go.RowKit Go.Sort
def RefCmpAt (x:Tm):Prop:=∀(u:Tm) (w:World),x.At w→u.At w→Calls Tryz.prog 181 #[x.val,u.val] w fun e w'=>e=.returned (.int .i64 (cmpT x u))∧Below w.heap.size w w'
set_option maxHeartbeats 1000000 in
theorem ref_lists_at (l m:List Tm) (ih:∀x∈l,RefCmpAt x) (A B:Option Addr) (c d:Nat) (w:World) (hl:Lst w A l c) (hm:Lst w B m d) :
  Calls Tryz.prog 148 #[.slice A l.length c,.slice B m.length d] w fun e w'=>e=.returned (.int .i64 (cmpL l m))∧Below w.heap.size w w':=by
 have hlen:l.length≤9223372036854775807:=by have:=hl.1;have:=hl.2.1;unfold maxLen at *;omega
 have hlen':m.length≤9223372036854775807:=by have:=hm.1;have:=hm.2.1;unfold maxLen at *;omega
 have QI:=Lib.hid ih
 obtain ⟨zl,hzl⟩:∃z,ints l.length m.length=z:=⟨_,rfl⟩
 have ql:=Lib.hid (fun W=>ref_ints_at (l.length:Int) (m.length:Int) W hzl)
 have HZL:=Lib.hid hzl
 clear ih hzl
 go_enter Tryz.func148,Tryz.ntmps148
 go_wp2_with fail
 go_loopw [5] (fun i wr=>∃j:Nat,j≤l.length∧j≤m.length∧i=.int .i64 j∧Hid (cmpL (l.take j) (m.take j)=0)∧Below w.heap.size w wr) (fun i _=>l.length - (intOf i).toNat)
 case atStart=>exact ⟨0,Nat.zero_le _,Nat.zero_le _,rfl,Lib.hid rfl,Below.refl _ _⟩
 case round =>
  obtain ⟨j,hj,hjm,rfl,HF,hb⟩:=hrel
  by_cases hlt:j < l.length
  ·by_cases hlt':j < m.length
   ·obtain ⟨b,o,rfl,⟨c0,c1,c2,c3⟩,hx⟩:=(hl.below hb).get hlt
    obtain ⟨b',o',rfl,⟨g0,g1,g2,g3⟩,hy⟩:=(hm.below hb).get hlt'
    have hmem:=getD_mem hlt
    have HN:=Lib.hid (cmpL_next hlt hlt' HF.out)
    have HS:=Lib.hid (fun h=>cmpL_stop hlt hlt' HF.out h)
    generalize l.getD j default=x at *
    generalize m.getD j default=y at *
    have Q1:=Lib.hid (fun W (h:Below wr.heap.size wr W)=>QI.out x hmem y W (hx.below h) (hy.below h))
    clear hx hy QI hmem
    obtain ⟨z,hz⟩:∃z,cmpT x y=z:=⟨_,rfl⟩
    rw [hz] at HN HS Q1
    clear hz
    obtain ⟨k1,n1,s1,A1,p1,a1⟩:=x
    obtain ⟨k2,n2,s2,A2,p2,a2⟩:=y
    simp only [Tm.kind,Tm.num,Tm.name,Tm.at_,Tm.args,Tm.cap] at c0 c1 c2 c3 g0 g1 g2 g3
    have kc0:=cell_regrown c0
    have kc1:=cell_regrown c1
    have kc2:=cell_regrown c2
    have kc3:=cell_regrown c3
    have kg0:=cell_regrown g0
    have kg1:=cell_regrown g1
    have kg2:=cell_regrown g2
    have kg3:=cell_regrown g3
    go_wp2_with fail
    refine wp_region_quiet_below (by kernel_rfl) (by kernel_rfl) ?_
    repeat (go_big_quiet_step ((go_at_call 181;exact Calls.regrown_of (Q1.out _ (below_regrown _ _ _)))))
    refine wpQuiet_nil ?_
    intro w1 hw'
    have hb4:=hb.trans ((regrown_below hw').mono hb.size)
    clear kc0 kc1 kc2 kc3 kg0 kg1 kg2 kg3 hw'
    by_cases hz:z=0
    ·subst hz
     go_wp2_with fail
     go_roundw
     case rel=>exact ⟨j+1,by omega,by omega,by go_num,HN,hb4⟩
     case measure=>simp [intOf];omega
    ·have hz':(z != 0)=true:=by simpa using hz
     have HE:=Lib.hid (HS.out hz)
     clear HS HN
     go_wp2_with fail
     go_ret
     exact ⟨by rw [HE.out];rfl,hb4⟩
   ·have HE:=Lib.hid (show cmpL l m=zl by rw [cmpL_end (.inr (by omega)) hj hjm HF.out,HZL.out])
    go_wp2_with fail
    refine (ql.out _).mono ?_
    rintro e w' ⟨rfl,rfl⟩
    go_wp2_with fail
    go_ret
    exact ⟨by rw [HE.out];rfl,hb⟩
  ·have HE:=Lib.hid (show cmpL l m=zl by rw [cmpL_end (.inl (by omega)) hj hjm HF.out,HZL.out])
   go_wp2_with fail
   refine (ql.out _).mono ?_
   rintro e w' ⟨rfl,rfl⟩
   go_wp2_with fail
   go_ret
   exact ⟨by rw [HE.out];rfl,hb⟩
set_option maxHeartbeats 2000000 in
theorem ref_compare_at (t:Tm):RefCmpAt t:=by
 induction t using Tm.induct with
 | h k n s A c a ih =>
  intro u w ht hu
  have hl:Lst w A a c:=ht.lst
  have hm:=hu.lst
  obtain ⟨k',n',s',A',c',a'⟩:=u
  simp only [Tm.args,Tm.at_,Tm.cap] at hm
  have hlen:a.length≤9223372036854775807:=by have:=hl.1;have:=hl.2.1;unfold maxLen at *;omega
  have hlen':a'.length≤9223372036854775807:=by have:=hm.1;have:=hm.2.1;unfold maxLen at *;omega
  have q5:=Lib.hid (fun W (h:Below w.heap.size w W)=>ref_lists_at a a' ih A A' c c' W (hl.below h) (hm.below h))
  clear ih ht hu hl hm
  show Calls Tryz.prog 181 #[.agg #[.int .i64 k,.int .i64 n,.string s,.slice A a.length c],.agg #[.int .i64 k',.int .i64 n',.string s',.slice A' a'.length c']] w _
  obtain ⟨j,hj⟩:∃z,cls k=z:=⟨_,rfl⟩
  obtain ⟨j',hj'⟩:∃z,cls k'=z:=⟨_,rfl⟩
  obtain ⟨z0,h0⟩:∃z,ints j j'=z:=⟨_,rfl⟩
  obtain ⟨z1,h1⟩:∃z,ints n n'=z:=⟨_,rfl⟩
  obtain ⟨z2,h2⟩:∃z,ints k k'=z:=⟨_,rfl⟩
  obtain ⟨z3,h3⟩:∃z,texts s.data.toList s'.data.toList=z:=⟨_,rfl⟩
  obtain ⟨z4,h4⟩:∃z,ints a.length a'.length=z:=⟨_,rfl⟩
  obtain ⟨z5,h5⟩:∃z,cmpL a a'=z:=⟨_,rfl⟩
  have r1:=Lib.hid (show ∀W,Calls Tryz.prog 208 #[.agg #[.int .i64 k,.int .i64 n,.string s,.slice A a.length c]] W fun e w'=>e=.returned (.int .i64 j)∧Below W.heap.size W w' from fun W=>class_at (.mk k n s A c a) W hj)
  have r2:=Lib.hid (show ∀W,Calls Tryz.prog 208 #[.agg #[.int .i64 k',.int .i64 n',.string s',.slice A' a'.length c']] W fun e w'=>e=.returned (.int .i64 j')∧Below W.heap.size W w' from fun W=>class_at (.mk k' n' s' A' c' a') W hj')
  have q0:=Lib.hid (fun W=>ref_ints_at j j' W h0)
  have q1:=Lib.hid (fun W=>ref_ints_at n n' W h1)
  have q2:=Lib.hid (fun W=>ref_ints_at k k' W h2)
  have q3:=Lib.hid (fun W=>ref_texts_at s s' W h3)
  have q4:=Lib.hid (fun W=>ref_ints_at (a.length:Int) (a'.length:Int) W h4)
  rw [h5] at q5
  obtain ⟨R,hR⟩:∃z,cmpT (.mk k n s A c a) (.mk k' n' s' A' c' a')=z:=⟨_,rfl⟩
  have HR:=hR
  simp only [cmpT,Tm.kind,Tm.num,Tm.name,Tm.args] at HR
  rw [hj,hj',h0,h1,h2,h3,h4,h5] at HR
  rw [hR]
  clear hR h0 h1 h2 h3 h4 h5 hj'
  by_cases e0:z0=0
  ·subst e0
   rw [lex_zero] at HR
   by_cases k1:k=1
   ·subst k1
    obtain rfl:j=0:=by rw [←hj];simp [cls]
    rw [if_pos (.inl rfl)] at HR
    subst HR
    clear hj q2 q3 q4 q5
    obtain ⟨kb0,kb1,kb2,kb3,kc0,kc1,kc2,kc3⟩:=boxed8 w (.int .i64 1) (.int .i64 n) (.string s) (.slice A a.length c) (.int .i64 k') (.int .i64 n') (.string s') (.slice A' a'.length c') 69
    go_enter Tryz.func181,Tryz.ntmps181
    go_wp2_with fail
    refine wp_region_quiet_below (by kernel_rfl) (by kernel_rfl) ?_
    repeat (go_big_quiet_step (first|(go_at_call 208;first|(with_reducible exact Calls.regrown_of (r1.out _))|(with_reducible exact Calls.regrown_of (r2.out _)))|(go_at_call 160;exact Calls.regrown_of (withBelow (q0.out _)))))
    refine wpQuiet_nil ?_
    intro w1 hw'
    obtain ⟨⟨d0,d1,d2,d3⟩,⟨g0,g1,g2,g3⟩,hb1⟩:=box8 (regrown_below hw')
    clear kb0 kb1 kb2 kb3 kc0 kc1 kc2 kc3 hw'
    go_wp2_with fail
    refine (r1.out _).mono ?_
    rintro e w2 ⟨rfl,hb2⟩
    have d0':=(hb2.cell (World.block_lt_of_cell? _ _ d0)).trans d0
    have d1':=(hb2.cell (World.block_lt_of_cell? _ _ d1)).trans d1
    have d2':=(hb2.cell (World.block_lt_of_cell? _ _ d2)).trans d2
    have d3':=(hb2.cell (World.block_lt_of_cell? _ _ d3)).trans d3
    have g0':=(hb2.cell (World.block_lt_of_cell? _ _ g0)).trans g0
    have g1':=(hb2.cell (World.block_lt_of_cell? _ _ g1)).trans g1
    have g2':=(hb2.cell (World.block_lt_of_cell? _ _ g2)).trans g2
    have g3':=(hb2.cell (World.block_lt_of_cell? _ _ g3)).trans g3
    have hb3:=hb1.trans (hb2.mono hb1.size)
    clear d0 d1 d2 d3 g0 g1 g2 g3
    go_wp2_with fail
    refine (q1.out _).mono ?_
    rintro e w' ⟨rfl,rfl⟩
    go_wp2_with fail
    go_ret
    exact ⟨rfl,hb3⟩
   ·by_cases k0:k=0
    ·subst k0
     obtain rfl:j=1:=by rw [←hj];simp [cls]
     rw [if_pos (.inr rfl)] at HR
     subst HR
     clear hj q2 q3 q4 q5
     obtain ⟨kb0,kb1,kb2,kb3,kc0,kc1,kc2,kc3⟩:=boxed8 w (.int .i64 0) (.int .i64 n) (.string s) (.slice A a.length c) (.int .i64 k') (.int .i64 n') (.string s') (.slice A' a'.length c') 69
     go_enter Tryz.func181,Tryz.ntmps181
     go_wp2_with fail
     refine wp_region_quiet_below (by kernel_rfl) (by kernel_rfl) ?_
     repeat (go_big_quiet_step (first|(go_at_call 208;first|(with_reducible exact Calls.regrown_of (r1.out _))|(with_reducible exact Calls.regrown_of (r2.out _)))|(go_at_call 160;exact Calls.regrown_of (withBelow (q0.out _)))))
     refine wpQuiet_nil ?_
     intro w1 hw'
     obtain ⟨⟨d0,d1,d2,d3⟩,⟨g0,g1,g2,g3⟩,hb1⟩:=box8 (regrown_below hw')
     clear kb0 kb1 kb2 kb3 kc0 kc1 kc2 kc3 hw'
     go_wp2_with fail
     refine (r1.out _).mono ?_
     rintro e w2 ⟨rfl,hb2⟩
     have d0':=(hb2.cell (World.block_lt_of_cell? _ _ d0)).trans d0
     have d1':=(hb2.cell (World.block_lt_of_cell? _ _ d1)).trans d1
     have d2':=(hb2.cell (World.block_lt_of_cell? _ _ d2)).trans d2
     have d3':=(hb2.cell (World.block_lt_of_cell? _ _ d3)).trans d3
     have g0':=(hb2.cell (World.block_lt_of_cell? _ _ g0)).trans g0
     have g1':=(hb2.cell (World.block_lt_of_cell? _ _ g1)).trans g1
     have g2':=(hb2.cell (World.block_lt_of_cell? _ _ g2)).trans g2
     have g3':=(hb2.cell (World.block_lt_of_cell? _ _ g3)).trans g3
     have hb3:=hb1.trans (hb2.mono hb1.size)
     clear d0 d1 d2 d3 g0 g1 g2 g3
     go_wp2_with fail
     refine (q1.out _).mono ?_
     rintro e w' ⟨rfl,rfl⟩
     go_wp2_with fail
     go_ret
     exact ⟨rfl,hb3⟩
    ·rw [if_neg (by omega)] at HR
     by_cases k2:k=2
     ·subst k2
      obtain rfl:j=2:=by rw [←hj];simp [cls]
      rw [if_pos rfl] at HR
      clear hj q1 q2 k1 k0
      by_cases e1:z4=0
      ·subst e1
       rw [lex_zero] at HR
       by_cases e2:z3=0
       ·subst e2
        rw [lex_zero] at HR
        subst HR
        obtain ⟨kb0,kb1,kb2,kb3,kc0,kc1,kc2,kc3⟩:=boxed8 w (.int .i64 2) (.int .i64 n) (.string s) (.slice A a.length c) (.int .i64 k') (.int .i64 n') (.string s') (.slice A' a'.length c') 69
        go_enter Tryz.func181,Tryz.ntmps181
        go_wp2_with fail
        refine wp_region_quiet_below (by kernel_rfl) (by kernel_rfl) ?_
        repeat (go_big_quiet_step (first|(go_at_call 208;first|(with_reducible exact Calls.regrown_of (r1.out _))|(with_reducible exact Calls.regrown_of (r2.out _)))|(go_at_call 160;exact Calls.regrown_of (withBelow (q0.out _)))))
        refine wpQuiet_nil ?_
        intro w1 hw'
        obtain ⟨⟨d0,d1,d2,d3⟩,⟨g0,g1,g2,g3⟩,hb1⟩:=box8 (regrown_below hw')
        clear kb0 kb1 kb2 kb3 kc0 kc1 kc2 kc3 hw'
        go_wp2_with fail
        refine (r1.out _).mono ?_
        rintro e w2 ⟨rfl,hb2⟩
        have d0':=(hb2.cell (World.block_lt_of_cell? _ _ d0)).trans d0
        have d1':=(hb2.cell (World.block_lt_of_cell? _ _ d1)).trans d1
        have d2':=(hb2.cell (World.block_lt_of_cell? _ _ d2)).trans d2
        have d3':=(hb2.cell (World.block_lt_of_cell? _ _ d3)).trans d3
        have g0':=(hb2.cell (World.block_lt_of_cell? _ _ g0)).trans g0
        have g1':=(hb2.cell (World.block_lt_of_cell? _ _ g1)).trans g1
        have g2':=(hb2.cell (World.block_lt_of_cell? _ _ g2)).trans g2
        have g3':=(hb2.cell (World.block_lt_of_cell? _ _ g3)).trans g3
        have hb3:=hb1.trans (hb2.mono hb1.size)
        clear d0 d1 d2 d3 g0 g1 g2 g3
        go_wp2_with fail
        refine (q4.out _).mono ?_
        rintro e w' ⟨rfl,rfl⟩
        go_wp2_with fail
        refine (q3.out _).mono ?_
        rintro e w' ⟨rfl,rfl⟩
        go_wp2_with fail
        refine (q5.out _ hb3).mono ?_
        rintro e w' ⟨rfl,hb⟩
        go_wp2_with fail
        go_ret
        exact ⟨rfl,hb3.trans (hb.mono hb3.size)⟩
       ·rw [lex_ne e2] at HR
        subst HR
        have e2':(z3==0)=false:=by simpa using e2
        clear q5
        obtain ⟨kb0,kb1,kb2,kb3,kc0,kc1,kc2,kc3⟩:=boxed8 w (.int .i64 2) (.int .i64 n) (.string s) (.slice A a.length c) (.int .i64 k') (.int .i64 n') (.string s') (.slice A' a'.length c') 69
        go_enter Tryz.func181,Tryz.ntmps181
        go_wp2_with fail
        refine wp_region_quiet_below (by kernel_rfl) (by kernel_rfl) ?_
        repeat (go_big_quiet_step (first|(go_at_call 208;first|(with_reducible exact Calls.regrown_of (r1.out _))|(with_reducible exact Calls.regrown_of (r2.out _)))|(go_at_call 160;exact Calls.regrown_of (withBelow (q0.out _)))))
        refine wpQuiet_nil ?_
        intro w1 hw'
        obtain ⟨⟨d0,d1,d2,d3⟩,⟨g0,g1,g2,g3⟩,hb1⟩:=box8 (regrown_below hw')
        clear kb0 kb1 kb2 kb3 kc0 kc1 kc2 kc3 hw'
        go_wp2_with fail
        refine (r1.out _).mono ?_
        rintro e w2 ⟨rfl,hb2⟩
        have d0':=(hb2.cell (World.block_lt_of_cell? _ _ d0)).trans d0
        have d1':=(hb2.cell (World.block_lt_of_cell? _ _ d1)).trans d1
        have d2':=(hb2.cell (World.block_lt_of_cell? _ _ d2)).trans d2
        have d3':=(hb2.cell (World.block_lt_of_cell? _ _ d3)).trans d3
        have g0':=(hb2.cell (World.block_lt_of_cell? _ _ g0)).trans g0
        have g1':=(hb2.cell (World.block_lt_of_cell? _ _ g1)).trans g1
        have g2':=(hb2.cell (World.block_lt_of_cell? _ _ g2)).trans g2
        have g3':=(hb2.cell (World.block_lt_of_cell? _ _ g3)).trans g3
        have hb3:=hb1.trans (hb2.mono hb1.size)
        clear d0 d1 d2 d3 g0 g1 g2 g3
        go_wp2_with fail
        refine (q4.out _).mono ?_
        rintro e w' ⟨rfl,rfl⟩
        go_wp2_with fail
        refine (q3.out _).mono ?_
        rintro e w' ⟨rfl,rfl⟩
        go_wp2_with fail
        go_ret
        exact ⟨rfl,hb3⟩
      ·rw [lex_ne e1] at HR
       subst HR
       have e1':(z4==0)=false:=by simpa using e1
       clear q5 q3
       obtain ⟨kb0,kb1,kb2,kb3,kc0,kc1,kc2,kc3⟩:=boxed8 w (.int .i64 2) (.int .i64 n) (.string s) (.slice A a.length c) (.int .i64 k') (.int .i64 n') (.string s') (.slice A' a'.length c') 69
       go_enter Tryz.func181,Tryz.ntmps181
       go_wp2_with fail
       refine wp_region_quiet_below (by kernel_rfl) (by kernel_rfl) ?_
       repeat (go_big_quiet_step (first|(go_at_call 208;first|(with_reducible exact Calls.regrown_of (r1.out _))|(with_reducible exact Calls.regrown_of (r2.out _)))|(go_at_call 160;exact Calls.regrown_of (withBelow (q0.out _)))))
       refine wpQuiet_nil ?_
       intro w1 hw'
       obtain ⟨⟨d0,d1,d2,d3⟩,⟨g0,g1,g2,g3⟩,hb1⟩:=box8 (regrown_below hw')
       clear kb0 kb1 kb2 kb3 kc0 kc1 kc2 kc3 hw'
       go_wp2_with fail
       refine (r1.out _).mono ?_
       rintro e w2 ⟨rfl,hb2⟩
       have d0':=(hb2.cell (World.block_lt_of_cell? _ _ d0)).trans d0
       have d1':=(hb2.cell (World.block_lt_of_cell? _ _ d1)).trans d1
       have d2':=(hb2.cell (World.block_lt_of_cell? _ _ d2)).trans d2
       have d3':=(hb2.cell (World.block_lt_of_cell? _ _ d3)).trans d3
       have g0':=(hb2.cell (World.block_lt_of_cell? _ _ g0)).trans g0
       have g1':=(hb2.cell (World.block_lt_of_cell? _ _ g1)).trans g1
       have g2':=(hb2.cell (World.block_lt_of_cell? _ _ g2)).trans g2
       have g3':=(hb2.cell (World.block_lt_of_cell? _ _ g3)).trans g3
       have hb3:=hb1.trans (hb2.mono hb1.size)
       clear d0 d1 d2 d3 g0 g1 g2 g3
       go_wp2_with fail
       refine (q4.out _).mono ?_
       rintro e w' ⟨rfl,rfl⟩
       go_wp2_with fail
       go_ret
       exact ⟨rfl,hb3⟩
     ·rw [if_neg k2] at HR
      obtain rfl:j=3:=by rw [←hj];simp [cls,k1,k0,k2]
      clear hj q4 q5 k1 k0 k2
      by_cases e1:z2=0
      ·subst e1
       rw [lex_zero] at HR
       by_cases e2:z1=0
       ·subst e2
        rw [lex_zero] at HR
        subst HR
        obtain ⟨kb0,kb1,kb2,kb3,kc0,kc1,kc2,kc3⟩:=boxed8 w (.int .i64 k) (.int .i64 n) (.string s) (.slice A a.length c) (.int .i64 k') (.int .i64 n') (.string s') (.slice A' a'.length c') 69
        go_enter Tryz.func181,Tryz.ntmps181
        go_wp2_with fail
        refine wp_region_quiet_below (by kernel_rfl) (by kernel_rfl) ?_
        repeat (go_big_quiet_step (first|(go_at_call 208;first|(with_reducible exact Calls.regrown_of (r1.out _))|(with_reducible exact Calls.regrown_of (r2.out _)))|(go_at_call 160;exact Calls.regrown_of (withBelow (q0.out _)))))
        refine wpQuiet_nil ?_
        intro w1 hw'
        obtain ⟨⟨d0,d1,d2,d3⟩,⟨g0,g1,g2,g3⟩,hb1⟩:=box8 (regrown_below hw')
        clear kb0 kb1 kb2 kb3 kc0 kc1 kc2 kc3 hw'
        go_wp2_with fail
        refine (r1.out _).mono ?_
        rintro e w2 ⟨rfl,hb2⟩
        have d0':=(hb2.cell (World.block_lt_of_cell? _ _ d0)).trans d0
        have d1':=(hb2.cell (World.block_lt_of_cell? _ _ d1)).trans d1
        have d2':=(hb2.cell (World.block_lt_of_cell? _ _ d2)).trans d2
        have d3':=(hb2.cell (World.block_lt_of_cell? _ _ d3)).trans d3
        have g0':=(hb2.cell (World.block_lt_of_cell? _ _ g0)).trans g0
        have g1':=(hb2.cell (World.block_lt_of_cell? _ _ g1)).trans g1
        have g2':=(hb2.cell (World.block_lt_of_cell? _ _ g2)).trans g2
        have g3':=(hb2.cell (World.block_lt_of_cell? _ _ g3)).trans g3
        have hb3:=hb1.trans (hb2.mono hb1.size)
        clear d0 d1 d2 d3 g0 g1 g2 g3
        go_wp2_with fail
        refine (q2.out _).mono ?_
        rintro e w' ⟨rfl,rfl⟩
        go_wp2_with fail
        refine (q1.out _).mono ?_
        rintro e w' ⟨rfl,rfl⟩
        go_wp2_with fail
        refine (q3.out _).mono ?_
        rintro e w' ⟨rfl,rfl⟩
        go_wp2_with fail
        go_ret
        exact ⟨rfl,hb3⟩
       ·rw [lex_ne e2] at HR
        subst HR
        have e2':(z1==0)=false:=by simpa using e2
        clear q3
        obtain ⟨kb0,kb1,kb2,kb3,kc0,kc1,kc2,kc3⟩:=boxed8 w (.int .i64 k) (.int .i64 n) (.string s) (.slice A a.length c) (.int .i64 k') (.int .i64 n') (.string s') (.slice A' a'.length c') 69
        go_enter Tryz.func181,Tryz.ntmps181
        go_wp2_with fail
        refine wp_region_quiet_below (by kernel_rfl) (by kernel_rfl) ?_
        repeat (go_big_quiet_step (first|(go_at_call 208;first|(with_reducible exact Calls.regrown_of (r1.out _))|(with_reducible exact Calls.regrown_of (r2.out _)))|(go_at_call 160;exact Calls.regrown_of (withBelow (q0.out _)))))
        refine wpQuiet_nil ?_
        intro w1 hw'
        obtain ⟨⟨d0,d1,d2,d3⟩,⟨g0,g1,g2,g3⟩,hb1⟩:=box8 (regrown_below hw')
        clear kb0 kb1 kb2 kb3 kc0 kc1 kc2 kc3 hw'
        go_wp2_with fail
        refine (r1.out _).mono ?_
        rintro e w2 ⟨rfl,hb2⟩
        have d0':=(hb2.cell (World.block_lt_of_cell? _ _ d0)).trans d0
        have d1':=(hb2.cell (World.block_lt_of_cell? _ _ d1)).trans d1
        have d2':=(hb2.cell (World.block_lt_of_cell? _ _ d2)).trans d2
        have d3':=(hb2.cell (World.block_lt_of_cell? _ _ d3)).trans d3
        have g0':=(hb2.cell (World.block_lt_of_cell? _ _ g0)).trans g0
        have g1':=(hb2.cell (World.block_lt_of_cell? _ _ g1)).trans g1
        have g2':=(hb2.cell (World.block_lt_of_cell? _ _ g2)).trans g2
        have g3':=(hb2.cell (World.block_lt_of_cell? _ _ g3)).trans g3
        have hb3:=hb1.trans (hb2.mono hb1.size)
        clear d0 d1 d2 d3 g0 g1 g2 g3
        go_wp2_with fail
        refine (q2.out _).mono ?_
        rintro e w' ⟨rfl,rfl⟩
        go_wp2_with fail
        refine (q1.out _).mono ?_
        rintro e w' ⟨rfl,rfl⟩
        go_wp2_with fail
        go_ret
        exact ⟨rfl,hb3⟩
      ·rw [lex_ne e1] at HR
       subst HR
       have e1':(z2==0)=false:=by simpa using e1
       clear q3 q1
       obtain ⟨kb0,kb1,kb2,kb3,kc0,kc1,kc2,kc3⟩:=boxed8 w (.int .i64 k) (.int .i64 n) (.string s) (.slice A a.length c) (.int .i64 k') (.int .i64 n') (.string s') (.slice A' a'.length c') 69
       go_enter Tryz.func181,Tryz.ntmps181
       go_wp2_with fail
       refine wp_region_quiet_below (by kernel_rfl) (by kernel_rfl) ?_
       repeat (go_big_quiet_step (first|(go_at_call 208;first|(with_reducible exact Calls.regrown_of (r1.out _))|(with_reducible exact Calls.regrown_of (r2.out _)))|(go_at_call 160;exact Calls.regrown_of (withBelow (q0.out _)))))
       refine wpQuiet_nil ?_
       intro w1 hw'
       obtain ⟨⟨d0,d1,d2,d3⟩,⟨g0,g1,g2,g3⟩,hb1⟩:=box8 (regrown_below hw')
       clear kb0 kb1 kb2 kb3 kc0 kc1 kc2 kc3 hw'
       go_wp2_with fail
       refine (r1.out _).mono ?_
       rintro e w2 ⟨rfl,hb2⟩
       have d0':=(hb2.cell (World.block_lt_of_cell? _ _ d0)).trans d0
       have d1':=(hb2.cell (World.block_lt_of_cell? _ _ d1)).trans d1
       have d2':=(hb2.cell (World.block_lt_of_cell? _ _ d2)).trans d2
       have d3':=(hb2.cell (World.block_lt_of_cell? _ _ d3)).trans d3
       have g0':=(hb2.cell (World.block_lt_of_cell? _ _ g0)).trans g0
       have g1':=(hb2.cell (World.block_lt_of_cell? _ _ g1)).trans g1
       have g2':=(hb2.cell (World.block_lt_of_cell? _ _ g2)).trans g2
       have g3':=(hb2.cell (World.block_lt_of_cell? _ _ g3)).trans g3
       have hb3:=hb1.trans (hb2.mono hb1.size)
       clear d0 d1 d2 d3 g0 g1 g2 g3
       go_wp2_with fail
       refine (q2.out _).mono ?_
       rintro e w' ⟨rfl,rfl⟩
       go_wp2_with fail
       go_ret
       exact ⟨rfl,hb3⟩
  ·rw [lex_ne e0] at HR
   subst HR
   have e0':(z0 != 0)=true:=by simpa using e0
   clear hj q1 q2 q3 q4 q5
   obtain ⟨kb0,kb1,kb2,kb3,kc0,kc1,kc2,kc3⟩:=boxed8 w (.int .i64 k) (.int .i64 n) (.string s) (.slice A a.length c) (.int .i64 k') (.int .i64 n') (.string s') (.slice A' a'.length c') 69
   go_enter Tryz.func181,Tryz.ntmps181
   go_wp2_with fail
   refine wp_region_quiet_below (by kernel_rfl) (by kernel_rfl) ?_
   repeat (go_big_quiet_step (first|(go_at_call 208;first|(with_reducible exact Calls.regrown_of (r1.out _))|(with_reducible exact Calls.regrown_of (r2.out _)))|(go_at_call 160;exact Calls.regrown_of (withBelow (q0.out _)))))
   refine wpQuiet_nil ?_
   intro w1 hw'
   obtain ⟨⟨d0,d1,d2,d3⟩,⟨g0,g1,g2,g3⟩,hb1⟩:=box8 (regrown_below hw')
   clear kb0 kb1 kb2 kb3 kc0 kc1 kc2 kc3 hw'
   go_wp2_with fail
   go_ret
   exact ⟨rfl,hb1⟩
theorem same_terms_at (l m:List Tm) (A B:Option Addr) (c d:Nat) (w:World) (hl:Lst w A l c) (hm:Lst w B m d) {r:Bool} (hr:(cmpL l m==0)=r) :
  Calls Tryz.prog 108 #[.slice A l.length c,.slice B m.length d] w fun e w'=>e=.returned (.bool r)∧Below w.heap.size w w':=by
 have Q:=Lib.hid (ref_lists_at l m (fun x _=>ref_compare_at x) A B c d w hl hm)
 generalize cmpL l m=z at *
 have HR:=Lib.hid hr
 clear hr
 go_enter Tryz.func108,Tryz.ntmps108
 go_wp2_with fail
 refine (Q.out).mono ?_
 rintro e w' ⟨rfl,hb⟩
 go_wp2_with fail
 go_ret
 exact ⟨by rw [←HR.out];rfl,hb⟩
end Go.Proofs.YtnghanpmmbcbbaaGreatDoor
namespace Go.Proofs.YtnghanpmmbcbbaaGreatDoor
open Go.ChangeShapes Go.WideShapes Go.ChangeAt Go.RowKit
theorem types:Types Tryz.prog 3 9 51 69 :=
 ⟨Tryz.underlying3,Tryz.underlying9,Tryz.underlying51,⟨_,_,_,_,Tryz.underlying69,⟨rfl,rfl⟩,⟨rfl,rfl⟩,⟨rfl,rfl⟩,⟨rfl,rfl⟩⟩,by kernel_rfl,by kernel_rfl,by kernel_rfl,by kernel_rfl⟩
section
variable {H:Type} {enc:TypeId×Value→H} {W:World} {base:Nat} {spare:Nat→Bool} {held:Bool}
end
end Go.Proofs.YtnghanpmmbcbbaaGreatDoor
namespace Go.Proofs.YtnghanpmmbcbbaaGreatDoor
open Go.RowKit Go.Maps
theorem OwnI.mono {w:World} {base base':Nat} {v:Value} {l:List Int} (h:OwnI w base v l) (hb:base'≤base):OwnI w base' v l:=by
 refine ⟨h.1,?_⟩
 rcases h.2 with h|⟨g,cap,cur,h1,h2,h3⟩
 ·exact .inl h
 ·exact .inr ⟨g,cap,cur,h1,Nat.le_trans hb h2,h3⟩
end Go.Proofs.YtnghanpmmbcbbaaGreatDoor
namespace Go.Proofs.YtnghanpmmbcbbaaGreatDoor
open Go.ChangeShapes Go.WideShapes Go.ChangeAt Go.RowKit
set_option linter.unusedVariables false
def cmpA (a b:Am):Int:=lex (texts a.name.data.toList b.name.data.toList) (lex (ints a.args.length b.args.length) (cmpL a.args b.args))
def sameG (g h:Gl):Bool:=decide (g.op=h.op)&&(decide (g.name=h.name)&&(cmpL g.args h.args==0))
set_option maxHeartbeats 1000000 in
theorem ref_compare_atom_at (t u:Am) (w:World) (ht:t.At w) (hu:u.At w) {r:Int} (hr:cmpA t u=r) :
  Calls Tryz.prog 123 #[t.val,u.val] w fun e w'=>e=.returned (.int .i64 r)∧Below w.heap.size w w':=by
 have hl:=ht.2
 have hm:=hu.2
 obtain ⟨s,A,c,a⟩:=t
 obtain ⟨s',A',c',a'⟩:=u
 simp only [cmpA] at hr hl hm
 show Calls Tryz.prog 123 #[.agg #[.string s,.slice A a.length c],.agg #[.string s',.slice A' a'.length c']] w _
 have hlen:a.length≤9223372036854775807:=hl.len
 have hlen':a'.length≤9223372036854775807:=hm.len
 obtain ⟨z1,h1⟩:∃z,ints a.length a'.length=z:=⟨_,rfl⟩
 obtain ⟨z2,h2⟩:∃z,texts s.data.toList s'.data.toList=z:=⟨_,rfl⟩
 have q1:=Lib.hid (fun W=>ref_ints_at (a.length:Int) (a'.length:Int) W h1)
 have q2:=Lib.hid (fun W=>ref_texts_at s s' W h2)
 have q3:=Lib.hid (fun W (h:Below w.heap.size w W)=>ref_lists_at a a' (fun x _=>ref_compare_at x) A A' c c' W (hl.below h) (hm.below h))
 obtain ⟨z3,h3⟩:∃z,cmpL a a'=z:=⟨_,rfl⟩
 rw [h3] at q3
 rw [h1,h2,h3] at hr
 clear h1 h2 h3 hl hm ht hu
 by_cases e2:z2=0
 ·subst e2
  rw [lex_zero] at hr
  by_cases e1:z1=0
  ·subst e1
   rw [lex_zero] at hr
   subst hr
   go_enter Tryz.func123,Tryz.ntmps123
   go_wp2_with fail
   refine (q2.out _).mono ?_
   rintro e w' ⟨rfl,rfl⟩
   go_wp2_with fail
   refine (q1.out _).mono ?_
   rintro e w' ⟨rfl,rfl⟩
   go_wp2_with fail
   refine (q3.out _ (below2 _ _ _)).mono ?_
   rintro e w' ⟨rfl,hb⟩
   go_wp2_with fail
   go_ret
   exact ⟨rfl,(below2 _ _ _).trans (hb.mono (by simp;omega))⟩
  ·rw [lex_ne e1] at hr
   subst hr
   have e1':(z1 != 0)=true:=by simpa using e1
   have e1'':(z1==0)=false:=by simpa using e1
   go_enter Tryz.func123,Tryz.ntmps123
   go_wp2_with fail
   refine (q2.out _).mono ?_
   rintro e w' ⟨rfl,rfl⟩
   go_wp2_with fail
   refine (q1.out _).mono ?_
   rintro e w' ⟨rfl,rfl⟩
   go_wp2_with fail
   go_ret
   exact ⟨rfl,below2 _ _ _⟩
 ·rw [lex_ne e2] at hr
  subst hr
  have e2':(z2 != 0)=true:=by simpa using e2
  have e2'':(z2==0)=false:=by simpa using e2
  go_enter Tryz.func123,Tryz.ntmps123
  go_wp2_with fail
  refine (q2.out _).mono ?_
  rintro e w' ⟨rfl,rfl⟩
  go_wp2_with fail
  go_ret
  exact ⟨rfl,below2 _ _ _⟩
theorem ref_same_atom_at (t u:Am) (w:World) (ht:t.At w) (hu:u.At w) {r:Bool} (hr:(cmpA t u==0)=r) :
  Calls Tryz.prog 80 #[t.val,u.val] w fun e w'=>e=.returned (.bool r)∧Below w.heap.size w w':=by
 have Q:=Lib.hid (fun W (h:Below w.heap.size w W)=>ref_compare_atom_at t u W (ht.below h) (hu.below h) rfl)
 generalize cmpA t u=z at *
 obtain ⟨s,A,c,a⟩:=t
 obtain ⟨s',A',c',a'⟩:=u
 show Calls Tryz.prog 80 #[.agg #[.string s,.slice A a.length c],.agg #[.string s',.slice A' a'.length c']] w _
 have HR:=Lib.hid hr
 clear hr ht hu
 go_enter Tryz.func80,Tryz.ntmps80
 go_wp2_with fail
 refine (Q.out _ (below2 _ _ _)).mono ?_
 rintro e w1 ⟨rfl,hb⟩
 go_wp2_with fail
 go_ret
 exact ⟨by rw [←HR.out];rfl,(below2 _ _ _).trans (hb.mono (by simp;omega))⟩
theorem same_ne {l m:List Tm} (h:l.length≠m.length):(cmpL l m==0)=false:=by
 induction l generalizing m with
 | nil=>cases m with
  | nil=>simp at h
  | cons y q=>rfl
 | cons x r ih=>cases m with
  | nil=>rfl
  | cons y q =>
   have:=ih (m:=q) (by simpa using h)
   simp only [cmpL,lex]
   split
   ·exact this
   ·simpa using ‹¬_›
set_option maxHeartbeats 1000000 in
theorem ref_same_goal_at (t u:Gl) (w:World) (ht:t.At w) (hu:u.At w) {r:Bool} (hr:sameG t u=r) :
  Calls Tryz.prog 66 #[t.val,u.val] w fun e w'=>e=.returned (.bool r)∧Below w.heap.size w w':=by
 have hl:=ht.2.2
 have hm:=hu.2.2
 obtain ⟨op,s,A,c,a⟩:=t
 obtain ⟨op',s',A',c',a'⟩:=u
 simp only [sameG] at hr hl hm
 show Calls Tryz.prog 66 #[.agg #[.int .i64 op,.string s,.slice A a.length c],.agg #[.int .i64 op',.string s',.slice A' a'.length c']] w _
 have hlen:a.length≤9223372036854775807:=hl.len
 have hlen':a'.length≤9223372036854775807:=hm.len
 obtain ⟨b3,h3⟩:∃z,(cmpL a a'==0)=z:=⟨_,rfl⟩
 have q3:=Lib.hid (fun W (h:Below w.heap.size w W)=>same_terms_at a a' A A' c c' W (hl.below h) (hm.below h) h3)
 have HN:=Lib.hid (fun h:a.length≠a'.length=>(h3.symm.trans (same_ne h):b3=false))
 rw [h3] at hr
 clear h3 hl hm ht hu
 by_cases e1:op=op'
 ·subst e1
  by_cases e2:s=s'
  ·subst e2
   obtain rfl:b3=r:=by simpa using hr
   clear hr
   by_cases e3:a.length=a'.length
   ·have e3':((a.length:Int)==(a'.length:Int))=true:=by simp;omega
    clear e3
    go_enter Tryz.func66,Tryz.ntmps66
    go_wp2_with fail
    refine (q3.out _ (below2 _ _ _)).mono ?_
    rintro e w' ⟨rfl,hb⟩
    go_wp2_with fail
    go_ret
    exact ⟨rfl,(below2 _ _ _).trans (hb.mono (by simp;omega))⟩
   ·have e3':((a.length:Int)==(a'.length:Int))=false:=by simp;omega
    obtain rfl:=HN.out e3
    clear e3 HN
    go_enter Tryz.func66,Tryz.ntmps66
    go_wp2_with fail
    go_ret
    exact ⟨rfl,below2 _ _ _⟩
  ·have e2':(s.toList==s'.toList)=false:=by
    rw [ByteArray.toList_eq,ByteArray.toList_eq]
    exact beq_eq_false_iff_ne.2 (fun h=>e2 (bytes_inj h))
   have e2'':decide (s=s')=false:=by simpa using e2
   have HR:=Lib.hid (show false=r by rw [←hr];simp [e2])
   clear hr e2
   go_enter Tryz.func66,Tryz.ntmps66
   go_wp2_with fail
   go_ret
   exact ⟨by rw [←HR.out];rfl,below2 _ _ _⟩
 ·have e1':(op==op')=false:=by simpa using e1
  have HR:=Lib.hid (show false=r by rw [←hr];simp [e1])
  clear hr e1
  go_enter Tryz.func66,Tryz.ntmps66
  go_wp2_with fail
  go_ret
  exact ⟨by rw [←HR.out];rfl,below2 _ _ _⟩
end Go.Proofs.YtnghanpmmbcbbaaGreatDoor
namespace Go.Proofs.YtnghanpmmbcbbaaGreatDoor
open Go
theorem lexz_iff {x y:Int}:lex x y=0↔x=0∧y=0:=by
 unfold lex
 split
 ·rename_i h;simp [h]
 ·rename_i h;simp [h]
theorem ints_zero {a b:Int}:ints a b=0↔a=b:=by
 unfold ints
 split
 ·simp;omega
 ·split
  ·simp;omega
  ·simp;omega
theorem cmp_trans {t u v:Tm} (h1:cmpT t u=0) (h2:cmpT u v=0):cmpT t v=0:=by rw [cmpT_congr (t:=v) (u:=u) (by rw [cmpT_flip,h2];rfl),h1]
theorem cmp_symm {t u:Tm} (h:cmpT t u=0):cmpT u t=0:=by rw [cmpT_flip,h];rfl
theorem cmp_kind {t u:Tm} (h:cmpT t u=0):cls t.kind=cls u.kind:=by
 obtain ⟨k,n,s,A,c,a⟩:=t
 simp only [cmpT,lexz_iff] at h
 exact cls_eq h.1
theorem cls_one {k:Int}:cls k=0↔k=1:=by
 unfold cls;split
 ·simp [*]
 ·rename_i h;split<;>(try split)<;>simp [h]
theorem cls_two {k:Int}:cls k=2↔k=2:=by
 unfold cls;split
 ·rename_i h;simp [h]
 ·split
  ·rename_i h;simp [h]
  ·split
   ·rename_i h;simp [h]
   ·rename_i h;simp [h]
theorem cmp_var {t u:Tm} (h:cmpT t u=0) (hk:t.kind=1):u.kind=1∧u.num=t.num:=by
 have h1:=cmp_kind h
 rw [hk] at h1
 have h2:u.kind=1:=cls_one.1 (h1.symm.trans (cls_one.2 rfl))
 obtain ⟨k,n,s,A,c,a⟩:=t
 simp only [Tm.kind] at hk
 subst hk
 simp only [cmpT,lexz_iff,true_or,if_true] at h
 exact ⟨h2,(ints_zero.1 h.2).symm⟩
theorem cmp_vars {t u:Tm} (h1:t.kind=1) (h2:u.kind=1) (h3:t.num=u.num):cmpT t u=0:=by
 obtain ⟨k,n,s,A,c,a⟩:=t
 obtain ⟨k',n',s',A',c',a'⟩:=u
 simp only [Tm.kind,Tm.num] at h1 h2 h3
 subst h1 h2 h3
 simp [cmpT,Tm.kind,Tm.num,ints_self,lex]
theorem cmp_fun (n n':Int) (s s':ByteArray) (A A':Option Addr) (c c':Nat) (a a':List Tm) :
  cmpT (.mk 2 n s A c a) (.mk 2 n' s' A' c' a')=0↔a.length=a'.length∧texts s.data.toList s'.data.toList=0∧cmpL a a'=0:=by
 simp only [cmpT,Tm.kind,Tm.num,Tm.name,Tm.args]
 rw [if_neg (by omega),if_pos trivial,ints_self,lexz_iff,lexz_iff,lexz_iff,ints_zero]
 simp only [true_and,Int.natCast_inj]
theorem cmpL_len {l m:List Tm} (h:cmpL l m=0):l.length=m.length:=by
 induction l generalizing m with
 | nil=>cases m with
  | nil=>rfl
  | cons _ _=>simp [cmpL] at h
 | cons t r ih=>cases m with
  | nil=>simp [cmpL] at h
  | cons u q =>
   simp only [cmpL,lexz_iff] at h
   simp [ih h.2]
def sameAt (a c:List Bd) (i:Nat):Bool:=decide ((a.getD i default).var=(c.getD i default).var)&&(cmpT (a.getD i default).tm (c.getD i default).tm==0)
def sameUp (a c:List Bd) (j:Nat):Bool:=(List.range j).all (sameAt a c)
def sameB (a c:List Bd):Bool:=decide (a.length=c.length)&&sameUp a c a.length
def restr (b:List Bd) (vars:List Int):List Bd:=b.filter fun x=>decide (x.var∈vars)
end Go.Proofs.YtnghanpmmbcbbaaGreatDoor
namespace Go.Proofs.YtnghanpmmbcbbaaGreatDoor
open Go.RowKit
abbrev zeroT:Tm:=.mk 0 0 ⟨#[]⟩ none 0 []
abbrev zeroBox:Obj:=.cells #[.int .i64 0,.int .i64 0,.string ⟨#[]⟩,.slice none 0 0] 69
def optT (o:Option Tm):Tm:=o.getD zeroT
def SomeIdx (r:Bool) (w:World) (e:Ending) (w':World):Prop:=∃m:Int,decide (0≤m)=r∧e=.returned (.int .i64 m)∧Below w.heap.size w w'
def hasB (l:List Bd) (t:Tm):Bool:=t.occ.any fun v=>(look l v).isSome
end Go.Proofs.YtnghanpmmbcbbaaGreatDoor
namespace Go.Proofs.YtnghanpmmbcbbaaGreatDoor
open Go.RowKit
def Made (t:Tm) (w:World) (e:Ending) (w':World):Prop:=∃u:Tm,e=.returned u.val∧u.strip=t.strip∧Lie Any w.heap.size No w' u∧Below w.heap.size w w'
def MadeL (l:List Tm) (w:World) (e:Ending) (w':World):Prop :=
 ∃A cap,∃cur:List Tm,e=.returned (.slice A l.length cap)∧cur.length=l.length∧stripL cur=stripL l∧(∀W,Agree w.heap.size No w' W→Lst W A cur cap)∧Below w.heap.size w w'
theorem length_le_nodes (l:List Tm):l.length≤nodesL l:=by
 induction l with
 | nil=>simp [nodesL]
 | cons t r ih =>
  have h:1≤t.nodes:=by cases t;simp [Tm.nodes]
  simp only [nodesL,List.length_cons];omega
theorem two_boxes (w:World) (v0 v1 v2 v3 u0 u1 u2 u3:Value) (T:TypeId) :
  Held w.heap.size ((w.alloc (.cells #[v0,v1,v2,v3] T)).alloc (.cells #[u0,u1,u2,u3] T)) v0 v1 v2 v3∧Held (w.heap.size+1) ((w.alloc (.cells #[v0,v1,v2,v3] T)).alloc (.cells #[u0,u1,u2,u3] T)) u0 u1 u2 u3:=by
 have h:=held_new (v0:=u0) (v1:=u1) (v2:=u2) (v3:=u3) (w.alloc (.cells #[v0,v1,v2,v3] T)) T
 rw [World.size_alloc] at h
 exact ⟨(held_new w T).alloc _,h⟩
theorem lie_row {w w':World} {k n:Int} {s:ByteArray} {A:Option Addr} {cap lo:Nat} {cur:List Tm} (hp:Fits k∧Fits n∧s.size≤maxLen) (h:∀W,Agree lo No w' W→Lst W A cur cap) (hlo:w.heap.size≤lo):Lie Any w.heap.size No w' (.mk k n s A cap cur) :=
 fun W _ hW=>(At_iff _ _).2 ⟨hp,h W fun b h1 h2 h3=>hW b (by omega) h2 h3⟩
end Go.Proofs.YtnghanpmmbcbbaaGreatDoor
namespace Go.Proofs.YtnghanpmmbcbbaaGreatDoor
open Go.RowKit
def MadeN (n:Nat) (m:List Tm) (w:World) (e:Ending) (w':World):Prop :=
 ∃A cap,∃cur:List Tm,e=.returned (.slice A n cap)∧cur.length=n∧stripL cur=stripL m∧(∀W,Agree w.heap.size No w' W→Lst W A cur cap)∧Below w.heap.size w w'
structure Good (b:List Bd):Prop where
 len:b.length≤1000000
 srt:Srt b
 nodes:∀x∈b,x.tm.nodes≤1000000
end Go.Proofs.YtnghanpmmbcbbaaGreatDoor
namespace Go.Proofs.YtnghanpmmbcbbaaGreatDoor
open Go
def insE (b:Bd):List Bd→List Bd
 | []=>[b]
 | x :: l=>if b.var < x.var then b :: x :: l else x :: insE b l
def sameE (a b:List Bd):Prop:=a.length=b.length∧∀k,k < a.length→(a.getD k default).var=(b.getD k default).var∧cmpT (a.getD k default).tm (b.getD k default).tm=0
def sameO:Option Tm→Option Tm→Prop
 | none,none=>True
 | some t,some u=>cmpT t u=0
 | _,_=>False
mutual
def matT (e:List Bd):Tm→Tm→Option (List Bd)
 | .mk k n s A c a,t =>
  if k=2 then (if t.kind=2∧s=t.name then matL e a t.args else none)
  else if k=1 then (match look e n with
   | some u=>if cmpT u t=0 then some e else none
   | none=>some (insE ⟨n,t⟩ e))
  else if cmpT (.mk k n s A c a) t=0 then some e else none
def matL (e:List Bd):List Tm→List Tm→Option (List Bd)
 | [],[]=>some e
 | [],_ :: _=>none
 | _ :: _,[]=>none
 | p :: ps,t :: ts=>(match matT e p t with
  | some e'=>matL e' ps ts
  | none=>none)
end
structure Ext8 (e e':List Bd) (vs:List Int):Prop where
 keep:∀v u,look e v=some u→look e' v=some u
 new:∀v u,look e' v=some u→look e v=some u∨v∈vs
 all:∀v∈vs,∃u,look e' v=some u
 asc:Asc e→Asc e'
theorem Ext8.refl (e:List Bd):Ext8 e e []:=⟨fun _ _ h=>h,fun _ _ h=>.inl h,fun v hv=>(by cases hv),fun h=>h⟩
end Go.Proofs.YtnghanpmmbcbbaaGreatDoor
namespace Go.Proofs.YtnghanpmmbcbbaaGreatDoor
open Go
theorem texts_eq:∀{a b:List UInt8},texts a b=0→a=b:=by
 intro a
 induction a with
 | nil =>
  intro b h
  cases b with
  | nil=>rfl
  | cons y q=>simp [texts,Op.bytesLess] at h
 | cons x r ih =>
  intro b h
  cases b with
  | nil=>simp [texts,Op.bytesLess] at h
  | cons y q =>
   rw [texts_cons] at h
   obtain ⟨h1,h2⟩:=lexz_iff.1 h
   have:=ints_zero.1 h1
   rw [ih h2,UInt8.toNat_inj.1 (show x.toNat=y.toNat by omega)]
def shiftV (f v:Int):Int:=if -9223372036854775808≤f+v∧f+v≤9223372036854775807 then f+v else v
mutual
def Tm.inst (e:List Bd) (f:Int):Tm→Tm
 | .mk k n s A c a =>
  if k=2 then .mk 2 0 s none 0 (instL e f a)
  else if k=1 then (look e n).getD (.mk 1 (shiftV f n) ByteArray.empty none 0 [])
  else if k=0 then .mk 0 n ByteArray.empty none 0 []
  else .mk k n s A c a
def instL (e:List Bd) (f:Int):List Tm→List Tm
 | []=>[]
 | t :: r=>t.inst e f :: instL e f r
end
theorem cmp_ints (n:Int) (s s':ByteArray) (A A':Option Addr) (c c':Nat) (a a':List Tm):cmpT (.mk 0 n s A c a) (.mk 0 n s' A' c' a')=0:=by
 simp [cmpT,Tm.kind,Tm.num,ints_self,lex]
def sameM:Option (List Bd)→Option (List Bd)→Prop
 | none,none=>True
 | some a,some b=>sameE a b
 | _,_=>False
end Go.Proofs.YtnghanpmmbcbbaaGreatDoor
namespace Go.Proofs.YtnghanpmmbcbbaaGreatDoor
mutual
def Tm.vmap (g:Int→Int):Tm→Tm
 | .mk k n s _ _ a=>if k=1 then .mk 1 (g n) ByteArray.empty none 0 [] else if k=2 then .mk 2 0 s none 0 (vmapL g a) else if k=0 then .mk 0 n ByteArray.empty none 0 [] else .mk k n s none 0 []
def vmapL (g:Int→Int):List Tm→List Tm
 | []=>[]
 | t :: r=>t.vmap g :: vmapL g r
end
theorem vmapL_map (g:Int→Int) (l:List Tm):vmapL g l=l.map (Tm.vmap g):=by
 induction l with
 | nil=>simp [vmapL]
 | cons t r ih=>simp [vmapL,ih]
theorem vmapL_append (g:Int→Int) (l m:List Tm):vmapL g (l++m)=vmapL g l++vmapL g m:=by simp [vmapL_map]
theorem vmap_var (g:Int→Int) (n:Int) (s:ByteArray) (A:Option Addr) (c:Nat) (a:List Tm):(Tm.mk 1 n s A c a).vmap g=.mk 1 (g n) ByteArray.empty none 0 []:=by simp [Tm.vmap]
theorem vmap_fun (g:Int→Int) (n:Int) (s:ByteArray) (A:Option Addr) (c:Nat) (a:List Tm):(Tm.mk 2 n s A c a).vmap g=.mk 2 0 s none 0 (vmapL g a):=by simp [Tm.vmap]
theorem vmap_int (g:Int→Int) (n:Int) (s:ByteArray) (A:Option Addr) (c:Nat) (a:List Tm):(Tm.mk 0 n s A c a).vmap g=.mk 0 n ByteArray.empty none 0 []:=by simp [Tm.vmap]
theorem vmap_else (g:Int→Int) {k:Int} (n:Int) (s:ByteArray) (A:Option Addr) (c:Nat) (a:List Tm) (h2:k≠2) (h1:k≠1) (h0:k≠0):(Tm.mk k n s A c a).vmap g=.mk k n s none 0 []:=by simp [Tm.vmap,h2,h1,h0]
def Tm.canon (t:Tm):Tm:=t.vmap fun n=>n
def canonL (l:List Tm):List Tm:=vmapL (fun n=>n) l
theorem vmap_vmap (g h:Int→Int):(∀t:Tm,(t.vmap g).vmap h=t.vmap fun n=>h (g n))∧(∀l,vmapL h (vmapL g l)=vmapL (fun n=>h (g n)) l):=by
 refine Tm.induct2 (fun k n s A c a ih=>?_) (by simp [vmapL]) (fun t r h1 h2=>by simp only [vmapL,h1,h2])
 by_cases h1:k=1
 ·subst h1;simp only [vmap_var]
 ·by_cases h2:k=2
  ·subst h2;simp only [vmap_fun,ih]
  ·by_cases h0:k=0
   ·subst h0;simp only [vmap_int]
   ·rw [vmap_else g n s A c a h2 h1 h0,vmap_else h n s none 0 [] h2 h1 h0,vmap_else _ n s A c a h2 h1 h0]
theorem vmap_occ (g:Int→Int):(∀t:Tm,(t.vmap g).occ=t.occ.map g)∧(∀l,occL (vmapL g l)=(occL l).map g):=by
 refine Tm.induct2 (fun k n s A c a ih=>?_) (by simp [vmapL,occL]) (fun t r h1 h2=>by simp only [vmapL,occL,h1,h2,List.map_append])
 by_cases h1:k=1
 ·subst h1;simp [vmap_var,Tm.occ]
 ·by_cases h2:k=2
  ·subst h2;simp only [vmap_fun,Tm.occ,ih];simp
  ·by_cases h0:k=0
   ·subst h0;simp [vmap_int,Tm.occ]
   ·rw [vmap_else g n s A c a h2 h1 h0];simp [Tm.occ,h1,h2]
theorem texts_name {s s':ByteArray} (h:texts s.data.toList s'.data.toList=0):s=s':=by
 have h:=congrArg List.toArray (texts_eq h)
 simp only [Array.toArray_toList] at h
 exact ByteArray.ext h
theorem cmp_canon:(∀t:Tm,cmpT t.canon t=0)∧(∀l,cmpL (canonL l) l=0):=by
 unfold Tm.canon canonL
 refine Tm.induct2 (fun k n s A c a ih=>?_) (by simp [vmapL,cmpL]) (fun t r h1 h2=>by simp only [vmapL,cmpL,h1,h2];rfl)
 by_cases h1:k=1
 ·subst h1;rw [vmap_var];exact cmp_vars rfl rfl rfl
 ·by_cases h2:k=2
  ·subst h2;rw [vmap_fun];exact (cmp_fun _ _ _ _ _ _ _ _ _ _).2 ⟨cmpL_len ih,texts_self _,ih⟩
  ·by_cases h0:k=0
   ·subst h0;rw [vmap_int];exact cmp_ints _ _ _ _ _ _ _ _ _
   ·rw [vmap_else _ n s A c a h2 h1 h0]
    simp only [cmpT,Tm.kind,Tm.num,Tm.name]
    rw [if_neg (by rintro (h|h)<;>contradiction),if_neg h2,ints_self,ints_self,ints_self,texts_self]
    rfl
theorem canon_of_cmp:(∀t u:Tm,cmpT t u=0→t.canon=u.canon)∧(∀l m,cmpL l m=0→canonL l=canonL m):=by
 unfold Tm.canon canonL
 refine Tm.induct2 (fun k n s A c a ih u h=>?_) (fun m h=>?_) (fun t r h1 h2 m h=>?_)
 ·obtain ⟨k',n',s',A',c',a'⟩:=u
  have hc:=cmp_kind h
  simp only [Tm.kind] at hc
  by_cases h1:k=1
  ·subst h1
   obtain ⟨e1,e2⟩:=cmp_var h rfl
   simp only [Tm.kind,Tm.num] at e1 e2
   subst e1 e2
   rw [vmap_var,vmap_var]
  ·have h1':k'≠1:=fun e=>by
    subst e
    exact h1 (cls_one.1 (hc.trans (cls_one.2 rfl)))
   by_cases h2:k=2
   ·subst h2
    have e:k'=2:=cls_two.1 (hc.symm.trans (cls_two.2 rfl))
    subst e
    obtain ⟨_,e1,e2⟩:=(cmp_fun _ _ _ _ _ _ _ _ _ _).1 h
    rw [vmap_fun,vmap_fun,ih _ e2,texts_name e1]
   ·have h2':k'≠2:=fun e=>by
     subst e
     exact h2 (cls_two.1 (hc.trans (cls_two.2 rfl)))
    simp only [cmpT,Tm.kind,Tm.num,Tm.name] at h
    obtain ⟨_,h⟩:=lexz_iff.1 h
    by_cases h0:k=0
    ·subst h0
     rw [if_pos (.inr rfl)] at h
     have e:k'=0:=by
      have:cls k'=cls 0:=hc.symm
      unfold cls at this
      revert this
      simp only [h1',h2']
      split<;>simp_all
     subst e
     rw [vmap_int,vmap_int,ints_zero.1 h]
    ·rw [if_neg (by rintro (h|h)<;>contradiction),if_neg h2] at h
     obtain ⟨e1,h⟩:=lexz_iff.1 h
     obtain ⟨e2,e3⟩:=lexz_iff.1 h
     have e1:=ints_zero.1 e1
     subst e1
     rw [vmap_else _ n s A c a h2 h1 h0,vmap_else _ n' s' A' c' a' h2 h1 h0,ints_zero.1 e2]
     rw [texts_name e3]
 ·cases m with
  | nil=>rfl
  | cons _ _=>simp [cmpL] at h
 ·cases m with
  | nil=>simp [cmpL] at h
  | cons u q =>
   simp only [cmpL] at h
   obtain ⟨e1,e2⟩:=lexz_iff.1 h
   simp only [vmapL,h1 _ e1,h2 _ e2]
end Go.Proofs.YtnghanpmmbcbbaaGreatDoor
namespace Go.Proofs.YtnghanpmmbcbbaaGreatDoor
def place (vs:List Int) (n:Int):Int:=(vs.idxOf n:Nat)
def numL (l:List Tm):List Tm:=vmapL (place (addAll [] (occL l))) l
theorem addAll_cons (l xs:List Int) (x:Int):addAll l (x :: xs)=addAll (addV l x) xs:=rfl
theorem addV_nodup {l:List Int} {x:Int} (h:l.Nodup):(addV l x).Nodup:=by
 unfold addV
 split
 ·exact h
 ·rename_i hx
  refine List.nodup_append.2 ⟨h,by simp,?_⟩
  intro a ha b hb e
  simp only [List.mem_singleton] at hb
  subst e hb
  exact hx ha
theorem addAll_nodup:∀(xs l:List Int),l.Nodup→(addAll l xs).Nodup
 | [],_,h=>h
 | _ :: xs,_,h=>addAll_nodup xs _ (addV_nodup h)
def upto (n:Nat):List Int:=(List.range n).map fun (i:Nat)=>(i:Int)
theorem mem_occ_vars (l:List Tm) (v:Int):v∈addAll [] (occL l)↔v∈occL l:=by simp [mem_addAll]
theorem cmpL_canon {l m:List Tm}:cmpL l m=0↔canonL l=canonL m :=
 ⟨canon_of_cmp.2 l m,fun h=>by
  have h1:=cmp_canon.2 l
  have h2:=cmp_canon.2 m
  rw [h] at h1
  have:=(cmp_fun 0 0 ByteArray.empty ByteArray.empty none none 0 0 (canonL m) l).2 ⟨cmpL_len h1,texts_self _,h1⟩
  have h3:=(cmp_fun 0 0 ByteArray.empty ByteArray.empty none none 0 0 (canonL m) m).2 ⟨cmpL_len h2,texts_self _,h2⟩
  exact ((cmp_fun _ _ _ _ _ _ _ _ _ _).1 (cmp_trans (cmp_symm this) h3)).2.2⟩
def variantB (a b:List Tm):Bool:=decide (a.length=b.length)&&(cmpL (numL a) (numL b)==0)
def topL (xs:List Int):Int:=xs.foldl (fun n v=>max n (shiftV 1 v)) 0
end Go.Proofs.YtnghanpmmbcbbaaGreatDoor
