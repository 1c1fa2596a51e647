/-
  SrCan.
  SrGreat.
  SwNum.
 TtAtoi.
 TtLen.
 TtBytes.
 Laid.
 Lies.
 SrSameP.
 SoText.
-/
import Derived.Test.YtnghanpmmbcbbaaGreatDoorMq11
import Derived.Test.YtnghanpmmbcbbaaGreatDoorMq9
import Derived.Lib.Join
import Derived.Test.YtnghanpmmbcbbaaGreatDoorMq4
import Derived.Test.YtnghanpmmbcbbaaGreatDoorRows
import Derived.Test.YtnghanpmmbcbbaaGreatDoorTie
import Derived.Lib.LaidTab
import Derived.LaidMore
import Derived.Stop.LaidErr
import Derived.Stop.Joined
import Derived.MakeChecks
import Derived.Below
import Derived.Lib.ItoaNum
import Derived.Test.YtnghanpmmbcbbaaGreatDoorMq2
import Derived.WalkKit
import Derived.Laws.BytesArg
import Derived.Lib.Hide
import Derived.Deep.Draws
import Derived.Deep.LoopGhost
import Derived.Deep.RegionLaw
namespace Go.Proofs.YtnghanpmmbcbbaaGreatDoor
open Go.RowKit
def Am.can (x:Am):List Value×List Tm:=(x.hd,canonL x.args)
def Gl.can (x:Gl):List Value×List Tm:=(x.hd,canonL x.args)
structure Rl.Can (u v:Rl):Prop where
 name:u.name=v.name
 vars:u.vars=v.vars
 keep:u.keep.map Am.can=v.keep.map Am.can
 remove:u.remove.map Am.can=v.remove.map Am.can
 guard:u.guard.map Gl.can=v.guard.map Gl.can
 body:u.body.map Gl.can=v.body.map Gl.can
theorem Rl.Can.refl (u:Rl):u.Can u:=⟨rfl,rfl,rfl,rfl,rfl,rfl⟩
theorem Rl.Can.symm {u v:Rl} (h:u.Can v):v.Can u:=⟨h.name.symm,h.vars.symm,h.keep.symm,h.remove.symm,h.guard.symm,h.body.symm⟩
theorem Rl.Can.trans {u v x:Rl} (h:u.Can v) (g:v.Can x):u.Can x:=⟨h.name.trans g.name,h.vars.trans g.vars,h.keep.trans g.keep,h.remove.trans g.remove,h.guard.trans g.guard,h.body.trans g.body⟩
theorem am_can_key {x y:Am} (h:x.key=y.key):x.can=y.can:=by
 obtain ⟨h1,h2⟩:=Prod.ext_iff.1 h
 exact Prod.ext h1 (canonL_strip h2)
theorem gl_can_key {x y:Gl} (h:x.key=y.key):x.can=y.can:=by
 obtain ⟨h1,h2⟩:=Prod.ext_iff.1 h
 exact Prod.ext h1 (canonL_strip h2)
theorem Rl.Twin.can {u v:Rl} (h:u.Twin v) (hv:u.vars=v.vars):u.Can v :=
 ⟨h.name,hv,keys_map (fun _ _ e=>am_can_key e) h.keep,keys_map (fun _ _ e=>am_can_key e) h.remove,keys_map (fun _ _ e=>gl_can_key e) h.guard,keys_map (fun _ _ e=>gl_can_key e) h.body⟩
theorem am_same_can {x y:Am} (h:x.can=y.can):Am.sameP x y:=by
 obtain ⟨h1,h2⟩:=Prod.ext_iff.1 h
 exact am_same_of (by simpa [Am.can,Am.hd] using h1) (cmpL_canon.2 h2)
theorem gl_same_can {x y:Gl} (h:x.can=y.can):Gl.sameP x y:=by
 obtain ⟨h1,h2⟩:=Prod.ext_iff.1 h
 have e:x.op=y.op∧x.name=y.name:=by simpa [Gl.can,Gl.hd] using h1
 exact gl_same_of e.1 e.2 (cmpL_canon.2 h2)
theorem can_get {α β:Type} [Inhabited α] {f:α→β} {l m:List α} (h:l.map f=m.map f) {i:Nat} (hi:i < l.length):f (l.getD i default)=f (m.getD i default):=by
 have hl:l.length=m.length:=map_len h
 have e:=congrArg (fun x=>x[i]?) h
 simp only [List.getElem?_map,List.getElem?_eq_getElem hi,List.getElem?_eq_getElem (show i < m.length by omega),Option.map_some,Option.some.injEq] at e
 simpa [List.getD,List.getElem?_eq_getElem hi,List.getElem?_eq_getElem (show i < m.length by omega)] using e
theorem Rl.Can.same {u v:Rl} (h:u.Can v):u.Same v :=
 ⟨h.name, h.vars, map_len h.keep, fun _ hi => am_same_can (can_get h.keep hi), map_len h.remove, fun _ hi => am_same_can (can_get h.remove hi),
  map_len h.guard, fun _ hi => gl_same_can (can_get h.guard hi), map_len h.body, fun _ hi => gl_same_can (can_get h.body hi)⟩
theorem flat_can {α β:Type} {f:α→List Tm} {k:α→β} (hk:∀x y,k x=k y→canonL (f x)=canonL (f y)):∀{l m:List α},l.map k=m.map k→canonL (l.flatMap f)=canonL (m.flatMap f)
 | [],[],_=>rfl
 | [],_ :: _,h=>by simp at h
 | _ :: _,[],h=>by simp at h
 | x :: l,y :: m,h=>by
  simp only [List.map_cons,List.cons.injEq] at h
  rw [List.flatMap_cons,List.flatMap_cons]
  have e1:=hk x y h.1
  have e2:=flat_can hk h.2
  unfold canonL at e1 e2 ⊢
  rw [vmapL_append,vmapL_append,e1,e2]
theorem canonL_app (l m:List Tm):canonL (l++m)=canonL l++canonL m:=by unfold canonL;rw [vmapL_append]
theorem Rl.Can.ts {u v:Rl} (h:u.Can v):canonL u.ts=canonL v.ts:=by
 unfold Rl.ts
 have hA:∀x y:Am,x.can=y.can→canonL x.args=canonL y.args:=fun _ _ e=>(Prod.ext_iff.1 e).2
 have hG:∀x y:Gl,x.can=y.can→canonL x.args=canonL y.args:=fun _ _ e=>(Prod.ext_iff.1 e).2
 rw [canonL_app,canonL_app,canonL_app,canonL_app,canonL_app,canonL_app,flat_can hA h.keep,flat_can hA h.remove,flat_can hG h.guard,flat_can hG h.body]
theorem occ_canonL {l m:List Tm} (h:canonL l=canonL m):occL l=occL m:=by
 have:=congrArg occL h
 unfold canonL at this
 rwa [(vmap_occ _).2,(vmap_occ _).2,List.map_id',List.map_id'] at this
theorem Rl.Can.vs {u v:Rl} (h:u.Can v):u.vs=v.vs:=by
 unfold Rl.vs varsL
 rw [occ_canonL h.ts]
theorem rr_canonL (l:List Tm) (g:Int→Int):canonL (rrL l g)=vmapL g (canonL l):=by
 rw [rr_canon.2]
 unfold canonL
 rw [(vmap_vmap _ _).2]
theorem am_can_rr {x y:Am} (g:Int→Int) (h:x.can=y.can):(x.rr g).can=(y.rr g).can:=by
 obtain ⟨h1,h2⟩:=Prod.ext_iff.1 h
 refine Prod.ext h1 ?_
 show canonL (rrL x.args g)=canonL (rrL y.args g)
 rw [rr_canonL,rr_canonL,show canonL x.args=canonL y.args from h2]
theorem gl_can_rr {x y:Gl} (g:Int→Int) (h:x.can=y.can):(x.rr g).can=(y.rr g).can:=by
 obtain ⟨h1,h2⟩:=Prod.ext_iff.1 h
 refine Prod.ext h1 ?_
 show canonL (rrL x.args g)=canonL (rrL y.args g)
 rw [rr_canonL,rr_canonL,show canonL x.args=canonL y.args from h2]
theorem Rl.Can.to {u v:Rl} (h:u.Can v) (g:Int→Int) (n:Int):(u.to g n).Can (v.to g n):=by
 refine ⟨h.name,rfl,?_,?_,?_,?_⟩
 ·show (u.keep.map _).map _=(v.keep.map _).map _
  rw [List.map_map,List.map_map];exact keys_map (fun _ _ e=>am_can_rr g e) h.keep
 ·show (u.remove.map _).map _=(v.remove.map _).map _
  rw [List.map_map,List.map_map];exact keys_map (fun _ _ e=>am_can_rr g e) h.remove
 ·show (u.guard.map _).map _=(v.guard.map _).map _
  rw [List.map_map,List.map_map];exact keys_map (fun _ _ e=>gl_can_rr g e) h.guard
 ·show (u.body.map _).map _=(v.body.map _).map _
  rw [List.map_map,List.map_map];exact keys_map (fun _ _ e=>gl_can_rr g e) h.body
theorem Rl.Can.num {u v:Rl} (h:u.Can v):u.numR.Can v.numR:=by
 rw [numR_to,numR_to,h.vs]
 exact h.to _ _
theorem ren_id:(∀t:Tm,t.ren (fun v=>v)=t)∧(∀l,renL l (fun v=>v)=l):=by
 refine Tm.induct2 (fun k n s A c a ih=>?_) (by simp [renL]) (fun t r h1 h2=>by simp only [renL,h1,h2])
 simp only [Tm.ren,ite_self,ih]
theorem ren_rr:(∀(t:Tm) (g:Int→Int),t.ren g=t.rr g)∧(∀(l:List Tm) (g:Int→Int),renL l g=rrL l g):=by
 refine Tm.induct2 (fun k n s A c a ih g=>?_) (fun g=>by simp [renL,rrL]) (fun t r h1 h2 g=>by simp only [renL,rrL,h1,h2])
 by_cases k2:k=2
 ·simp only [Tm.ren,Tm.rr,if_pos k2,ih]
 ·simp only [Tm.ren,Tm.rr,if_neg k2,ren_id.2]
end Go.Proofs.YtnghanpmmbcbbaaGreatDoor
namespace Go.Proofs.YtnghanpmmbcbbaaGreatDoor
open Go.RowKit
set_option maxHeartbeats 16000000 in
theorem great_list_at (l:List Rl) (A:Option Addr) (c:Nat) (w:World) (h:RlLst w A l c) (hl:l.length≤300) {q:Bool} (hq:l.any greatR=q) :
  Calls Tryz.prog 30 #[.slice A l.length c,.int .i64 300] w fun e w'=>e=.returned (.bool q)∧Ext w w':=by
 have hll:l.length≤9223372036854775807:=by omega
 have HL:=Lib.hid h
 have HQ0:=Lib.hid hq
 have HLe:=Lib.hid hl
 have hlm:decide ((300:Int) < (l.length:Int))=false:=by simp;omega
 clear h hq hl
 go_enter Tryz.func30,Tryz.ntmps30
 go_wp2_with fail
 go_loopw [5] (fun i wr=>∃j:Nat,j≤l.length∧i=.int .i64 (j:Int)∧Hid ((l.take j).any greatR=false)∧Hid (Ext w wr)) (fun i _=>l.length - (intOf i).toNat)
 case atStart=>exact ⟨0,Nat.zero_le _,rfl,Lib.hid rfl,Lib.hid (Ext.refl _)⟩
 case round =>
  obtain ⟨j,hj,rfl,HA,HB⟩:=hrel
  by_cases hlt:j < l.length
  ·obtain ⟨b,o,rfl,hcs,hxa⟩:=(HL.out.below HB.out).get hlt
   have hmem:=rl_getD_mem hlt
   have HF:=Lib.hid (show greatR (l.getD j default)=false→(l.take (j+1)).any greatR=false from fun h=>by
    rw [rl_take_next hlt,List.any_append,HA.out]
    simp only [List.any_cons,List.any_nil,Bool.or_false,Bool.false_or]
    exact h)
   have HT:=Lib.hid (show greatR (l.getD j default)=true→q=true from fun h=>by
    rw [←HQ0.out,List.any_eq_true]
    exact ⟨_,hmem,h⟩)
   have r00:=hcs 0 _ rfl
   have r01:=hcs 1 _ rfl
   have r02:=hcs 2 _ rfl
   have r03:=hcs 3 _ rfl
   have r04:=hcs 4 _ rfl
   have r05:=hcs 5 _ rfl
   simp only [Nat.add_zero] at r00
   clear hcs hmem HA
   generalize l.getD j default=x at *
   obtain ⟨qx,hqx⟩:∃q,greatR x=q:=⟨_,rfl⟩
   rw [hqx] at HF HT
   have hn:=hxa.name
   have hn2:x.name.size≤9223372036854775807:=by unfold maxLen at hn;exact hn
   have hk2:=hxa.keep.len
   have hr2:=hxa.remove.len
   clear hn
   obtain ⟨b0,e0⟩:∃b,decide ((300:Int) < wrap64 (wrap64 ((x.name.size:Int) / 8+(x.keep.length:Int))+(x.remove.length:Int)))=b:=⟨_,rfl⟩
   obtain ⟨b1,e1⟩:∃b,decide (weighAm x.keep 300 < 0)=b:=⟨_,rfl⟩
   obtain ⟨b2,e2⟩:∃b,decide (weighAm x.remove 300 < 0)=b:=⟨_,rfl⟩
   obtain ⟨b3,e3⟩:∃b,decide (weighGl x.guard 300 < 0)=b:=⟨_,rfl⟩
   obtain ⟨b4,e4⟩:∃b,decide (weighGl x.body 300 < 0)=b:=⟨_,rfl⟩
   have HQ:=Lib.hid (great_eq hqx e0 e1 e2 e3 e4 hn2)
   have Q1:=Lib.hid (fun W (g:Ext wr W)=>great_ams_at x.keep x.kA x.kc 300 W (hxa.keep.below g) (by omega) (by omega) e1)
   have Q2:=Lib.hid (fun W (g:Ext wr W)=>great_ams_at x.remove x.rA x.rc 300 W (hxa.remove.below g) (by omega) (by omega) e2)
   have Q3:=Lib.hid (fun W (g:Ext wr W)=>great_gls_at x.guard x.gA x.gc 300 W (hxa.guard.below g) (by omega) (by omega) e3)
   have Q4:=Lib.hid (fun W (g:Ext wr W)=>great_gls_at x.body x.bA x.bc 300 W (hxa.body.below g) (by omega) (by omega) e4)
   clear hqx e1 e2 e3 e4 hxa
   obtain ⟨Z,hZ⟩:∃Z,wr.alloc (.cells #[.string x.name,.slice x.kA x.keep.length x.kc,.slice x.rA x.remove.length x.rc,.slice x.gA x.guard.length x.gc,.slice x.bA x.body.length x.bc,.int .i64 x.vars] 25)=Z:=⟨_,rfl⟩
   have HZ:=Lib.hid (show Ext (wr.alloc (.cells #[.string x.name,.slice x.kA x.keep.length x.kc,.slice x.rA x.remove.length x.rc,.slice x.gA x.guard.length x.gc,.slice x.bA x.body.length x.bc,.int .i64 x.vars] 25)) Z from by rw [←hZ];exact Ext.refl _)
   have XZ:=Lib.hid (show Ext wr Z from Ext.trans (Ext.al _ _) HZ.out)
   have p00:=ext_row HZ.out 0 rfl
   have p01:=ext_row HZ.out 1 rfl
   have p02:=ext_row HZ.out 2 rfl
   cases b0 with
   | true =>
    clear Q1 Q2 Q3 Q4
    go_wp2_with fail
    go_ret
    exact ⟨by rw [HT.out (by rw [←HQ.out];rfl)];rfl,Ext.trans HB.out (Ext.trans XZ.out (Ext.refl Z))⟩
   | false =>
   cases b1 with
   | true =>
    clear Q2 Q3 Q4
    go_wp2_with fail
    (with_reducible refine (Q1.out Z (Ext.trans XZ.out (Ext.refl Z))).mono ?_)
    rintro e z1 ⟨rfl,h1⟩
    have E1:=Lib.hid (show Ext Z z1 from Ext.trans (Ext.refl Z) h1)
    have p12:=ext_row (HZ.out.trans E1.out) 2 rfl
    clear h1
    go_wp2_with fail
    go_ret
    exact ⟨by rw [HT.out (by rw [←HQ.out];rfl)];rfl,Ext.trans HB.out (Ext.trans XZ.out E1.out)⟩
   | false =>
   cases b2 with
   | true =>
    clear Q3 Q4
    go_wp2_with fail
    (with_reducible refine (Q1.out Z (Ext.trans XZ.out (Ext.refl Z))).mono ?_)
    rintro e z1 ⟨rfl,h1⟩
    have E1:=Lib.hid (show Ext Z z1 from Ext.trans (Ext.refl Z) h1)
    have p12:=ext_row (HZ.out.trans E1.out) 2 rfl
    clear h1
    go_wp2_with fail
    (with_reducible refine (Q2.out z1 (Ext.trans XZ.out E1.out)).mono ?_)
    rintro e z2 ⟨rfl,h1⟩
    have E2:=Lib.hid (show Ext Z z2 from Ext.trans E1.out h1)
    have p23:=ext_row (HZ.out.trans E2.out) 3 rfl
    clear h1
    go_wp2_with fail
    go_ret
    exact ⟨by rw [HT.out (by rw [←HQ.out];rfl)];rfl,Ext.trans HB.out (Ext.trans XZ.out E2.out)⟩
   | false =>
   cases b3 with
   | true =>
    clear Q4
    go_wp2_with fail
    (with_reducible refine (Q1.out Z (Ext.trans XZ.out (Ext.refl Z))).mono ?_)
    rintro e z1 ⟨rfl,h1⟩
    have E1:=Lib.hid (show Ext Z z1 from Ext.trans (Ext.refl Z) h1)
    have p12:=ext_row (HZ.out.trans E1.out) 2 rfl
    clear h1
    go_wp2_with fail
    (with_reducible refine (Q2.out z1 (Ext.trans XZ.out E1.out)).mono ?_)
    rintro e z2 ⟨rfl,h1⟩
    have E2:=Lib.hid (show Ext Z z2 from Ext.trans E1.out h1)
    have p23:=ext_row (HZ.out.trans E2.out) 3 rfl
    clear h1
    go_wp2_with fail
    (with_reducible refine (Q3.out z2 (Ext.trans XZ.out E2.out)).mono ?_)
    rintro e z3 ⟨rfl,h1⟩
    have E3:=Lib.hid (show Ext Z z3 from Ext.trans E2.out h1)
    have p34:=ext_row (HZ.out.trans E3.out) 4 rfl
    clear h1
    go_wp2_with fail
    go_ret
    exact ⟨by rw [HT.out (by rw [←HQ.out];rfl)];rfl,Ext.trans HB.out (Ext.trans XZ.out E3.out)⟩
   | false =>
   cases b4 with
   | true =>
    skip
    go_wp2_with fail
    (with_reducible refine (Q1.out Z (Ext.trans XZ.out (Ext.refl Z))).mono ?_)
    rintro e z1 ⟨rfl,h1⟩
    have E1:=Lib.hid (show Ext Z z1 from Ext.trans (Ext.refl Z) h1)
    have p12:=ext_row (HZ.out.trans E1.out) 2 rfl
    clear h1
    go_wp2_with fail
    (with_reducible refine (Q2.out z1 (Ext.trans XZ.out E1.out)).mono ?_)
    rintro e z2 ⟨rfl,h1⟩
    have E2:=Lib.hid (show Ext Z z2 from Ext.trans E1.out h1)
    have p23:=ext_row (HZ.out.trans E2.out) 3 rfl
    clear h1
    go_wp2_with fail
    (with_reducible refine (Q3.out z2 (Ext.trans XZ.out E2.out)).mono ?_)
    rintro e z3 ⟨rfl,h1⟩
    have E3:=Lib.hid (show Ext Z z3 from Ext.trans E2.out h1)
    have p34:=ext_row (HZ.out.trans E3.out) 4 rfl
    clear h1
    go_wp2_with fail
    (with_reducible refine (Q4.out z3 (Ext.trans XZ.out E3.out)).mono ?_)
    rintro e z4 ⟨rfl,h1⟩
    have E4:=Lib.hid (show Ext Z z4 from Ext.trans E3.out h1)
    clear h1
    go_wp2_with fail
    go_ret
    exact ⟨by rw [HT.out (by rw [←HQ.out];rfl)];rfl,Ext.trans HB.out (Ext.trans XZ.out E4.out)⟩
   | false =>
    go_wp2_with fail
    (with_reducible refine (Q1.out Z (Ext.trans XZ.out (Ext.refl Z))).mono ?_)
    rintro e z1 ⟨rfl,h1⟩
    have E1:=Lib.hid (show Ext Z z1 from Ext.trans (Ext.refl Z) h1)
    have p12:=ext_row (HZ.out.trans E1.out) 2 rfl
    clear h1
    go_wp2_with fail
    (with_reducible refine (Q2.out z1 (Ext.trans XZ.out E1.out)).mono ?_)
    rintro e z2 ⟨rfl,h1⟩
    have E2:=Lib.hid (show Ext Z z2 from Ext.trans E1.out h1)
    have p23:=ext_row (HZ.out.trans E2.out) 3 rfl
    clear h1
    go_wp2_with fail
    (with_reducible refine (Q3.out z2 (Ext.trans XZ.out E2.out)).mono ?_)
    rintro e z3 ⟨rfl,h1⟩
    have E3:=Lib.hid (show Ext Z z3 from Ext.trans E2.out h1)
    have p34:=ext_row (HZ.out.trans E3.out) 4 rfl
    clear h1
    go_wp2_with fail
    (with_reducible refine (Q4.out z3 (Ext.trans XZ.out E3.out)).mono ?_)
    rintro e z4 ⟨rfl,h1⟩
    have E4:=Lib.hid (show Ext Z z4 from Ext.trans E3.out h1)
    clear h1
    go_wp2_with fail
    go_roundw
    case rel=>exact ⟨j+1,by omega,by go_num,Lib.hid (HF.out (by rw [←HQ.out];rfl)),Lib.hid (Ext.trans HB.out (Ext.trans XZ.out E4.out))⟩
    case measure=>simp [intOf];omega
  ·obtain rfl:j=l.length:=by omega
   have HE:=Lib.hid (show false=q from by have:=HA.out;rw [List.take_length] at this;rw [←HQ0.out,this])
   clear HA HLe
   go_wp2_with fail
   go_ret
   exact ⟨by rw [←HE.out];rfl,HB.out⟩
theorem tiny_rule {r:Rl} (h:greatR r=false):r.Tiny:=by
 unfold greatR at h
 simp only [Bool.or_eq_false_iff,decide_eq_false_iff_not,Int.not_lt] at h
 obtain ⟨h0,h1,h2,h3,h4⟩:=h
 have a1:=weighAm_facts _ _ h1
 have a2:=weighAm_facts _ _ h2
 have a3:=weighGl_facts _ _ h3
 have a4:=weighGl_facts _ _ h4
 exact ⟨by omega,fun x hx=>by have:=a1.2 x hx;omega,by omega,fun x hx=>by have:=a2.2 x hx;omega,by omega,fun x hx=>by have:=a3.2 x hx;omega,by omega,fun x hx=>by have:=a4.2 x hx;omega⟩
theorem tiny_name {r:Rl} (h:greatR r=false):r.name.size≤2500:=by
 unfold greatR at h
 simp only [Bool.or_eq_false_iff,decide_eq_false_iff_not,Int.not_lt] at h
 have:=h.1
 omega
end Go.Proofs.YtnghanpmmbcbbaaGreatDoor
namespace Go.Proofs.YtnghanpmmbcbbaaGreatDoor
open Go.RowKit
def NumP (w0:World) (r:Rl) (w:World) (e:Ending) (w':World):Prop:=∃u:Rl,e=.returned u.val∧u.Can r.numR∧u.Tiny∧(∀W,From w0 W→Agree w.heap.size No w' W→u.At W)∧Below w.heap.size w w'
structure WritesN (P:World→Prop):Prop where
 below:∀{w w':World},P w→Below w.heap.size w w'→P w'
 number:∀(r:Rl) (w0 W:World),r.At w0→Below w0.heap.size w0 W→r.Tiny→r.name.size≤2500→Calls Tryz.prog 13 #[r.val] W (NumP w0 r W)
 example_:∀W:World,P W→Calls Tryz.prog 9 #[] W fun e w'=>e=.returned (.bool true)∧Below W.heap.size W w'
def largeB (l:List Rl):Bool:=decide (45 < l.length)||l.any greatR
theorem large_tiny {l:List Rl} (h:largeB l=false):l.length≤45∧∀r∈l,r.Tiny∧r.name.size≤2500:=by
 simp only [largeB,Bool.or_eq_false_iff,decide_eq_false_iff_not] at h
 refine ⟨by omega,fun r hr=>?_⟩
 have h2:=h.2
 rw [List.any_eq_false] at h2
 have h3:greatR r=false:=by simpa using h2 r hr
 exact ⟨tiny_rule h3,tiny_name h3⟩
set_option maxHeartbeats 4000000 in
theorem large_at (l:List Rl) (A:Option Addr) (c:Nat) (w:World) (h:RlLst w A l c) {q:Bool} (hq:largeB l=q) :
  Calls Tryz.prog 8 #[.slice A l.length c] w fun e w'=>e=.returned (.bool q)∧Ext w w':=by
 have hll:=h.len
 by_cases h45:45 < l.length
 ·have e:q=true:=by rw [←hq,largeB,decide_eq_true h45];rfl
  subst e
  have h45':decide ((45:Int) < (l.length:Int))=true:=by simp;omega
  clear h hq
  go_enter Tryz.func8,Tryz.ntmps8
  go_wp2_with fail
  go_ret
  exact ⟨rfl,Ext.refl _⟩
 ·have e:l.any greatR=q:=by rw [←hq,largeB,decide_eq_false h45];rfl
  have Q:=Lib.hid (great_list_at l A c w h (by omega) e)
  have h45':decide ((45:Int) < (l.length:Int))=false:=by simp;omega
  clear h hq e
  go_enter Tryz.func8,Tryz.ntmps8
  go_wp2_with fail
  refine Q.out.mono ?_
  rintro e w1 ⟨rfl,hb⟩
  have HB:=Lib.hid hb
  clear hb
  go_wp2_with fail
  go_ret
  exact ⟨rfl,HB.out⟩
theorem key_nodesA {l m:List Am} {g:Int→Int} (h:l.map Am.key=(m.map fun x=>x.rr g).map Am.key) (hm:∀x∈m,nodesL x.args≤300):∀x∈l,nodesL x.args≤300:=by
 intro x hx
 obtain ⟨y,hy,e⟩:=mem_key h hx
 obtain ⟨z,hz,rfl⟩:=List.mem_map.1 hy
 have e2:stripL x.args=stripL (rrL z.args g):=congrArg Prod.snd e
 rw [nodesL_strip e2,rr_nodes.2]
 exact hm z hz
theorem key_nodesG {l m:List Gl} {g:Int→Int} (h:l.map Gl.key=(m.map fun x=>x.rr g).map Gl.key) (hm:∀x∈m,nodesL x.args≤300):∀x∈l,nodesL x.args≤300:=by
 intro x hx
 obtain ⟨y,hy,e⟩:=mem_key h hx
 obtain ⟨z,hz,rfl⟩:=List.mem_map.1 hy
 have e2:stripL x.args=stripL (rrL z.args g):=congrArg Prod.snd e
 rw [nodesL_strip e2,rr_nodes.2]
 exact hm z hz
theorem like_tiny {u r:Rl} {g:Int→Int} (h:Like (fun x=>x.rr g) (fun x=>x.rr g) u r) (hr:r.Tiny):u.Tiny :=
 ⟨by rw [h.kl];exact hr.k1,key_nodesA h.keep hr.k2,by rw [h.rl];exact hr.r1,key_nodesA h.remove hr.r2,by rw [h.gl];exact hr.g1,key_nodesG h.guard hr.g2,by rw [h.bl];exact hr.b1,key_nodesG h.body hr.b2⟩
theorem can_short {u r:Rl} (hu:u.Can r.numR) (hr:r.Tiny):u.Short :=
 ⟨by rw [map_len hu.keep];have:=hr.k1;simp [Rl.numR];omega,by rw [map_len hu.remove];have:=hr.r1;simp [Rl.numR];omega,by rw [map_len hu.guard];have:=hr.g1;simp [Rl.numR];omega,by rw [map_len hu.body];have:=hr.b1;simp [Rl.numR];omega⟩
end Go.Proofs.YtnghanpmmbcbbaaGreatDoor
namespace Go.Proofs.YtnghanpmmbcbbaaGreatDoor
open Go
def spellA (acc:Nat) (l:List UInt8):Nat:=l.foldl (fun a c=>10*a+(c.toNat - 48)) acc
theorem dec_len10 {n:Nat} (h:n≤4294967296):(Lib.decDigits n).length≤10:=by
 rw [Lib.decDigits_length]
 suffices H:∀k m:Nat,m < 10 ^ (k+1)→Lib.nDigits m≤k+1 from H 9 n (by omega)
 intro k
 induction k with
 | zero=>intro m hm;rw [Lib.nDigits_small (by simpa using hm)];omega
 | succ k ih =>
  intro m hm
  by_cases h:m < 10
  ·rw [Lib.nDigits_small h];omega
  ·rw [Lib.nDigits_big h]
   have:=ih (m / 10) (by rw [Nat.pow_succ] at hm;omega)
   omega
end Go.Proofs.YtnghanpmmbcbbaaGreatDoor
namespace Go.Proofs.YtnghanpmmbcbbaaGreatDoor
open Go
def Slim (σ:Sty):Prop:=σ.a+σ.b≤3∧σ.c+σ.d≤3∧σ.e≤1
theorem slim_plain:Slim plain:=⟨by decide,by decide,by decide⟩
theorem itoa_len {n:Int} (h1 : -2147483648≤n) (h2:n≤2147483648):(Lib.itoa n).length≤11:=by
 unfold Lib.itoa
 split
 ·have:=dec_len10 (n:=n.natAbs) (by omega)
  simp only [List.length_cons];omega
 ·have:=dec_len10 (n:=n.toNat) (by omega)
  omega
theorem paren_len {σ:Sty} (h:Slim σ) (b:Bool) (x:List UInt8):(paren σ b x).length≤x.length+8:=by
 obtain ⟨h1,h2,_⟩:=h
 unfold paren
 split
 ·simp only [Sty.lp,Sty.rp,sp,List.length_append,List.length_cons,List.length_replicate];omega
 ·omega
theorem rest_bound {σ:Sty} (h:Slim σ) (l:List (List UInt8)):(restT σ l).length≤(l.map fun x=>x.length+3).sum:=by
 obtain ⟨_,_,h3⟩:=h
 induction l with
 | nil=>simp [restT]
 | cons x r ih =>
  simp only [restT,Sty.cm,sp,List.length_append,List.length_cons,List.length_replicate,List.length_nil,List.map_cons,List.sum_cons]
  omega
theorem call_len {σ:Sty} (h:Slim σ) (s:List UInt8) (l:List (List UInt8)):(callT σ s l).length≤s.length+8+(l.map fun x=>x.length+3).sum:=by
 obtain ⟨h1,h2,_⟩:=id h
 rcases l with _|⟨x,r⟩
 ·simp [callT]
 ·have:=rest_bound h r
  simp only [callT,Sty.lp,Sty.rp,sp,List.length_append,List.length_cons,List.length_replicate,List.map_cons,List.sum_cons]
  omega
theorem right_len {s:List UInt8} (h:rightB s=true):s.length≤40:=by
 simp only [rightB,Bool.and_eq_true] at h
 exact ((wordB_iff _).1 h.1).2.1
theorem txt_len {σ:Sty} (hσ:Slim σ):(∀t:Tm,t.form=true→(t.txt σ).length+3≤51*t.size)∧(∀l,formL l=true→((txtL σ l).map fun x=>x.length+3).sum≤51*sizeL l):=by
 refine Tm.induct2 (fun k n s A c a ih=>?_) (fun _=>by simp [txtL]) (fun t r h1 h2 h=>?_)
 ·intro hf
  simp only [Tm.form] at hf
  by_cases hk0:k=0
  ·subst hk0
   simp only [if_true,Bool.and_eq_true,decide_eq_true_eq] at hf
   have:=itoa_len hf.1 hf.2.1
   simp only [Tm.txt,Tm.size,if_true,show ¬((0:Int)=2) by omega,if_false];omega
  ·by_cases hk1:k=1
   ·subst hk1
    simp only [if_true,show ¬((1:Int)=0) by omega,if_false,Bool.and_eq_true,decide_eq_true_eq] at hf
    have:=(label_len (n:=n.toNat) (by omega)).2
    simp only [Tm.txt,Tm.size,if_true,show ¬((1:Int)=2) by omega,show ¬((1:Int)=0) by omega,if_false];omega
   ·by_cases hk2:k=2
    ·subst hk2
     simp only [show ¬((2:Int)=0) by omega,show ¬((2:Int)=1) by omega,if_false,if_true,Bool.and_eq_true,Bool.or_eq_true,decide_eq_true_eq] at hf
     obtain ⟨_,hs,hfl⟩:=hf
     have hi:=ih hfl
     simp only [Tm.txt,Tm.size,show ¬((2:Int)=0) by omega,show ¬((2:Int)=1) by omega,if_false,if_true]
     by_cases ho:opB s.data.toList=true
     ·rw [if_pos ho]
      have ha2:a.length=2:=by
       rcases hs with hs|hs
       ·exact hs.2
       ·rw [(op_right ho).1] at hs;cases hs.1
      obtain ⟨x,y,rfl⟩:∃x y,a=[x,y]:=by
       match a,ha2 with
       | [x,y],_=>exact ⟨x,y,rfl⟩
      obtain ⟨o,hso,_⟩:=op_byte ho
      have p1:=paren_len hσ (decide (x.pw < ostr s.data.toList)) (x.txt σ)
      have p2:=paren_len hσ (decide (y.pw≤ostr s.data.toList)) (y.txt σ)
      simp only [txtL,List.map_cons,List.map_nil,List.sum_cons,List.sum_nil] at hi
      simp only [topT,txtL,List.getD_cons_zero,List.getD_cons_succ,List.length_append,List.length_cons]
      rw [show s.data.toList.length=1 by rw [hso];rfl]
      omega
     ·rw [if_neg ho]
      have hr:rightB s.data.toList=true:=by
       rcases hs with hs|hs
       ·exact absurd hs.1 ho
       ·exact hs.1
      have h1:=right_len hr
      have h2:=call_len hσ s.data.toList (txtL σ a)
      omega
    ·simp [hk0,hk1,hk2] at hf
 ·simp only [formL,Bool.and_eq_true] at h
  have a1:=h1 h.1
  have a2:=h2 h.2
  simp only [txtL,List.map_cons,List.sum_cons,sizeL]
  omega
theorem plain_call (s:List UInt8) (x:List UInt8) (r:List (List UInt8)):callT plain s (x :: r)=s++[40]++(x++restT plain r)++[41]:=by
 simp [callT,Sty.lp,Sty.rp,plain,sp]
theorem rest_join (r:List (List UInt8)):restT plain r=Lib.joinTail [44,32] r:=by
 induction r with
 | nil=>rfl
 | cons x r ih=>simp [restT,Sty.cm,plain,sp,Lib.joinTail] at ih ⊢;rw [ih]
theorem join_txt (x:List UInt8) (r:List (List UInt8)):Lib.join (x :: r) [44,32]=x++restT plain r:=by rw [Lib.join_cons,rest_join]
def tjoinT:List (List UInt8)→List UInt8
 | []=>[]
 | x :: r=>x++restT plain r
theorem txtL_append (σ:Sty) (l m:List Tm):txtL σ (l++m)=txtL σ l++txtL σ m:=by simp [txtL_map]
theorem txtL_len (σ:Sty) (l:List Tm):(txtL σ l).length=l.length:=by rw [txtL_map,List.length_map]
end Go.Proofs.YtnghanpmmbcbbaaGreatDoor
namespace Go.Proofs.YtnghanpmmbcbbaaGreatDoor
open Go.RowKit
theorem str_is {x:ByteArray} {l:List UInt8} (h:x.data.toList=l):(x.toList==l)=true:=by
 rw [raw_list,h]
 simp
theorem str_not {x:ByteArray} {l:List UInt8} (h:x.data.toList≠l):(x.toList==l)=false:=by
 rw [raw_list]
 simpa using h
set_option maxHeartbeats 1000000 in
theorem ostr_at (s:ByteArray) (w:World) {n:Nat} (hn:ostr s.data.toList=n) :
  Calls Tryz.prog 168 #[.string s] w fun e w'=>e=.returned (.int .i64 (n:Int))∧w=w':=by
 subst hn
 by_cases c1:s.data.toList=[43]
 ·have HV:=Lib.hid (show ostr s.data.toList=0 by simp [ostr,c1])
  have t1:=str_is c1
  clear c1
  go_enter Tryz.func168,Tryz.ntmps168
  go_wp2
  go_ret
  exact ⟨by rw [HV.out];rfl,rfl⟩
 have t1:=str_not c1
 by_cases c2:s.data.toList=[45]
 ·have HV:=Lib.hid (show ostr s.data.toList=0 by simp [ostr,c2])
  have t2:=str_is c2
  clear c1 c2
  go_enter Tryz.func168,Tryz.ntmps168
  go_wp2
  go_ret
  exact ⟨by rw [HV.out];rfl,rfl⟩
 have t2:=str_not c2
 by_cases c3:s.data.toList=[42]
 ·have HV:=Lib.hid (show ostr s.data.toList=1 by simp [ostr,c3])
  have t3:=str_is c3
  clear c1 c2 c3
  go_enter Tryz.func168,Tryz.ntmps168
  go_wp2
  go_ret
  exact ⟨by rw [HV.out];rfl,rfl⟩
 have t3:=str_not c3
 by_cases c4:s.data.toList=[47]
 ·have HV:=Lib.hid (show ostr s.data.toList=1 by simp [ostr,c4])
  have t4:=str_is c4
  clear c1 c2 c3 c4
  go_enter Tryz.func168,Tryz.ntmps168
  go_wp2
  go_ret
  exact ⟨by rw [HV.out];rfl,rfl⟩
 have t4:=str_not c4
 by_cases c5:s.data.toList=[37]
 ·have HV:=Lib.hid (show ostr s.data.toList=1 by simp [ostr,c5])
  have t5:=str_is c5
  clear c1 c2 c3 c4 c5
  go_enter Tryz.func168,Tryz.ntmps168
  go_wp2
  go_ret
  exact ⟨by rw [HV.out];rfl,rfl⟩
 have t5:=str_not c5
 have HV:=Lib.hid (show ostr s.data.toList=2 by simp [ostr,c1,c2,c3,c4,c5])
 clear c1 c2 c3 c4 c5
 go_enter Tryz.func168,Tryz.ntmps168
 go_wp2
 go_ret
 exact ⟨by rw [HV.out];rfl,rfl⟩
end Go.Proofs.YtnghanpmmbcbbaaGreatDoor
namespace Go.Proofs.YtnghanpmmbcbbaaGreatDoor
open Go.RowKit
def seatLaid:List (String×DataW Unit):=Rows.sourceRulesRow.laid
abbrev tabName:String := "internal/strconv.uint64pow10"
abbrev wordsName:String := "constraint/termtext.goalWords"
def goalWords:List (List UInt8):=[[],[116,114,117,101],[102,97,105,108],[61],[105,115],[61,61],[92,61],[60],[61,60],[61,58,61],[61,92,61],[105,110,116],[103,114,111,117,110,100]]
def goalStrs:List ByteArray:=goalWords.map fun l=>⟨l.toArray⟩
def strData {H:Type} (ss:List ByteArray):DataW H:=.agg (ss.map fun s=>.lit (.string s.data.toList))
theorem cells_of_strs {H:Type} {enc:TypeId×Value→H} {P:Program} {w:World} {base:Nat} {sp:Nat→Bool} {held:Bool} {fuel:Nat} {t e:TypeId} {n:Nat} {cs:List Value} {ss:List ByteArray} {p:List MemPlace}
  (ht:P.underlying t=some (.array n e)) (he:P.underlying e=some .string) (hce:P.cellsOf e=1) (hct:P.cellsOf t=n)
  (h:DataW.trod enc P w base sp held fuel t cs=some (strData ss,p)):cs=ss.map fun s=>Value.string s:=by
 cases fuel with
 | zero=>simp [DataW.trod] at h
 | succ fuel =>
  simp only [DataW.trod,ht,hce,hct,Nat.mul_one] at h
  split at h
  ·rename_i hl
   obtain ⟨xs,hm,hx⟩:=Option.map_eq_some_iff.1 h
   have hxs:xs.map (·.1)=ss.map fun s=>(DataW.lit (.string s.data.toList):DataW H):=by
    have:=congrArg Prod.fst hx
    simpa [strData] using this
   have hxl:xs.length=n:=by simpa using Lib.mapM_length hm
   have hzl:ss.length=n:=by
    have:=congrArg List.length hxs
    simp at this
    omega
   apply List.ext_getElem?
   intro i
   by_cases hi:i < n
   ·obtain ⟨b,hb,hf⟩:=Lib.mapM_at hm i i (by simp [hi])
    obtain ⟨z,hc,rfl,_⟩:=DataW.trod_string he hf
    have h1:cs[i]?=some (.string z):=by
     have:=congrArg (·[0]?) hc
     simpa [List.getElem?_take,List.getElem?_drop] using this
    have h2:(xs.map (·.1))[i]?=some (DataW.lit (.string z.data.toList):DataW H):=by simp [hb]
    rw [hxs] at h2
    simp only [List.getElem?_map,Option.map_eq_some_iff,DataW.lit.injEq,Lit.string.injEq] at h2
    obtain ⟨z',hz',e⟩:=h2
    obtain rfl:z'=z:=WideShapes.bytes_inj e
    simp [h1,hz']
   ·rw [List.getElem?_eq_none (by omega),List.getElem?_eq_none (by simp;omega)]
  ·cases h
structure Laid (w:World):Prop where
 tab:Lib.TabIs Tryz.prog w tabName .u64 Lib.pow10Tab
 words:w.var? Tryz.prog wordsName=some (goalStrs.map fun s=>Value.string s).toArray
theorem var_below {P:Program} {w w':World} {n:String} {cs:Array Value} (h:w.var? P n=some cs) (hb:Below w.heap.size w w'):w'.var? P n=some cs:=by
 unfold World.var? at h ⊢
 cases hg:P.globalNamed n with
 | none=>simp [hg] at h
 | some g =>
  simp only [hg,Option.bind_some] at h ⊢
  have hlt:g < w.heap.size:=by
   rcases Nat.lt_or_ge g w.heap.size with h'|h'
   ·exact h'
   ·simp [Array.getElem?_eq_none h'] at h
  rw [hb.block g hlt]
  exact h
theorem Laid.below {w w':World} (h:Laid w) (hb:Below w.heap.size w w'):Laid w':=by
 obtain ⟨h1,h4⟩:=h
 exact ⟨var_below h1 hb,var_below h4 hb⟩
theorem Laid.alloc {w:World} (h:Laid w) (o:Obj):Laid (w.alloc o):=h.below ((Below.refl _ _).alloc (Nat.le_refl _) o)
theorem gTab:Tryz.prog.globalNamed tabName=some 2:=by kernel_rfl
theorem gTabType:(Tryz.prog.globals[2]?).map (·.type)=some 230:=by kernel_rfl
theorem cellsTab:Tryz.prog.cellsOf 230=20:=by kernel_rfl
theorem cellsU64:Tryz.prog.cellsOf 215=1:=by kernel_rfl
theorem cellsStr:Tryz.prog.cellsOf 9=1:=by kernel_rfl
theorem gWords:Tryz.prog.globalNamed wordsName=some 0:=by kernel_rfl
theorem gWordsType:(Tryz.prog.globals[0]?).map (·.type)=some 169:=by kernel_rfl
theorem cellsWords:Tryz.prog.cellsOf 169=13:=by kernel_rfl
end Go.Proofs.YtnghanpmmbcbbaaGreatDoor
namespace Go.Proofs.YtnghanpmmbcbbaaGreatDoor
open Go.RowKit
def lbcells (l:List UInt8):List Value:=l.map fun x=>Value.int .u8 (x.toNat:Int)
theorem lbcells_length (l:List UInt8):(lbcells l).length=l.length:=by simp [lbcells]
theorem lbcells_get {l:List UInt8} {i:Nat} (h:i < l.length):(lbcells l)[i]?=some (.int .u8 ((l.getD i 0).toNat:Int)):=by simp [lbcells,List.getD,h]
def Lies (w:World) (A:Option Addr) (l:List UInt8):Prop :=
 0 < l.length→∃b o,A=some ⟨b,o,none⟩∧∀i,i < l.length→w.cell? ⟨b,o+i,none⟩=some (.int .u8 ((l.getD i 0).toNat:Int))
section
variable {w w':World} {A:Option Addr} {l:List UInt8}
theorem Lies.nil (w:World) (A:Option Addr):Lies w A []:=fun h=>absurd h (by simp)
theorem Lies.below (h:Lies w A l) (hb:Below w.heap.size w w'):Lies w' A l:=fun hn=>by
 obtain ⟨b,o,e,hc⟩:=h hn
 refine ⟨b,o,e,fun i hi=>?_⟩
 rw [hb.cell (p:=⟨b,o+i,none⟩) (World.block_lt_of_cell? w _ (hc i hi))]
 exact hc i hi
theorem Lies.alloc (h:Lies w A l) (o:Obj):Lies (w.alloc o) A l:=h.below ((Below.refl _ _).alloc (Nat.le_refl _) o)
theorem Lies.drew (h:Lies w A l):Lies w.drew A l:=h
theorem Lies.drewN (h:Lies w A l) (n:Nat):Lies (w.drewN n) A l:=h
theorem Lies.cell (h:Lies w A l) {i:Nat} (hi:i < l.length):∃b o,A=some ⟨b,o,none⟩∧w.cell? ⟨b,o+i,none⟩=some (.int .u8 ((l.getD i 0).toNat:Int)):=by
 obtain ⟨b,o,e,hc⟩:=h (by omega)
 exact ⟨b,o,e,hc i hi⟩
theorem Lies.cells {a:Addr} (h:Lies w (some a) l):∀j u,(lbcells l)[j]?=some u→w.cell? (a.add j)=some u:=by
 intro j u hu
 have hj:j < l.length:=by
  have:=(List.getElem?_eq_some_iff.1 hu).1
  rwa [lbcells_length] at this
 obtain ⟨b,o,e,hc⟩:=h.cell hj
 injection e with e
 subst e
 rw [add_plain,hc,← hu,lbcells_get hj]
theorem Lies.take (h:Lies w A l) (k:Nat):Lies w A (l.take k):=fun hn=>by
 rw [List.length_take] at hn
 obtain ⟨b,o,e,hcell⟩:=h (by omega)
 refine ⟨b,o,e,fun i hi=>?_⟩
 rw [List.length_take] at hi
 rw [hcell i (by omega)]
 simp [List.getD,show i < k by omega]
theorem Lies.mk {b:Nat} (h:∀i,i < l.length→w.cell? ⟨b,i,none⟩=some (.int .u8 ((l.getD i 0).toNat:Int))):Lies w (some ⟨b,0,none⟩) l:=fun _=>⟨b,0,rfl,fun i hi=>by rw [Nat.zero_add];exact h i hi⟩
theorem Lies.new (w:World) (e:TypeId) (l:List UInt8):Lies (w.alloc (.cells (lbcells l).toArray e)) (some ⟨w.heap.size,0,none⟩) l:=Lies.mk fun i hi=>by
 rw [World.cell?_alloc_at _ _ _ _ rfl]
 simp only [List.getElem?_toArray]
 exact lbcells_get hi
theorem Lies.one (w:World) (e:TypeId) {X:Int} {x:UInt8} (h:X=(x.toNat:Int)):Lies (w.alloc (.cells #[.int .u8 X] e)) (some ⟨w.heap.size,0,none⟩) [x]:=by
 subst h
 exact Lies.new w e [x]
end
theorem Lies.str {P:Program} {w:World} {A:Option Addr} {l:List UInt8} (h:Lies w A l) (c:Nat) {src e dst:TypeId} (hs:P.underlying src=some (.slice e)) (he:P.underlying e=some (.int .u8)) (hd:P.underlying dst=some .string) :
  (convert src dst (.slice A l.length c)).run P w=.ok (.string ⟨l.toArray⟩) w:=by
 have hnum:strOfNums (l.map fun x=>(x.toNat:Int))=⟨l.toArray⟩:=by simp [strOfNums,Function.comp_def]
 rcases l with _|⟨x,r⟩
 ·rw [run_convert_bytes_string w src dst e _ _ c hs he hd]
  cases A<;>simp [Conv.bytesToString,loadCells]
  all_goals rfl
 ·obtain ⟨b,o,rfl,hc⟩:=h (by simp)
  rw [run_convert_bytes_arg w src e hs he b o _ c ((x :: r).map fun x=>(x.toNat:Int)) (by simp) (fun i hi=>by
   rw [hc i hi]
   simp only [List.getD,List.getElem?_map,List.getElem?_eq_getElem hi,Option.map_some,Option.getD_some]) dst hd,hnum]
end Go.Proofs.YtnghanpmmbcbbaaGreatDoor
namespace Go.Proofs.YtnghanpmmbcbbaaGreatDoor
open Go.RowKit
structure Pm.Same (p q:Pm):Prop where
 dl:p.decls.length=q.decls.length
 decls:∀i,i < p.decls.length→p.decls.getD i default=q.decls.getD i default
 rl:p.rules.length=q.rules.length
 rules:∀i,i < p.rules.length→(p.rules.getD i default).Same (q.rules.getD i default)∧(p.rules.getD i default).Short
set_option maxHeartbeats 8000000 in
set_option maxRecDepth 100000 in
theorem same_program_at (p q:Pm) (w:World) (hp:p.At w) (hq:q.At w) (h:p.Same q) :
  Calls Tryz.prog 22 #[p.val,q.val] w fun e w'=>e=.returned (.bool true)∧Ext w w':=by
 obtain ⟨X,hX⟩:∃X,(w.alloc (.cells #[.slice p.dA p.decls.length p.dc,.slice p.rA p.rules.length p.rc] 35)).alloc (.cells #[.slice q.dA p.decls.length q.dc,.slice q.rA p.rules.length q.rc] 35)=X:=⟨_,rfl⟩
 obtain ⟨HB0,HB1⟩:=two_boxesL w [.slice p.dA p.decls.length p.dc,.slice p.rA p.rules.length p.rc] [.slice q.dA p.decls.length q.dc,.slice q.rA p.rules.length q.rc] 35
 have H0:=Lib.hid (show HeldL w.heap.size X [.slice p.dA p.decls.length p.dc,.slice p.rA p.rules.length p.rc] from by rw [←hX];exact HB0)
 have H1:=Lib.hid (show HeldL (w.heap.size+1) X [.slice q.dA p.decls.length q.dc,.slice q.rA p.rules.length q.rc] from by rw [←hX];exact HB1)
 have HX:=Lib.hid (show Ext w X from by rw [←hX];exact Ext.al2 _ _ _)
 have HDp:=Lib.hid (fun W (g:Ext X W)=>hp.decls.below (Ext.trans HX.out g))
 have HDq:=Lib.hid (fun W (g:Ext X W)=>hq.decls.below (Ext.trans HX.out g))
 have HRp:=Lib.hid (fun W (g:Ext X W)=>hp.rules.below (Ext.trans HX.out g))
 have HRq:=Lib.hid (fun W (g:Ext X W)=>hq.rules.below (Ext.trans HX.out g))
 have hld:=hp.decls.len
 have hlr:=hp.rules.len
 have HS:=Lib.hid h
 have ev:q.val=.agg #[.slice q.dA p.decls.length q.dc,.slice q.rA p.rules.length q.rc]:=by rw [h.dl,h.rl]
 rw [ev]
 clear ev hp hq h HB0 HB1
 show Calls Tryz.prog 22 #[.agg #[.slice p.dA p.decls.length p.dc,.slice p.rA p.rules.length p.rc],.agg #[.slice q.dA p.decls.length q.dc,.slice q.rA p.rules.length q.rc]] w _
 have a0:=H0.out.cell 0 _ rfl
 have a1:=H0.out.cell 1 _ rfl
 have b0:=H1.out.cell 0 _ rfl
 have b1:=H1.out.cell 1 _ rfl
 go_enter Tryz.func22,Tryz.ntmps22
 go_wp2_with fail
 (try rw [hX])
 clear hX
 (try go_wp2_with fail)
 go_loopg [5] p.decls.length (fun gk i wr=>∃j:Nat,j≤p.decls.length∧i=.int .i64 (j:Int)∧Hid (Ext X wr)∧Hid (p.decls.length - j≤gk))
 case atStart=>exact ⟨0,Nat.zero_le _,rfl,Lib.hid (Ext.refl _),Lib.hid (by omega)⟩
 case round =>
  clear a0 a1 b0 b1
  obtain ⟨j,hj,rfl,HB,HG⟩:=hrel
  have HC0:=Lib.hid (H0.out.below HB.out)
  have HC1:=Lib.hid (H1.out.below HB.out)
  have a0:=HC0.out.cell 0 _ rfl
  have a1:=HC0.out.cell 1 _ rfl
  have b0:=HC1.out.cell 0 _ rfl
  have b1:=HC1.out.cell 1 _ rfl
  by_cases hlt:j < p.decls.length
  ·obtain ⟨bp,op,hA,hcs,_⟩:=(HDp.out _ HB.out).get hlt
   obtain ⟨bq,oq,hB,hds,_⟩:=(HDq.out _ HB.out).get (i:=j) (by rw [←HS.out.dl];exact hlt)
   rw [←HS.out.decls j hlt] at hds
   rw [hA] at a0
   rw [hB] at b0
   clear hA hB
   have c0:=hcs 0 _ rfl
   have c1:=hcs 1 _ rfl
   have d0:=hds 0 _ rfl
   have d1:=hds 1 _ rfl
   simp only [Nat.add_zero] at c0 d0
   clear hcs hds
   generalize p.decls.getD j default=d at *
   obtain ⟨nm,ar⟩:=d
   simp only at c0 c1 d0 d1
   go_wp2_with fail
   go_region_law (first|fail)
   all_goals
    go_wp2_with fail
    have hgk:=HG.out
    go_roundg (gk - 1)
    case measure=>omega
    case rel=>exact ⟨j+1,by omega,by go_num,Lib.hid (Ext.trans HB.out (Ext.drew _)),Lib.hid (by omega)⟩
  ·obtain rfl:j=p.decls.length:=by omega
   clear hlt hj HG
   go_wp2_with fail
   go_loopg [6] p.rules.length (fun gk i wr=>∃j:Nat,j≤p.rules.length∧i=.int .i64 (j:Int)∧Hid (Ext X wr)∧Hid (p.rules.length - j≤gk))
   case atStart=>exact ⟨0,Nat.zero_le _,rfl,HB,Lib.hid (by omega)⟩
   case round =>
    clear a0 a1 b0 b1 HC0 HC1 HB
    obtain ⟨j,hj,rfl,HB,HG⟩:=hrel
    have HC0:=Lib.hid (H0.out.below HB.out)
    have HC1:=Lib.hid (H1.out.below HB.out)
    have a0:=HC0.out.cell 0 _ rfl
    have a1:=HC0.out.cell 1 _ rfl
    have b0:=HC1.out.cell 0 _ rfl
    have b1:=HC1.out.cell 1 _ rfl
    by_cases hlt:j < p.rules.length
    ·obtain ⟨bp,op,hA,hcs,hxa⟩:=(HRp.out _ HB.out).get hlt
     obtain ⟨bq,oq,hB,hds,hxb⟩:=(HRq.out _ HB.out).get (i:=j) (by rw [←HS.out.rl];exact hlt)
     obtain ⟨hsm,hsh⟩:=HS.out.rules j hlt
     rw [hA] at a1
     rw [hB] at b1
     clear hA hB
     have c0:=hcs 0 _ rfl
     have c1:=hcs 1 _ rfl
     have c2:=hcs 2 _ rfl
     have c3:=hcs 3 _ rfl
     have c4:=hcs 4 _ rfl
     have c5:=hcs 5 _ rfl
     have d0:=hds 0 _ rfl
     have d1:=hds 1 _ rfl
     have d2:=hds 2 _ rfl
     have d3:=hds 3 _ rfl
     have d4:=hds 4 _ rfl
     have d5:=hds 5 _ rfl
     simp only [Nat.add_zero] at c0 d0
     have Q:=Lib.hid (fun W (g:Ext wr W)=>ssame_rule_at _ _ W hsh (hxa.below g) (hxb.below g) hsm)
     clear hcs hds hxa hxb hsm hsh
     generalize p.rules.getD j default=r at *
     generalize q.rules.getD j default=s at *
     go_wp2_with fail
     go_region_law (first
      | (go_simp;go_at_call 12;(with_reducible refine (Q.out _ (Ext.drew wr)).mono ?_);rintro e w2 ⟨rfl,hb2⟩;have HB2:=Lib.hid (show Ext X w2 from Ext.trans HB.out (Ext.trans (Ext.drew wr) hb2));clear hb2)
      | fail)
     all_goals
      clear c0 c1 c2 c3 c4 c5 d0 d1 d2 d3 d4 d5 a0 a1 b0 b1
      go_wp2_with fail
      have hgk:=HG.out
      go_roundg (gk - 1)
      case measure=>omega
      case rel=>exact ⟨j+1,by omega,by go_num,HB2,Lib.hid (by omega)⟩
    ·obtain rfl:j=p.rules.length:=by omega
     have HBe:=Lib.hid (Ext.trans HX.out HB.out)
     go_wp2_with fail
     go_ret
     exact ⟨rfl,HBe.out⟩
end Go.Proofs.YtnghanpmmbcbbaaGreatDoor
namespace Go.Proofs.YtnghanpmmbcbbaaGreatDoor
open Go
def lastX (T:List Tok) (prev:List UInt8):List UInt8:=(T.getLast?.map fun x=>x.2.1).getD prev
theorem lastX_append (T U:List Tok) (prev:List UInt8) (hU:U≠[]):lastX (T++U) prev=lastX U prev:=by
 unfold lastX
 rw [List.getLast?_append]
 cases h:U.getLast? with
 | none=>exact absurd (List.getLast?_eq_none_iff.1 h) hU
 | some x=>rfl
def Scn (fr:Bool) (X:List UInt8) (T:List Tok):Prop:=T≠[]∧∀(sep prev k:List UInt8) (B:List Tok) (n:Nat),((sep=[]∧prev≠[45])∨∃c,sep=[c]∧spcB c=true)→(fr=true∨inB (k.headD 0)=false) →
 (∀m,k.length < m→scanG m (lastX T []) k=some B)→(sep++(X++k)).length < n→scanG n prev (sep++(X++k))=some (T++B)
theorem scn_one {fr:Bool} {t:List UInt8} {K:Int} (hK:K≠0) (ht:∀k:List UInt8,(fr=true∨inB (k.headD 0)=false)→tokL (t++k)=(K,t,0)) (hx:∃x s,t=x :: s∧spcB x=false∧x≠35):Scn fr t [(K,t,false)]:=by
 refine ⟨by simp,fun sep prev k B n hs hk hB hn=>?_⟩
 obtain ⟨x,s,rfl,b1,b2⟩:=hx
 have h1:=ht k hk
 cases n with
 | zero=>omega
 | succ n =>
  have hstop:gap false (x :: s++k)=x :: s++k:=by rw [List.cons_append,gap_stop b1 b2]
  have hB':=hB n (by simp only [List.length_append,List.length_cons] at hn;omega)
  rcases hs with ⟨rfl,hp⟩|⟨c,rfl,hc⟩
  ·rw [List.nil_append]
   have hpf:(prev==[45])=false:=by simpa using hp
   rw [scanG_next (by rw [hstop];exact h1) hK,hstop,List.drop_left,hpf]
   rw [show lastX [(K,x :: s,false)] []=x :: s from rfl] at hB'
   rw [hB']
   simp
  ·have hg:gap false (c :: (x :: s++k))=x :: s++k:=by rw [gap_spc hc,hstop]
   rw [List.singleton_append]
   rw [scanG_next (by rw [hg];exact h1) hK,hg,List.drop_left]
   rw [show lastX [(K,x :: s,false)] []=x :: s from rfl] at hB'
   rw [hB',show ((x :: s++k).length==(c :: (x :: s++k)).length)=false by simp only [beq_eq_false_iff_ne,ne_eq,List.length_cons];omega,Bool.and_false,Bool.and_false]
   rfl
theorem Scn.seq {a b:Bool} {X Y sp:List UInt8} {T U:List Tok} (h1:Scn a X T) (h2:Scn b Y U) (hsp:(sp=[]∧lastX T []≠[45])∨∃c,sp=[c]∧spcB c=true) (hin:a=true∨inB ((sp++Y).headD 0)=false) (hne:sp++Y≠[]):Scn b (X++(sp++Y)) (T++U):=by
 refine ⟨by simp [h1.1],fun sep prev k B n hs hk hB hn=>?_⟩
 rw [List.append_assoc,List.append_assoc]
 rw [List.append_assoc,List.append_assoc] at hn
 rw [List.append_assoc]
 refine h1.2 sep prev (sp++(Y++k)) (U++B) n hs ?_ (fun m hm=>?_) hn
 ·rcases hin with h|hin
  ·exact .inl h
  ·right
   rw [←List.append_assoc]
   cases hq:sp++Y with
   | nil=>exact absurd hq hne
   | cons c d=>rw [hq] at hin;exact hin
 ·refine h2.2 sp (lastX T []) k B m hsp hk (fun m2 hm2=>?_) hm
  rw [←lastX_append T U [] h2.1]
  exact hB m2 hm2
theorem Scn.sp {a b:Bool} {X Y:List UInt8} {T U:List Tok} (h1:Scn a X T) (h2:Scn b Y U):Scn b (X++32 :: Y) (T++U):=h1.seq (sp:=[32]) h2 (.inr ⟨32,rfl,by decide⟩) (.inr rfl) (by simp)
theorem Scn.lf {a b:Bool} {X Y:List UInt8} {T U:List Tok} (h1:Scn a X T) (h2:Scn b Y U):Scn b (X++10 :: Y) (T++U):=h1.seq (sp:=[10]) h2 (.inr ⟨10,rfl,by decide⟩) (.inr rfl) (by simp)
theorem Scn.to {a b:Bool} {X Y:List UInt8} {T U:List Tok} (h1:Scn a X T) (h2:Scn b Y U) (hl:lastX T []≠[45]) (hin:a=true∨inB (Y.headD 0)=false) (hY:Y≠[]):Scn b (X++Y) (T++U):=h1.seq (sp:=[]) h2 (.inl ⟨rfl,hl⟩) hin hY
theorem Scn.tied {X:List UInt8} {T:List Tok} (h:Scn true X T):Scn false X T:=⟨h.1,fun sep prev k B n hs _ hB hn=>h.2 sep prev k B n hs (.inl rfl) hB hn⟩
def wdB (c:UInt8):Bool:=lowB c||(uppB c||undB c)
theorem sym_alone {c:UInt8} (h:∀x∈syms,x.head?=some c→x=[c]) (hc:[c]∈syms) (y:List UInt8):symP (c :: y)=[c]:=by
 refine symP_unique hc (by simp) fun x hx hp=>?_
 have:x.head?=some c:=by
  cases x with
  | nil=>exact absurd hx (by decide)
  | cons a x =>
   obtain ⟨z,hz⟩:=hp
   simp only [List.cons_append,List.cons.injEq] at hz
   rw [hz.1];rfl
 rw [h x hx this]
 exact Nat.le_refl _
theorem tok_symbol {c:UInt8} {l:List UInt8} (h1:wdB c=false) (h2:digB c=false) {s:List UInt8} (hs:symP (c :: l)=s) (h0:s≠[]):tokL (c :: l)=(4,s,0):=by
 unfold tokL
 simp only
 rw [hs,if_neg (by rw [show (lowB c||(uppB c||undB c))=false from h1];decide),if_neg (by rw [h2];decide),if_neg h0]
theorem scn_sym {c:UInt8} (h:∀x∈syms,x.head?=some c→x=[c]) (hc:[c]∈syms) (h1:wdB c=false) (h2:digB c=false) (h3:spcB c=false) (h4:c≠35):Scn true [c] [tkS [c]] :=
 scn_one (by decide) (fun k _=>tok_symbol h1 h2 (sym_alone h hc k) (by simp)) ⟨c,[],rfl,h3,h4⟩
theorem scn_lp:Scn true [40] [tkS [40]]:=scn_sym (by decide) (by decide) (by decide) (by decide) (by decide) (by decide)
theorem scn_rp:Scn true [41] [tkS [41]]:=scn_sym (by decide) (by decide) (by decide) (by decide) (by decide) (by decide)
theorem scn_comma:Scn true [44] [tkS [44]]:=scn_sym (by decide) (by decide) (by decide) (by decide) (by decide) (by decide)
theorem scn_point:Scn true [46] [tkS [46]]:=scn_sym (by decide) (by decide) (by decide) (by decide) (by decide) (by decide)
theorem scn_slash:Scn true [47] [tkS [47]]:=scn_sym (by decide) (by decide) (by decide) (by decide) (by decide) (by decide)
theorem scn_at:Scn true [64] [tkS [64]]:=scn_sym (by decide) (by decide) (by decide) (by decide) (by decide) (by decide)
theorem scn_bar:Scn true [124] [tkS [124]]:=scn_sym (by decide) (by decide) (by decide) (by decide) (by decide) (by decide)
theorem scn_op {s:List UInt8} (h:opB s=true):Scn true s [tkS s]:=by
 simp only [opB,operators,List.mem_cons,List.not_mem_nil,or_false,decide_eq_true_eq] at h
 rcases h with rfl|rfl|rfl|rfl|rfl<;>exact scn_sym (by decide) (by decide) (by decide) (by decide) (by decide) (by decide)
theorem scn_wide {s:List UInt8} (hs:s∈syms) {b:Bool} {Y:List UInt8} {U:List Tok} (h:Scn b Y U):Scn b (s++32 :: Y) (tkS s :: U):=by
 refine ⟨by simp,fun sep prev k B n hsep hk hB hn=>?_⟩
 have e0:∀x∈syms,symP x=x:=by decide
 have hb:=sym_bytes s hs
 obtain ⟨x,t,rfl⟩:∃x t,s=x :: t:=by
  cases s with
  | nil=>exact absurd hs (by decide)
  | cons x t=>exact ⟨x,t,rfl⟩
 obtain ⟨b1,b2,b3,b4,b5,b6⟩:=hb x (by simp)
 have hwy:wdB x=false:=by simp [wdB,b3,b4,b5]
 have hsym:symP (x :: t++32 :: (Y++k))=x :: t:=by rw [symP_line (by decide),e0 _ hs]
 have h1:tokL (x :: t++32 :: (Y++k))=(4,x :: t,0):=tok_symbol hwy b6 hsym (by simp)
 have hstop:gap false (x :: t++32 :: (Y++k))=x :: t++32 :: (Y++k):=by rw [List.cons_append,gap_stop b1 b2]
 have e:x :: t++32 :: Y++k=x :: t++32 :: (Y++k):=by simp
 rw [e] at hn ⊢
 cases n with
 | zero=>omega
 | succ n =>
  have hrest:scanG n (x :: t) (32 :: (Y++k))=some (U++B):=by
   refine h.2 [32] (x :: t) k B n (.inr ⟨32,rfl,by decide⟩) hk (fun m hm=>?_) (by
    simp only [List.length_append,List.length_cons] at hn ⊢;simp only [List.length_nil];omega)
   have:=hB m hm
   rw [show lastX (tkS (x :: t) :: U) []=lastX U [] from lastX_append [tkS (x :: t)] U [] h.1] at this
   exact this
  rcases hsep with ⟨rfl,hp⟩|⟨c,rfl,hc⟩
  ·rw [List.nil_append,scanG_next (by rw [hstop];exact h1) (by decide),hstop,List.drop_left,hrest]
   rfl
  ·have hg:gap false (c :: (x :: t++32 :: (Y++k)))=x :: t++32 :: (Y++k):=by rw [gap_spc hc,hstop]
   rw [List.singleton_append,scanG_next (by rw [hg];exact h1) (by decide),hg,List.drop_left,hrest]
   rfl
theorem while_all_in {p:UInt8→Bool} {l k:List UInt8} (h:∀c∈l,p c=true) (hk:p (k.headD 0)=false):(l++k).takeWhile p=l:=(while_stop h (.inr hk)).1
theorem scn_name {s:List UInt8} (h:wordB s=true) (hl:lowB (s.headD 0)=true):Scn false s [(1,s,false)]:=by
 obtain ⟨h1,h2,h3⟩:=(wordB_iff s).1 h
 obtain ⟨x,t,rfl⟩:∃x t,s=x :: t:=by
  cases s with
  | nil=>simp at h1
  | cons x t=>exact ⟨x,t,rfl⟩
 have hl':lowB x=true:=hl
 have hb:=hl'
 simp only [lowB,decide_eq_true_eq] at hb
 have hsp:spcB x=false:=by
  cases hs:spcB x with
  | false=>rfl
  | true =>
   simp only [spcB,Bool.or_eq_true,beq_iff_eq] at hs
   rcases hs with ((rfl|rfl)|rfl)|rfl<;>simp at hb
 refine scn_one (by decide) (fun k hk=>?_) ⟨x,t,rfl,hsp,by rintro rfl;simp at hb⟩
 have hw:=while_all_in (k:=k) h3 (hk.resolve_left (by decide))
 rw [List.cons_append] at hw ⊢
 unfold tokL
 simp only
 rw [hw,if_pos (by rw [hl'];rfl),if_neg (by omega),if_pos hl']
theorem scn_right {s:List UInt8} (h:rightB s=true):Scn false s [(1,s,false)]:=by
 simp only [rightB,Bool.and_eq_true] at h
 refine scn_name h.1 ?_
 have:=h.2.1
 cases s with
 | nil=>exact this
 | cons x t=>simpa using this
theorem scn_var {n:Nat} (h:n≤1048576):Scn false (label n) [(2,label n,false)]:=by
 have hv:=label_var h
 simp only [varB,Bool.and_eq_true] at hv
 obtain ⟨h1,h2,h3⟩:=(wordB_iff _).1 hv.1
 refine scn_one (by decide) (fun k hk=>?_) ⟨86,Lib.decDigits n,rfl,by decide,by decide⟩
 have hw:=while_all_in (k:=k) h3 (hk.resolve_left (by decide))
 unfold label at hw h2 ⊢
 rw [List.cons_append] at hw ⊢
 unfold tokL
 simp only
 rw [hw,if_pos (by decide),if_neg (by omega),if_neg (by decide)]
theorem tok_digits {n:Nat} (h:n≤2147483648) {k:List UInt8} (hk:inB (k.headD 0)=false):tokL (Lib.decDigits n++k)=(3,Lib.decDigits n,0)∧∃x s,Lib.decDigits n=x :: s∧spcB x=false∧x≠35:=by
 obtain ⟨x,t,e⟩:∃x t,Lib.decDigits n=x :: t:=by
  cases hd:Lib.decDigits n with
  | nil=>exact absurd hd (dec_ne n)
  | cons x t=>exact ⟨x,t,rfl⟩
 have hdx:digB x=true:=dec_dig n x (by rw [e];simp)
 have hb:=hdx
 simp only [digB,decide_eq_true_eq] at hb
 have hwy:wdB x=false:=by
  simp only [wdB,lowB,uppB,undB,Bool.or_eq_false_iff,decide_eq_false_iff_not]
  omega
 have hsp:spcB x=false:=by
  cases hs:spcB x with
  | false=>rfl
  | true =>
   simp only [spcB,Bool.or_eq_true,beq_iff_eq] at hs
   rcases hs with ((rfl|rfl)|rfl)|rfl<;>simp at hb
 have hw:=while_all_in (p:=digB) (l:=Lib.decDigits n) (k:=k) (dec_dig n) (in_dig hk)
 have hval:=val_dec h
 rw [e] at hw hval ⊢
 refine ⟨?_,x,t,rfl,hsp,by rintro rfl;simp at hb⟩
 rw [List.cons_append] at hw ⊢
 unfold tokL
 simp only
 rw [hw,hval,if_neg (by rw [show (lowB x||(uppB x||undB x))=false from hwy];decide),if_pos hdx,if_neg (by omega)]
theorem scn_nat {n:Nat} (h:n≤2147483648):Scn false (Lib.decDigits n) [(3,Lib.decDigits n,false)] :=
 scn_one (by decide) (fun _ hk=>(tok_digits h (hk.resolve_left (by decide))).1) (tok_digits (k:=[]) h (by decide)).2
theorem scn_neg {n:Nat} (h:n≤2147483648):Scn false (45 :: Lib.decDigits n) [tkS [45],(3,Lib.decDigits n,true)]:=by
 refine ⟨by simp,fun sep prev k B n2 hsep hk hB hn=>?_⟩
 obtain ⟨h1,x,s,e,b1,b2⟩:=tok_digits h (hk.resolve_left (by decide))
 have hm:tokL (45 :: Lib.decDigits n++k)=(4,[45],0):=tok_minus _
 have hstop:gap false (45 :: Lib.decDigits n++k)=45 :: Lib.decDigits n++k:=gap_stop (by decide) (by decide)
 have hstop2:gap false (Lib.decDigits n++k)=Lib.decDigits n++k:=by rw [e,List.cons_append,gap_stop b1 b2]
 simp only [List.length_append,List.length_cons] at hn
 have hdl:0 < (Lib.decDigits n).length:=by rw [e];simp
 match n2,hn with
 | n2+2,hn =>
  have hrest:scanG (n2+1) [45] (Lib.decDigits n++k)=some ((3,Lib.decDigits n,true) :: B):=by
   have hB':=hB n2 (by omega)
   rw [show lastX [tkS [45],(3,Lib.decDigits n,true)] []=Lib.decDigits n from rfl] at hB'
   rw [scanG_next (by rw [hstop2];exact h1) (by decide),hstop2,List.drop_left,hB']
   simp
  have hd1:(45 :: Lib.decDigits n++k).drop ([45]:List UInt8).length=Lib.decDigits n++k:=rfl
  rcases hsep with ⟨rfl,hp⟩|⟨c,rfl,hc⟩
  ·rw [List.nil_append,scanG_next (by rw [hstop];exact hm) (by decide),hstop,hd1,hrest]
   rfl
  ·have hg:gap false (c :: (45 :: Lib.decDigits n++k))=45 :: Lib.decDigits n++k:=by rw [gap_spc hc,hstop]
   rw [List.singleton_append,scanG_next (by rw [hg];exact hm) (by decide),hg,hd1,hrest]
   rfl
 | 0,hn=>omega
 | 1,hn=>omega
end Go.Proofs.YtnghanpmmbcbbaaGreatDoor
