/-
  SnTerm.
  SnAtoms.
  SnGoals.
 SnNumber.
 SwOpen.
-/
import Derived.Test.YtnghanpmmbcbbaaGreatDoorMq17
import Derived.Test.YtnghanpmmbcbbaaGreatDoorMq12
import Derived.Test.YtnghanpmmbcbbaaGreatDoorMq9
import Derived.Test.YtnghanpmmbcbbaaGreatDoorMq8
import Derived.OpenShut
namespace Go.Proofs.YtnghanpmmbcbbaaGreatDoor
open Go.RowKit
def NumT (b:Nat) (ns:List Int) (t:Tm) (w:World) (e:Ending) (w':World):Prop :=
 ∃u:Tm,e=.returned u.val∧u.strip=(t.rr (placeS (addAll ns t.occ))).strip∧Lie Any w.heap.size No w' u∧Keeps b w w'∧NumM w' b (addAll ns t.occ)
def NumTs (b:Nat) (ns:List Int) (l:List Tm) (w:World) (e:Ending) (w':World):Prop :=
 ∃(A:Option Addr) (cap:Nat) (cur:List Tm),e=.returned (.slice A l.length cap)∧cur.length=l.length∧stripL cur=stripL (rrL l (placeS (addAll ns (occL l))))∧(∀W,Agree w.heap.size No w' W→Lst W A cur cap)∧Keeps b w w'∧NumM w' b (addAll ns (occL l))
def TermR (w0:World) (b:Nat) (t:Tm):Prop:=∀(w:World) (ns:List Int),Below w0.heap.size w0 w→NumM w b ns→ns.length+t.nodes≤1000000 →
 Calls Tryz.prog 125 #[.map (some b),t.val] w (NumT b ns t w)
theorem occL_take {l:List Tm} {j:Nat} (hj:j < l.length):occL (l.take (j+1))=occL (l.take j)++(l.getD j default).occ:=by
 rw [ttake_next hj,occL_append]
 simp [occL]
theorem nodesL_take {l:List Tm} {j:Nat} (hj:j < l.length):nodesL (l.take j)+(l.getD j default).nodes≤nodesL l:=by
 have e:nodesL l=nodesL (l.take j)+nodesL (l.drop j):=by rw [←nodesL_app,List.take_append_drop]
 rw [e,List.drop_eq_getElem_cons hj]
 have e2:l.getD j default=l[j]:=by simp [List.getD,List.getElem?_eq_getElem hj]
 rw [e2]
 simp only [nodesL]
 omega
theorem occ_nodes:(∀t:Tm,t.occ.length≤t.nodes)∧(∀l,(occL l).length≤nodesL l) :=
 ⟨fun t=>Nat.le_trans (occ_length.1 t) (size_nodes.1 t).1,fun l=>Nat.le_trans (occ_length.2 l) (size_nodes.2 l)⟩
theorem addAll_more (ns xs ys:List Int) {v:Int} (hv:v∈xs):placeS (addAll ns (xs++ys)) v=placeS (addAll ns xs) v:=by
 rw [addAll_append]
 exact place_addAll _ _ ((mem_addAll _ _ _).2 (.inr hv))
theorem rr_in {l:List Tm} {j:Nat} (hj:j < l.length) (ns:List Int):(l.getD j default).rr (placeS (addAll (addAll ns (occL (l.take j))) (l.getD j default).occ))=(l.getD j default).rr (placeS (addAll ns (occL l))):=by
 refine rr_like.1 _ _ _ fun v hv=>?_
 have e:occL l=occL (l.take (j+1))++occL (l.drop (j+1)):=by rw [←occL_append,List.take_append_drop]
 rw [←addAll_append,← occL_take hj,e]
 exact (addAll_more _ _ _ (by rw [occL_take hj];exact List.mem_append_right _ hv)).symm
section
variable {b:Nat}
set_option maxHeartbeats 4000000 in
theorem terms_of (w0:World) (hb0:w0.heap.size≤b) (l:List Tm) (A:Option Addr) (c:Nat) (w:World) (ns:List Int) (hw:Below w0.heap.size w0 w) (hl:Lst w A l c) (hM:NumM w b ns) (hn:ns.length+nodesL l≤1000000)
  (ih:∀x∈l,TermR w0 b x) :
  Calls Tryz.prog 82 #[.map (some b),.slice A l.length c] w (NumTs b ns l w):=by
 by_cases h0:l.length=0
 ·obtain rfl:l=[]:=List.length_eq_zero_iff.1 h0
  have Q:=Lib.hid (clone_none_at A c w)
  have HM:=Lib.hid hM
  clear ih hl h0 hn hw hM
  show Calls Tryz.prog 82 #[.map (some b),.slice A 0 c] w _
  go_enter Tryz.func82,Tryz.ntmps82
  go_wp2_with fail
  refine (Q.out).mono ?_
  rintro e w1 ⟨A',cap,rfl,h1,h2,_,hb⟩
  have HC:=Lib.hid (show Lst w1 A' [] cap from ⟨h1,h2,fun h=>by simp at h⟩)
  clear h1 h2
  go_wp2_with fail
  go_loopw [11] (fun i wr=>i=.int .i64 0∧Below w.heap.size w wr) (fun _ _=>0)
  case atStart=>exact ⟨rfl,hb⟩
  case round =>
   obtain ⟨rfl,hbw⟩:=hrel
   go_wp2_with fail
   go_ret
   exact ⟨A',cap,[],rfl,rfl,rfl,fun W _=>⟨HC.out.1,HC.out.2.1,fun h=>by simp at h⟩,Below.keeps hbw b,HM.out.below hbw⟩
 ·have hp:0 < l.length:=by omega
  obtain ⟨b0,o,rfl,hrow⟩:=hl.2.2 hp
  have hln:l.length≤1000000:=by have:=length_le_nodes l;omega
  have hlen:l.length≤9223372036854775807:=by omega
  have Q:=Lib.hid (clone_at l b0 o c w hp hrow hln)
  have QI:=Lib.hid ih
  have HNn:=Lib.hid hn
  have HM0:=Lib.hid hM
  have HW0:=Lib.hid hw
  have hbw0:b < w.heap.size:=hM.lt
  clear ih hrow hln h0 hl hn hw hM
  go_enter Tryz.func82,Tryz.ntmps82
  go_wp2_with fail
  refine (Q.out).mono ?_
  rintro e w1 ⟨A',cap,rfl,h1,h2,h3,hb⟩
  obtain ⟨g,rfl,hg,hrow⟩:=h3 hp
  have HD:=Lib.hid (Putting.start (f:=fun t=>t.rr (placeS (addAll ns (occL l)))) (lo:=w.heap.size) hrow)
  have HM1:=Lib.hid (HM0.out.below hb)
  have hcap:l.length≤cap:=h1
  have hcap2:cap≤9223372036854775807:=by unfold maxLen at h2;exact h2
  have HG:=Lib.hid hg
  clear hrow h3 h1 h2 hg
  go_wp2_with fail
  go_loopw [11] (fun i wr=>∃j:Nat,j≤l.length∧i=.int .i64 j∧Hid (Putting (fun t=>t.rr (placeS (addAll ns (occL l)))) l g w.heap.size j wr)∧Hid (NumM wr b (addAll ns (occL (l.take j))))∧Keeps b w wr) (fun i _=>l.length - (intOf i).toNat)
  case atStart=>exact ⟨0,Nat.zero_le _,rfl,HD,HM1,Below.keeps hb b⟩
  case round =>
   obtain ⟨j,hj,rfl,HF,HM,hbw⟩:=hrel
   clear hb HD
   by_cases hlt:j < l.length
   ·obtain ⟨x,hx⟩:∃x,x=l.getD j default:=⟨_,rfl⟩
    have hcl:=HF.out.cells hlt
    have Q1:=Lib.hid (QI.out _ (getD_mem hlt))
    have HRR:=Lib.hid (rr_in hlt ns)
    have HOC:=Lib.hid (occL_take hlt)
    have HSZ:=Lib.hid (show (addAll ns (occL (l.take j))).length+(l.getD j default).nodes≤1000000 by
     have h1:=nodesL_take hlt
     have h2:=addAll_length ns (occL (l.take j))
     have h3:=occ_nodes.2 (l.take j)
     have h4:=HNn.out
     omega)
    rw [←hx] at hcl Q1 HRR HOC HSZ
    have c0:=hcl 0 _ rfl
    have c1:=hcl 1 _ rfl
    have c2:=hcl 2 _ rfl
    have c3:=hcl 3 _ rfl
    simp only [Nat.add_zero] at c0
    have HX:=Lib.hid hx
    have hgs:g < wr.heap.size:=HF.out.lt
    have hgb:g≠b:=by have:=HG.out;omega
    clear hx hcl QI
    obtain ⟨k',n',s',A',c',a'⟩:=x
    simp only [Tm.kind,Tm.num,Tm.name,Tm.at_,Tm.args,Tm.cap] at c0 c1 c2 c3
    go_wp2_with fail
    refine (Q1.out _ _ (Keeps.below HW0.out (hbw.alloc _) hb0) (HM.out.below (below1 _ _)) HSZ.out).mono ?_
    rintro e w2 ⟨u,rfl,hu,hst,hk2,hm2⟩
    have hw:Keeps b wr w2:=(Below.keeps (below1 wr _) b).trans hk2
    have HN:=Lib.hid (putting_next_k HF.out hlt HX.out hbw.size (by rw [hu,HRR.out]) (hst.low (by simp)) hw hbw0 hgb _ rfl)
    have D2:=Lib.hid (HF.out.keeps hw hbw0 hgb)
    have HM2:=Lib.hid (show NumM w2 b (addAll ns (occL (l.take (j+1)))) by rw [HOC.out,addAll_append];exact hm2)
    have hbx:=hbw.trans hw
    have e0:=D2.out.cells hlt
    rw [←HX.out] at e0
    have q0:=e0 0 _ rfl
    have q1:=e0 1 _ rfl
    have q2:=e0 2 _ rfl
    have q3:=e0 3 _ rfl
    simp only [Nat.add_zero,Tm.kind,Tm.num,Tm.name,Tm.at_,Tm.args,Tm.cap] at q0 q1 q2 q3
    have f0:=D2.out.free (j*4)
    have f1:=D2.out.free (j*4+1)
    have f2:=D2.out.free (j*4+2)
    have f3:=D2.out.free (j*4+3)
    have hgz:=D2.out.lt
    obtain ⟨k2,n2,s2,A2,p2,a2⟩:=u
    simp only [Tm.kind,Tm.num,Tm.name,Tm.at_,Tm.args,Tm.cap] at HN
    clear e0 hu hst hk2 hm2 c0 c1 c2 c3 hw
    go_wp2_with fail
    go_roundw
    case rel=>exact ⟨j+1,by omega,by go_num,HN,Lib.hid (HM2.out.set4 hgb _ _ _ _),(((hbx.own (p:=⟨g,j*4,none⟩) HG.out _).own (p:=⟨g,j*4+1,none⟩) HG.out _).own (p:=⟨g,j*4+2,none⟩) HG.out _).own (p:=⟨g,j*4+3,none⟩) HG.out _⟩
    case measure=>simp [intOf];omega
   ·obtain rfl:j=l.length:=by omega
    clear QI
    obtain ⟨news,hn,hst,hL⟩:=HF.out.done (w':=wr) HG.out (Nat.le_refl _) (fun _ _ _=>rfl) cap hcap (by unfold maxLen;exact hcap2)
    have HL:=Lib.hid hL
    have HN:=Lib.hid hn
    have HS:=Lib.hid (show stripL news=stripL (rrL l (placeS (addAll ns (occL l)))) by rw [rrL_map];exact hst)
    have HMM:=Lib.hid (show NumM wr b (addAll ns (occL l)) by have:=HM.out;rw [List.take_length] at this;exact this)
    clear hn hst hL HF HM
    go_wp2_with fail
    go_ret
    exact ⟨_,cap,news,rfl,HN.out,HS.out,HL.out,hbw,HMM.out⟩
set_option maxHeartbeats 4000000 in
theorem term_num_at (w0:World) (hb0:w0.heap.size≤b) (t:Tm):t.At w0→TermR w0 b t:=by
 induction t using Tm.induct with
 | h k n s A c a ih =>
  intro hat w ns hw hM hsz
  show Calls Tryz.prog 125 #[.map (some b),.agg #[.int .i64 k,.int .i64 n,.string s,.slice A a.length c]] w _
  have HP:=Lib.hid ((At_iff _ _).1 hat).1
  simp only [Tm.kind,Tm.num,Tm.name] at HP
  obtain ⟨HB0,HB1⟩:=two_boxes w (.int .i64 k) (.int .i64 n) (.string s) (.slice A a.length c) (.int .i64 0) (.int .i64 0) (.string ⟨#[]⟩) (.slice none 0 0) 69
  have H0:=Lib.hid HB0
  have H1:=Lib.hid HB1
  clear HB0 HB1
  have hl:Lst w A a c:=hat.lst.below hw
  have hbw0:b < w.heap.size:=hM.lt
  have HM:=Lib.hid hM
  have HW0:=Lib.hid hw
  have hna:1+nodesL a≤(Tm.mk k n s A c a).nodes:=by simp only [Tm.nodes];omega
  by_cases k2:k=2
  ·subst k2
   have Q1:=Lib.hid (fun W (h:Below w.heap.size w W)=>terms_of w0 hb0 a A c W ns (hw.trans (h.mono hw.size)) (hl.below h) (hM.below h) (by omega) (fun x hx=>ih x hx (hat.lst.mem hx)))
   have HV:=Lib.hid (show (Tm.mk 2 n s A c a).rr (placeS (addAll ns (occL a)))=.mk 2 n s A c (rrL a (placeS (addAll ns (occL a)))) from rr_fun _ _ _ _ _ _)
   have HO:=Lib.hid (show (Tm.mk 2 n s A c a).occ=occL a by simp [Tm.occ])
   clear hat ih hl hna hsz hw hM
   go_enter Tryz.func125,Tryz.ntmps125
   go_wp2_with fail
   refine (Q1.out _ (below2 _ _ _)).mono ?_
   rintro e w3 ⟨A',cap,cur,rfl,hcl,hst,hL,hk3,hm3⟩
   have HK3:=Lib.hid (H0.out.keeps hk3 (by omega))
   have HM3:=Lib.hid (H1.out.keeps hk3 (by omega))
   have HB3:=Lib.hid ((Below.keeps (below2 w (.cells #[.int .i64 2,.int .i64 n,.string s,.slice A a.length c] 69) zeroBox) b).trans hk3)
   obtain ⟨hz3,p0,p1,p2,p3,f⟩:=HK3.out
   obtain ⟨hz,e0,e1,e2,e3,f'⟩:=HM3.out
   have f3:=f 3
   have f0':=f' 0
   have f1':=f' 1
   have f2':=f' 2
   have f3':=f' 3
   have HL:=Lib.hid (show ∀W,Agree (w.heap.size+2) No w3 W→Lst W A' cur cap from fun W hW=>hL W fun b' h1 h2 h3=>hW b' (by simpa using h1) h2 h3)
   have HS:=Lib.hid hst
   have HC:=Lib.hid hcl
   have HNM:=Lib.hid hm3
   clear f f' hL hst hcl hk3 hm3 Q1 H0 H1
   go_wp2_with fail
   refine bodyPost_ret (v:=.agg #[.int .i64 2,.int .i64 n,.string s,.slice A' a.length cap]) (by simp [results,Tryz.results125,go_sem,e0,e1,e2,e3]) rfl ?_
   refine ⟨.mk 2 n s A' cap cur,by rw [←HC.out];rfl,?_,lie_row (lo:=w.heap.size+2) HP.out (fun W hW=>HL.out W fun b' h1 h2 h3=>?_) (by omega),?_,?_⟩
   ·rw [HO.out,HV.out];simp only [Tm.strip,HS.out]
   ·rw [hW b' h1 (by rw [size_set4];simpa [World.setCell] using h2) h3,heap_set4 _ (by omega),Below.heap_setCell _ _ _ _ (by show b'≠w.heap.size;omega)]
   ·exact ((((HB3.out.own (p:=⟨w.heap.size,3,none⟩) (Nat.le_refl _) _).own (p:=⟨w.heap.size+1,0,none⟩) (Nat.le_succ _) _).own (p:=⟨w.heap.size+1,1,none⟩) (Nat.le_succ _) _).own (p:=⟨w.heap.size+1,2,none⟩) (Nat.le_succ _) _).own (p:=⟨w.heap.size+1,3,none⟩) (Nat.le_succ _) _
   ·rw [HO.out]
    exact (HNM.out.set (p:=⟨w.heap.size,3,none⟩) (by show w.heap.size≠b;omega) _).set4 (by omega) _ _ _ _
  ·have k2':(k==2)=false:=by simpa using k2
   have QC:=Lib.hid (fun W (h:Below w0.heap.size w0 W)=>copies_at (nodesL a) A a c W rfl (by omega) (hat.lst.below h))
   by_cases k1:k=1
   ·subst k1
    have HFN:=HP.out.2.1
    have Q1:=Lib.hid (fun W (h:Below w.heap.size w W)=>num_v_at b ns n HFN W (hM.below h) (by omega))
    have hk1:((1:Int)==1)=true:=rfl
    have HO:=Lib.hid (show (Tm.mk 1 n s A c a).occ=[n] by simp [Tm.occ])
    have HFG:=Lib.hid (show Fits (placeS (addV ns n) n) from place_fits2 (by have:=addV_length ns n;omega) n)
    have HV:=Lib.hid (show (Tm.mk 1 n s A c a).rr (placeS (addV ns n))=.mk 1 (placeS (addV ns n) n) s A c a from rr_var _ _ _ _ _ _)
    clear hat ih hl hna hsz hw hM k2
    go_enter Tryz.func125,Tryz.ntmps125
    go_wp2_with fail
    refine (Q1.out _ (below2 _ _ _)).mono ?_
    rintro e w1 ⟨rfl,hm1,hk1'⟩
    obtain ⟨m,hm⟩:∃m,placeS (addV ns n) n=m:=⟨_,rfl⟩
    rw [hm] at HFG HV ⊢
    have HKa:=Lib.hid (H0.out.keeps hk1' (by omega))
    have HMa:=Lib.hid (H1.out.keeps hk1' (by omega))
    have HK:=Lib.hid (HKa.out.set1 (.int .i64 m))
    have HMb:=Lib.hid (HMa.out.other (p:=⟨w.heap.size,1,none⟩) (by show w.heap.size≠w.heap.size+1;omega) (.int .i64 m))
    have HKP:=Lib.hid (((Below.keeps (below2 w (.cells #[.int .i64 1,.int .i64 n,.string s,.slice A a.length c] 69) zeroBox) b).trans hk1').own (p:=⟨w.heap.size,1,none⟩) (Nat.le_refl _) (.int .i64 m))
    have HN1:=Lib.hid (hm1.set (p:=⟨w.heap.size,1,none⟩) (by show w.heap.size≠b;omega) (.int .i64 m))
    have HB0:=Lib.hid (Keeps.below HW0.out HKP.out hb0)
    obtain ⟨hz0,d0,d1,d2,d3,f⟩:=HKa.out
    have f1:=f 1
    clear f hk1' hm1 H0 H1 hm
    go_wp2_with fail
    refine (QC.out _ HB0.out).mono ?_
    rintro e w3 ⟨A',cap,cur,rfl,hcl,hst,hL,hb3⟩
    have HK3:=Lib.hid (HK.out.below hb3)
    have HM3:=Lib.hid (HMb.out.below hb3)
    have HB3:=Lib.hid (HKP.out.trans (Below.keeps hb3 b))
    have HN3:=Lib.hid (HN1.out.below hb3)
    obtain ⟨hz3,p0,p1,p2,p3,f⟩:=HK3.out
    obtain ⟨hz,e0,e1,e2,e3,f'⟩:=HM3.out
    have f3:=f 3
    have f0':=f' 0
    have f1':=f' 1
    have f2':=f' 2
    have f3':=f' 3
    have HL:=Lib.hid (show ∀W,Agree (w.heap.size+2) No w3 W→Lst W A' cur cap from fun W hW=>hL W fun b' h1 h2 h3=>hW b' (by have:=HMb.out.lt;omega) h2 h3)
    have HS:=Lib.hid hst
    have HC:=Lib.hid hcl
    clear f f' hL hst hcl hb3 Q1 QC HK HKa HMa HMb HKP HN1 HB0 d0 d1 d2 d3 f1 hz0
    go_wp2_with fail
    refine bodyPost_ret (v:=.agg #[.int .i64 1,.int .i64 m,.string s,.slice A' a.length cap]) (by simp [results,Tryz.results125,go_sem,e0,e1,e2,e3]) rfl ?_
    refine ⟨.mk 1 m s A' cap cur,by rw [←HC.out];rfl,?_,lie_row (lo:=w.heap.size+2) ⟨HP.out.1,HFG.out,HP.out.2.2⟩ (fun W hW=>HL.out W fun b' h1 h2 h3=>?_) (by omega),?_,?_⟩
    ·rw [HO.out,addAll_one,HV.out];simp only [Tm.strip,HS.out]
    ·rw [hW b' h1 (by rw [size_set4];simpa [World.setCell] using h2) h3,heap_set4 _ (by omega),Below.heap_setCell _ _ _ _ (by show b'≠w.heap.size;omega)]
    ·exact ((((HB3.out.own (p:=⟨w.heap.size,3,none⟩) (Nat.le_refl _) _).own (p:=⟨w.heap.size+1,0,none⟩) (Nat.le_succ _) _).own (p:=⟨w.heap.size+1,1,none⟩) (Nat.le_succ _) _).own (p:=⟨w.heap.size+1,2,none⟩) (Nat.le_succ _) _).own (p:=⟨w.heap.size+1,3,none⟩) (Nat.le_succ _) _
    ·rw [HO.out,addAll_one]
     exact (HN3.out.set (p:=⟨w.heap.size,3,none⟩) (by show w.heap.size≠b;omega) _).set4 (by omega) _ _ _ _
   ·have k1':(k==1)=false:=by simpa using k1
    have HO:=Lib.hid (show (Tm.mk k n s A c a).occ=[] by simp [Tm.occ,k1,k2])
    have HV:=Lib.hid (show ∀g,(Tm.mk k n s A c a).rr g=.mk k n s A c a from fun g=>rr_else _ _ _ _ _ _ k1 k2)
    have HB0:=Lib.hid (HW0.out.trans ((below2 w (.cells #[.int .i64 k,.int .i64 n,.string s,.slice A a.length c] 69) zeroBox).mono HW0.out.size))
    clear hat ih hl hna hsz hw hM k1 k2
    go_enter Tryz.func125,Tryz.ntmps125
    go_wp2_with fail
    refine (QC.out _ HB0.out).mono ?_
    rintro e w3 ⟨A',cap,cur,rfl,hcl,hst,hL,hb3⟩
    have HK3:=Lib.hid (H0.out.below hb3)
    have HM3:=Lib.hid (H1.out.below hb3)
    have HB3:=Lib.hid (Below.keeps ((below2 w (.cells #[.int .i64 k,.int .i64 n,.string s,.slice A a.length c] 69) zeroBox).trans (hb3.mono (by simp;omega))) b)
    have HN3:=Lib.hid ((HM.out.below (below2 w (.cells #[.int .i64 k,.int .i64 n,.string s,.slice A a.length c] 69) zeroBox)).below hb3)
    obtain ⟨hz3,p0,p1,p2,p3,f⟩:=HK3.out
    obtain ⟨hz,e0,e1,e2,e3,f'⟩:=HM3.out
    have f3:=f 3
    have f0':=f' 0
    have f1':=f' 1
    have f2':=f' 2
    have f3':=f' 3
    have HL:=Lib.hid (show ∀W,Agree (w.heap.size+2) No w3 W→Lst W A' cur cap from fun W hW=>hL W fun b' h1 h2 h3=>hW b' (by simpa using h1) h2 h3)
    have HS:=Lib.hid hst
    have HC:=Lib.hid hcl
    clear f f' hL hst hcl hb3 QC H0 H1 HB0
    go_wp2_with fail
    refine bodyPost_ret (v:=.agg #[.int .i64 k,.int .i64 n,.string s,.slice A' a.length cap]) (by simp [results,Tryz.results125,go_sem,e0,e1,e2,e3]) rfl ?_
    refine ⟨.mk k n s A' cap cur,by rw [←HC.out];rfl,?_,lie_row (lo:=w.heap.size+2) HP.out (fun W hW=>HL.out W fun b' h1 h2 h3=>?_) (by omega),?_,?_⟩
    ·rw [HV.out];simp only [Tm.strip,HS.out]
    ·rw [hW b' h1 (by rw [size_set4];simpa [World.setCell] using h2) h3,heap_set4 _ (by omega),Below.heap_setCell _ _ _ _ (by show b'≠w.heap.size;omega)]
    ·exact ((((HB3.out.own (p:=⟨w.heap.size,3,none⟩) (Nat.le_refl _) _).own (p:=⟨w.heap.size+1,0,none⟩) (Nat.le_succ _) _).own (p:=⟨w.heap.size+1,1,none⟩) (Nat.le_succ _) _).own (p:=⟨w.heap.size+1,2,none⟩) (Nat.le_succ _) _).own (p:=⟨w.heap.size+1,3,none⟩) (Nat.le_succ _) _
    ·rw [HO.out]
     exact (HN3.out.set (p:=⟨w.heap.size,3,none⟩) (by show w.heap.size≠b;omega) _).set4 (by omega) _ _ _ _
end
end Go.Proofs.YtnghanpmmbcbbaaGreatDoor
namespace Go.Proofs.YtnghanpmmbcbbaaGreatDoor
open Go.RowKit
section
variable {gg:Int→Int} {l:List Am} {g lo j:Nat} {wr w2:World} {R:Nat}
theorem AmOwn.keeps (h:AmOwn wr g l) (k:Keeps R wr w2) (hR:g≠R):AmOwn w2 g l :=
 ⟨Nat.lt_of_lt_of_le h.1 k.size,fun j=>(k.frozen (p:=⟨g,j,none⟩) h.1 hR).trans (h.2.1 j),fun i j u hi hu=>(k.cell (p:=⟨g,i*2+j,none⟩) h.1 hR).trans (h.2.2 i j u hi hu)⟩
theorem AmLie.keeps {x:Am} {X:Nat→Prop} (h:AmLie Any lo X wr x) (k:Keeps R wr w2) (hR:R < lo):AmLie Any lo X w2 x:=h.less k.size fun b h1 h2 h3=>⟨h1,h3,k.block b h2 (by omega)⟩
theorem AmPut.keeps (h:AmPut gg l g lo j wr) (k:Keeps R wr w2) (hR:R < lo) (hg:g≠R):AmPut gg l g lo j w2:=by
 obtain ⟨news,hn,hs,hr,hk⟩:=h
 exact ⟨news,hn,hs,hr.keeps k hg,fun x hx=>(hk x hx).keeps k hR⟩
theorem amput_next_k {u x:Am} (h:AmPut gg l g lo j wr) (hj:j < l.length) (hx:x=l.getD j default) (hlo:lo≤wr.heap.size) (hu:u.key=(x.ren gg).key) (hst:AmLie Any wr.heap.size No w2 u) (hb:Keeps R wr w2) (hR:R < lo) (hgR:g≠R) (w3:World)
  (h3:w3=w2.setCell ⟨g,j*2+1,none⟩ (.slice u.at_ u.args.length u.cap)):AmPut gg l g lo (j+1) w3:=by
 have hg:=h.lt
 obtain ⟨news,hn,hs,hr,hk⟩:=h
 have hgx:(news++l.drop j).getD j default=x:=by
  rw [hx]
  simp [List.getD,List.getElem?_append_right (show news.length≤j by omega),hn]
 have hr3:=(hr.keeps hb hgR).store (i:=j) (by simp;omega) u (by rw [hgx];exact (Prod.ext_iff.1 hu).1)
 rw [←h3] at hr3
 have hset:(news++l.drop j).set j u=(news++[u])++l.drop (j+1):=by
  rw [List.set_append_right _ _ (by omega),hn,Nat.sub_self,List.drop_eq_getElem_cons hj,List.set_cons_zero,List.append_assoc]
  rfl
 rw [hset] at hr3
 refine ⟨news++[u],by simp [hn],?_,hr3,fun y hy=>?_⟩
 ·rw [am_take_next hj,List.map_append,List.map_append,hs,← hx]
  simp [hu]
 ·rw [h3]
  refine AmLie.set (X:=Is g) ?_ (p:=⟨g,j*2+1,none⟩) (.inr rfl) _
  rcases List.mem_append.1 hy with hy|hy
  ·exact (hk y hy).keeps hb hR
  ·obtain rfl:y=u:=by simpa using hy
   exact (hst.new_is hg).low hlo
end
def NumAms (b:Nat) (ns:List Int) (l:List Am) (w:World) (e:Ending) (w':World):Prop :=
 ∃(A:Option Addr) (cap:Nat) (cur:List Am),e=.returned (.slice A l.length cap)∧cur.length=l.length∧cur.map Am.key=(l.map fun x=>x.rr (placeS (addAll ns (occL (l.flatMap Am.args))))).map Am.key∧(∀W,Agree w.heap.size No w' W→AmLst W A cur cap)∧Keeps b w w'∧NumM w' b (addAll ns (occL (l.flatMap Am.args)))
theorem am_ren_rr (x:Am) (g:Int→Int):x.ren g=x.rr g:=by unfold Am.ren Am.rr;rw [ren_rr.2]
theorem am_flat {l:List Am} {j:Nat} (hj:j < l.length):(l.take (j+1)).flatMap Am.args=(l.take j).flatMap Am.args++(l.getD j default).args:=by
 rw [am_take_next hj,List.flatMap_append];simp
theorem am_flat_drop (l:List Am) (j:Nat):l.flatMap Am.args=(l.take j).flatMap Am.args++(l.drop j).flatMap Am.args:=by
 rw [←List.flatMap_append,List.take_append_drop]
theorem am_flat_nodes {l:List Am} {j:Nat} (hj:j < l.length):nodesL ((l.take j).flatMap Am.args)+nodesL (l.getD j default).args≤nodesL (l.flatMap Am.args):=by
 rw [am_flat_drop l (j+1),nodesL_app,am_flat hj,nodesL_app]
 omega
theorem am_rr_in {l:List Am} {j:Nat} (hj:j < l.length) (ns:List Int):rrL (l.getD j default).args (placeS (addAll (addAll ns (occL ((l.take j).flatMap Am.args))) (occL (l.getD j default).args)))=rrL (l.getD j default).args (placeS (addAll ns (occL (l.flatMap Am.args)))):=by
 refine rr_like.2 _ _ _ fun v hv=>?_
 rw [←addAll_append,← occL_append,← am_flat hj,am_flat_drop l (j+1),occL_append]
 exact (addAll_more _ _ _ (by rw [am_flat hj,occL_append];exact List.mem_append_right _ hv)).symm
section
variable {b:Nat}
set_option maxHeartbeats 4000000 in
theorem num_ams_at (w0:World) (hb0:w0.heap.size≤b) (l:List Am) (A:Option Addr) (c:Nat) (w:World) (ns:List Int) (hw:Below w0.heap.size w0 w) (hl:AmLst w0 A l c) (hM:NumM w b ns) (hsz:l.length≤1000000) (hn:ns.length+nodesL (l.flatMap Am.args)≤1000000) :
  Calls Tryz.prog 44 #[.map (some b),.slice A l.length c] w (NumAms b ns l w):=by
 by_cases h0:l.length=0
 ·obtain rfl:l=[]:=List.length_eq_zero_iff.1 h0
  have Q:=Lib.hid (clone_am_none A c w)
  have HM:=Lib.hid hM
  clear hl hsz h0 hn hM hw
  show Calls Tryz.prog 44 #[.map (some b),.slice A 0 c] w _
  go_enter Tryz.func44,Tryz.ntmps44
  go_wp2_with fail
  refine (Q.out).mono ?_
  rintro e w1 ⟨A',cap,rfl,h1,h2,_,hb⟩
  have HC:=Lib.hid (And.intro h1 h2)
  clear h1 h2
  go_wp2_with fail
  go_loopw [11] (fun i wr=>i=.int .i64 0∧Below w.heap.size w wr) (fun _ _=>0)
  case atStart=>exact ⟨rfl,hb⟩
  case round =>
   obtain ⟨rfl,hbw⟩:=hrel
   go_wp2_with fail
   go_ret
   exact ⟨A',cap,[],rfl,rfl,rfl,fun W _=>⟨HC.out.1,HC.out.2,fun h=>by simp at h⟩,Below.keeps hbw b,HM.out.below hbw⟩
 ·have hp:0 < l.length:=by omega
  have hlw:=hl.below hw
  obtain ⟨b0,o,rfl,hrow⟩:=hlw.2.2 hp
  have hlen:l.length≤9223372036854775807:=by omega
  have Q:=Lib.hid (clone_am_at l b0 o c w hp hrow hsz)
  have hbw0:b < w.heap.size:=hM.lt
  have HM0:=Lib.hid hM
  have HW0:=Lib.hid hw
  have HNn:=Lib.hid hn
  have HR:=Lib.hid (fun (x:Am) (hx:x∈l) (W:World) (ms:List Int) (h:Below w0.heap.size w0 W) (hm:NumM W b ms) (hz:ms.length+nodesL x.args≤1000000)=>terms_of w0 hb0 x.args x.at_ x.cap W ms h (((hl.mem hx).below h).2) hm hz (fun y hy=>term_num_at w0 hb0 y (Lst.mem ((hl.mem hx).2) hy)))
  have HAT:=Lib.hid (fun (x:Am) (hx:x∈l)=>hl.mem hx)
  clear hrow hsz h0 hl hlw hw hM hn
  go_enter Tryz.func44,Tryz.ntmps44
  go_wp2_with fail
  refine (Q.out).mono ?_
  rintro e w1 ⟨A',cap,rfl,h1,h2,h3,hb⟩
  obtain ⟨g,rfl,hg,hrow⟩:=h3 hp
  have HD:=Lib.hid (AmPut.start (gg:=placeS (addAll ns (occL (l.flatMap Am.args)))) (lo:=w.heap.size) hrow)
  have HM1:=Lib.hid (HM0.out.below hb)
  have hcap:l.length≤cap:=h1
  have hcap2:cap≤9223372036854775807:=by unfold maxLen at h2;exact h2
  have HG:=Lib.hid hg
  clear hrow h3 h1 h2 hg
  go_wp2_with fail
  go_loopw [11] (fun i wr=>∃j:Nat,j≤l.length∧i=.int .i64 j∧Hid (AmPut (placeS (addAll ns (occL (l.flatMap Am.args)))) l g w.heap.size j wr)∧Hid (NumM wr b (addAll ns (occL ((l.take j).flatMap Am.args))))∧Keeps b w wr) (fun i _=>l.length - (intOf i).toNat)
  case atStart=>exact ⟨0,Nat.zero_le _,rfl,HD,HM1,Below.keeps hb b⟩
  case round =>
   obtain ⟨j,hj,rfl,HF,HM,hbw⟩:=hrel
   clear hb HD
   by_cases hlt:j < l.length
   ·obtain ⟨x,hx⟩:∃x,x=l.getD j default:=⟨_,rfl⟩
    have hcs:=HF.out.cells hlt
    have hmem:x∈l:=by rw [hx];exact am_getD_mem hlt
    have HRR:=Lib.hid (am_rr_in hlt ns)
    have HOC:=Lib.hid (am_flat hlt)
    have HSZ:=Lib.hid (show (addAll ns (occL ((l.take j).flatMap Am.args))).length+nodesL (l.getD j default).args≤1000000 by
     have h1:=am_flat_nodes hlt
     have h2:=addAll_length ns (occL ((l.take j).flatMap Am.args))
     have h3:=occ_nodes.2 ((l.take j).flatMap Am.args)
     have h4:=HNn.out
     omega)
    rw [←hx] at hcs HRR HOC HSZ
    have c0:=hcs 0 _ rfl
    have c1:=hcs 1 _ rfl
    simp only [Nat.add_zero] at c0
    clear hcs
    have Q1:=Lib.hid (HR.out x hmem)
    have HX:=Lib.hid hx
    have HXA:=Lib.hid (HAT.out x hmem)
    have hgs:g < wr.heap.size:=HF.out.lt
    have hgb:g≠b:=by have:=HG.out;omega
    clear hx hmem
    obtain ⟨s',A',c',a'⟩:=x
    simp only at c0 c1
    go_wp2_with fail
    refine (Q1.out _ _ (Keeps.below HW0.out (hbw.alloc _) hb0) (HM.out.below (below1 _ _)) HSZ.out).mono ?_
    rintro e w2 ⟨A2,p2,cur,rfl,hcl,hst,hL,hk2,hm2⟩
    have hw:Keeps b wr w2:=(Below.keeps (below1 wr _) b).trans hk2
    have HN:=Lib.hid (amput_next_k (u:=⟨s',A2,p2,cur⟩) HF.out hlt HX.out hbw.size (Prod.ext rfl (by rw [am_ren_rr];show stripL cur=_;rw [hst,HRR.out];rfl)) (fun W _ hW=>⟨HXA.out.1,hL W fun b' h1 h2 h3=>hW b' (by simp at h1;omega) h2 h3⟩) hw hbw0 hgb _ rfl)
    have D2:=Lib.hid (HF.out.keeps hw hbw0 hgb)
    have HM2:=Lib.hid (show NumM w2 b (addAll ns (occL ((l.take (j+1)).flatMap Am.args))) by rw [HOC.out,occL_append,addAll_append];exact hm2)
    have hbx:=hbw.trans hw
    have e0:=D2.out.cells hlt
    rw [←HX.out] at e0
    have q1:=e0 1 _ rfl
    have f1:=D2.out.free (j*2+1)
    have hgz:=D2.out.lt
    simp only at HN
    rw [hcl] at HN
    clear e0 hcl hst hL hk2 hm2 c0 c1 hw
    go_wp2_with fail
    go_roundw
    case rel=>exact ⟨j+1,by omega,by go_num,HN,Lib.hid (HM2.out.set (p:=⟨g,j*2+1,none⟩) hgb _),hbx.own (p:=⟨g,j*2+1,none⟩) HG.out _⟩
    case measure=>simp [intOf];omega
   ·obtain rfl:j=l.length:=by omega
    obtain ⟨news,hn,hst,hL⟩:=HF.out.done HG.out cap hcap (by unfold maxLen;exact hcap2)
    have HL:=Lib.hid hL
    have HN:=Lib.hid hn
    have HS:=Lib.hid (show news.map Am.key=(l.map fun x=>x.rr (placeS (addAll ns (occL (l.flatMap Am.args))))).map Am.key by simp only [am_ren_rr] at hst;exact hst)
    have HMM:=Lib.hid (show NumM wr b (addAll ns (occL (l.flatMap Am.args))) by have:=HM.out;rw [List.take_length] at this;exact this)
    clear hn hst hL HF HM
    go_wp2_with fail
    go_ret
    exact ⟨_,cap,news,rfl,HN.out,HS.out,fun W hW=>HL.out W trivial hW,hbw,HMM.out⟩
end
end Go.Proofs.YtnghanpmmbcbbaaGreatDoor
namespace Go.Proofs.YtnghanpmmbcbbaaGreatDoor
open Go.RowKit
section
variable {gg:Int→Int} {l:List Gl} {g lo j:Nat} {wr w2:World} {R:Nat}
theorem GlOwn.keeps (h:GlOwn wr g l) (k:Keeps R wr w2) (hR:g≠R):GlOwn w2 g l :=
 ⟨Nat.lt_of_lt_of_le h.1 k.size,fun j=>(k.frozen (p:=⟨g,j,none⟩) h.1 hR).trans (h.2.1 j),fun i j u hi hu=>(k.cell (p:=⟨g,i*3+j,none⟩) h.1 hR).trans (h.2.2 i j u hi hu)⟩
theorem GlLie.keeps {x:Gl} {X:Nat→Prop} (h:GlLie Any lo X wr x) (k:Keeps R wr w2) (hR:R < lo):GlLie Any lo X w2 x:=h.less k.size fun b h1 h2 h3=>⟨h1,h3,k.block b h2 (by omega)⟩
theorem GlPut.keeps (h:GlPut gg l g lo j wr) (k:Keeps R wr w2) (hR:R < lo) (hg:g≠R):GlPut gg l g lo j w2:=by
 obtain ⟨news,hn,hs,hr,hk⟩:=h
 exact ⟨news,hn,hs,hr.keeps k hg,fun x hx=>(hk x hx).keeps k hR⟩
theorem glput_next_k {u x:Gl} (h:GlPut gg l g lo j wr) (hj:j < l.length) (hx:x=l.getD j default) (hlo:lo≤wr.heap.size) (hu:u.key=(x.ren gg).key) (hst:GlLie Any wr.heap.size No w2 u) (hb:Keeps R wr w2) (hR:R < lo) (hgR:g≠R) (w3:World)
  (h3:w3=w2.setCell ⟨g,j*3+2,none⟩ (.slice u.at_ u.args.length u.cap)):GlPut gg l g lo (j+1) w3:=by
 have hg:=h.lt
 obtain ⟨news,hn,hs,hr,hk⟩:=h
 have hgx:(news++l.drop j).getD j default=x:=by
  rw [hx]
  simp [List.getD,List.getElem?_append_right (show news.length≤j by omega),hn]
 have hr3:=(hr.keeps hb hgR).store (i:=j) (by simp;omega) u (by rw [hgx];exact (Prod.ext_iff.1 hu).1)
 rw [←h3] at hr3
 have hset:(news++l.drop j).set j u=(news++[u])++l.drop (j+1):=by
  rw [List.set_append_right _ _ (by omega),hn,Nat.sub_self,List.drop_eq_getElem_cons hj,List.set_cons_zero,List.append_assoc]
  rfl
 rw [hset] at hr3
 refine ⟨news++[u],by simp [hn],?_,hr3,fun y hy=>?_⟩
 ·rw [gl_take_next hj,List.map_append,List.map_append,hs,← hx]
  simp [hu]
 ·rw [h3]
  refine GlLie.set (X:=Is g) ?_ (p:=⟨g,j*3+2,none⟩) (.inr rfl) _
  rcases List.mem_append.1 hy with hy|hy
  ·exact (hk y hy).keeps hb hR
  ·obtain rfl:y=u:=by simpa using hy
   exact (hst.new_is hg).low hlo
end
def NumGls (b:Nat) (ns:List Int) (l:List Gl) (w:World) (e:Ending) (w':World):Prop :=
 ∃(A:Option Addr) (cap:Nat) (cur:List Gl),e=.returned (.slice A l.length cap)∧cur.length=l.length∧cur.map Gl.key=(l.map fun x=>x.rr (placeS (addAll ns (occL (l.flatMap Gl.args))))).map Gl.key∧(∀W,Agree w.heap.size No w' W→GlLst W A cur cap)∧Keeps b w w'∧NumM w' b (addAll ns (occL (l.flatMap Gl.args)))
theorem gl_ren_rr (x:Gl) (g:Int→Int):x.ren g=x.rr g:=by unfold Gl.ren Gl.rr;rw [ren_rr.2]
theorem gl_flat {l:List Gl} {j:Nat} (hj:j < l.length):(l.take (j+1)).flatMap Gl.args=(l.take j).flatMap Gl.args++(l.getD j default).args:=by
 rw [gl_take_next hj,List.flatMap_append];simp
theorem gl_flat_drop (l:List Gl) (j:Nat):l.flatMap Gl.args=(l.take j).flatMap Gl.args++(l.drop j).flatMap Gl.args:=by
 rw [←List.flatMap_append,List.take_append_drop]
theorem gl_flat_nodes {l:List Gl} {j:Nat} (hj:j < l.length):nodesL ((l.take j).flatMap Gl.args)+nodesL (l.getD j default).args≤nodesL (l.flatMap Gl.args):=by
 rw [gl_flat_drop l (j+1),nodesL_app,gl_flat hj,nodesL_app]
 omega
theorem gl_rr_in {l:List Gl} {j:Nat} (hj:j < l.length) (ns:List Int):rrL (l.getD j default).args (placeS (addAll (addAll ns (occL ((l.take j).flatMap Gl.args))) (occL (l.getD j default).args)))=rrL (l.getD j default).args (placeS (addAll ns (occL (l.flatMap Gl.args)))):=by
 refine rr_like.2 _ _ _ fun v hv=>?_
 rw [←addAll_append,← occL_append,← gl_flat hj,gl_flat_drop l (j+1),occL_append]
 exact (addAll_more _ _ _ (by rw [gl_flat hj,occL_append];exact List.mem_append_right _ hv)).symm
section
variable {b:Nat}
set_option maxHeartbeats 4000000 in
theorem num_gls_at (w0:World) (hb0:w0.heap.size≤b) (l:List Gl) (A:Option Addr) (c:Nat) (w:World) (ns:List Int) (hw:Below w0.heap.size w0 w) (hl:GlLst w0 A l c) (hM:NumM w b ns) (hsz:l.length≤1000000) (hn:ns.length+nodesL (l.flatMap Gl.args)≤1000000) :
  Calls Tryz.prog 45 #[.map (some b),.slice A l.length c] w (NumGls b ns l w):=by
 by_cases h0:l.length=0
 ·obtain rfl:l=[]:=List.length_eq_zero_iff.1 h0
  have Q:=Lib.hid (clone_gl_none A c w)
  have HM:=Lib.hid hM
  clear hl hsz h0 hn hM hw
  show Calls Tryz.prog 45 #[.map (some b),.slice A 0 c] w _
  go_enter Tryz.func45,Tryz.ntmps45
  go_wp2_with fail
  refine (Q.out).mono ?_
  rintro e w1 ⟨A',cap,rfl,h1,h2,_,hb⟩
  have HC:=Lib.hid (And.intro h1 h2)
  clear h1 h2
  go_wp2_with fail
  go_loopw [11] (fun i wr=>i=.int .i64 0∧Below w.heap.size w wr) (fun _ _=>0)
  case atStart=>exact ⟨rfl,hb⟩
  case round =>
   obtain ⟨rfl,hbw⟩:=hrel
   go_wp2_with fail
   go_ret
   exact ⟨A',cap,[],rfl,rfl,rfl,fun W _=>⟨HC.out.1,HC.out.2,fun h=>by simp at h⟩,Below.keeps hbw b,HM.out.below hbw⟩
 ·have hp:0 < l.length:=by omega
  have hlw:=hl.below hw
  obtain ⟨b0,o,rfl,hrow⟩:=hlw.2.2 hp
  have hlen:l.length≤9223372036854775807:=by omega
  have Q:=Lib.hid (clone_gl_at l b0 o c w hp hrow hsz)
  have hbw0:b < w.heap.size:=hM.lt
  have HM0:=Lib.hid hM
  have HW0:=Lib.hid hw
  have HNn:=Lib.hid hn
  have HR:=Lib.hid (fun (x:Gl) (hx:x∈l) (W:World) (ms:List Int) (h:Below w0.heap.size w0 W) (hm:NumM W b ms) (hz:ms.length+nodesL x.args≤1000000)=>terms_of w0 hb0 x.args x.at_ x.cap W ms h (((hl.mem hx).below h).2.2) hm hz (fun y hy=>term_num_at w0 hb0 y (Lst.mem ((hl.mem hx).2.2) hy)))
  have HAT:=Lib.hid (fun (x:Gl) (hx:x∈l)=>hl.mem hx)
  clear hrow hsz h0 hl hlw hw hM hn
  go_enter Tryz.func45,Tryz.ntmps45
  go_wp2_with fail
  refine (Q.out).mono ?_
  rintro e w1 ⟨A',cap,rfl,h1,h2,h3,hb⟩
  obtain ⟨g,rfl,hg,hrow⟩:=h3 hp
  have HD:=Lib.hid (GlPut.start (gg:=placeS (addAll ns (occL (l.flatMap Gl.args)))) (lo:=w.heap.size) hrow)
  have HM1:=Lib.hid (HM0.out.below hb)
  have hcap:l.length≤cap:=h1
  have hcap2:cap≤9223372036854775807:=by unfold maxLen at h2;exact h2
  have HG:=Lib.hid hg
  clear hrow h3 h1 h2 hg
  go_wp2_with fail
  go_loopw [11] (fun i wr=>∃j:Nat,j≤l.length∧i=.int .i64 j∧Hid (GlPut (placeS (addAll ns (occL (l.flatMap Gl.args)))) l g w.heap.size j wr)∧Hid (NumM wr b (addAll ns (occL ((l.take j).flatMap Gl.args))))∧Keeps b w wr) (fun i _=>l.length - (intOf i).toNat)
  case atStart=>exact ⟨0,Nat.zero_le _,rfl,HD,HM1,Below.keeps hb b⟩
  case round =>
   obtain ⟨j,hj,rfl,HF,HM,hbw⟩:=hrel
   clear hb HD
   by_cases hlt:j < l.length
   ·obtain ⟨x,hx⟩:∃x,x=l.getD j default:=⟨_,rfl⟩
    have hcs:=HF.out.cells hlt
    have hmem:x∈l:=by rw [hx];exact gl_getD_mem hlt
    have HRR:=Lib.hid (gl_rr_in hlt ns)
    have HOC:=Lib.hid (gl_flat hlt)
    have HSZ:=Lib.hid (show (addAll ns (occL ((l.take j).flatMap Gl.args))).length+nodesL (l.getD j default).args≤1000000 by
     have h1:=gl_flat_nodes hlt
     have h2:=addAll_length ns (occL ((l.take j).flatMap Gl.args))
     have h3:=occ_nodes.2 ((l.take j).flatMap Gl.args)
     have h4:=HNn.out
     omega)
    rw [←hx] at hcs HRR HOC HSZ
    have c0:=hcs 0 _ rfl
    have c1:=hcs 1 _ rfl
    have c2:=hcs 2 _ rfl
    simp only [Nat.add_zero] at c0
    clear hcs
    have Q1:=Lib.hid (HR.out x hmem)
    have HX:=Lib.hid hx
    have HXA:=Lib.hid (HAT.out x hmem)
    have hgs:g < wr.heap.size:=HF.out.lt
    have hgb:g≠b:=by have:=HG.out;omega
    clear hx hmem
    obtain ⟨o',s',A',c',a'⟩:=x
    simp only at c0 c1 c2
    go_wp2_with fail
    refine (Q1.out _ _ (Keeps.below HW0.out (hbw.alloc _) hb0) (HM.out.below (below1 _ _)) HSZ.out).mono ?_
    rintro e w2 ⟨A2,p2,cur,rfl,hcl,hst,hL,hk2,hm2⟩
    have hw:Keeps b wr w2:=(Below.keeps (below1 wr _) b).trans hk2
    have HN:=Lib.hid (glput_next_k (u:=⟨o',s',A2,p2,cur⟩) HF.out hlt HX.out hbw.size (Prod.ext rfl (by rw [gl_ren_rr];show stripL cur=_;rw [hst,HRR.out];rfl)) (fun W _ hW=>⟨HXA.out.1,HXA.out.2.1,hL W fun b' h1 h2 h3=>hW b' (by simp at h1;omega) h2 h3⟩) hw hbw0 hgb _ rfl)
    have D2:=Lib.hid (HF.out.keeps hw hbw0 hgb)
    have HM2:=Lib.hid (show NumM w2 b (addAll ns (occL ((l.take (j+1)).flatMap Gl.args))) by rw [HOC.out,occL_append,addAll_append];exact hm2)
    have hbx:=hbw.trans hw
    have e0:=D2.out.cells hlt
    rw [←HX.out] at e0
    have q1:=e0 2 _ rfl
    have f1:=D2.out.free (j*3+2)
    have hgz:=D2.out.lt
    simp only at HN
    rw [hcl] at HN
    clear e0 hcl hst hL hk2 hm2 c0 c1 c2 hw
    go_wp2_with fail
    go_roundw
    case rel=>exact ⟨j+1,by omega,by go_num,HN,Lib.hid (HM2.out.set (p:=⟨g,j*3+2,none⟩) hgb _),hbx.own (p:=⟨g,j*3+2,none⟩) HG.out _⟩
    case measure=>simp [intOf];omega
   ·obtain rfl:j=l.length:=by omega
    obtain ⟨news,hn,hst,hL⟩:=HF.out.done HG.out cap hcap (by unfold maxLen;exact hcap2)
    have HL:=Lib.hid hL
    have HN:=Lib.hid hn
    have HS:=Lib.hid (show news.map Gl.key=(l.map fun x=>x.rr (placeS (addAll ns (occL (l.flatMap Gl.args))))).map Gl.key by simp only [gl_ren_rr] at hst;exact hst)
    have HMM:=Lib.hid (show NumM wr b (addAll ns (occL (l.flatMap Gl.args))) by have:=HM.out;rw [List.take_length] at this;exact this)
    clear hn hst hL HF HM
    go_wp2_with fail
    go_ret
    exact ⟨_,cap,news,rfl,HN.out,HS.out,fun W hW=>HL.out W trivial hW,hbw,HMM.out⟩
end
end Go.Proofs.YtnghanpmmbcbbaaGreatDoor
namespace Go.Proofs.YtnghanpmmbcbbaaGreatDoor
open Go.RowKit
theorem occ_flat {α:Type} {f:α→List Tm} {x:α} {v:Int} (hv:v∈occL (f x)):∀{l:List α},x∈l→v∈occL (l.flatMap f)
 | y :: r,h=>by
  rw [List.flatMap_cons,occL_append,List.mem_append]
  rcases List.mem_cons.1 h with rfl|h
  ·exact .inl hv
  ·exact .inr (occ_flat hv h)
theorem am_final {l:List Am} {g h:Int→Int} (e:∀v∈occL (l.flatMap Am.args),g v=h v):(l.map fun x=>x.rr g)=l.map fun x=>x.rr h:=by
 refine List.map_congr_left fun x hx=>?_
 unfold Am.rr
 rw [rr_like.2 x.args g h fun v hv=>e v (occ_flat (f:=Am.args) hv hx)]
theorem gl_final {l:List Gl} {g h:Int→Int} (e:∀v∈occL (l.flatMap Gl.args),g v=h v):(l.map fun x=>x.rr g)=l.map fun x=>x.rr h:=by
 refine List.map_congr_left fun x hx=>?_
 unfold Gl.rr
 rw [rr_like.2 x.args g h fun v hv=>e v (occ_flat (f:=Gl.args) hv hx)]
def Rl.n1 (r:Rl):List Int:=addAll [] (occL (r.keep.flatMap Am.args))
def Rl.n2 (r:Rl):List Int:=addAll r.n1 (occL (r.remove.flatMap Am.args))
def Rl.n3 (r:Rl):List Int:=addAll r.n2 (occL (r.guard.flatMap Gl.args))
theorem Rl.n4 (r:Rl):addAll r.n3 (occL (r.body.flatMap Gl.args))=r.vs:=by
 unfold Rl.n3 Rl.n2 Rl.n1 Rl.vs varsL Rl.ts
 rw [occL_append,occL_append,occL_append,addAll_append,addAll_append,addAll_append]
theorem mem_left {l xs:List Int} {v:Int} (h:v∈l):v∈addAll l xs:=(mem_addAll _ _ _).2 (.inl h)
theorem mem_right {l xs:List Int} {v:Int} (h:v∈xs):v∈addAll l xs:=(mem_addAll _ _ _).2 (.inr h)
theorem Rl.key1 (r:Rl):(r.keep.map fun x=>x.rr (placeS r.n1))=r.keep.map fun x=>x.rr (placeS r.vs):=am_final fun v hv=>by
 have hm:v∈r.n1:=mem_right hv
 rw [←r.n4]
 unfold Rl.n3 Rl.n2
 rw [place_addAll _ _ (mem_left (mem_left hm)),place_addAll _ _ (mem_left hm),place_addAll _ _ hm]
theorem Rl.key2 (r:Rl):(r.remove.map fun x=>x.rr (placeS r.n2))=r.remove.map fun x=>x.rr (placeS r.vs):=am_final fun v hv=>by
 have hm:v∈r.n2:=mem_right hv
 rw [←r.n4]
 unfold Rl.n3
 rw [place_addAll _ _ (mem_left hm),place_addAll _ _ hm]
theorem Rl.key3 (r:Rl):(r.guard.map fun x=>x.rr (placeS r.n3))=r.guard.map fun x=>x.rr (placeS r.vs):=gl_final fun v hv=>by
 have hm:v∈r.n3:=mem_right hv
 rw [←r.n4,place_addAll _ _ hm]
theorem Rl.Tiny.sizes {r:Rl} (h:r.Tiny):([]:List Int).length+nodesL (r.keep.flatMap Am.args)≤1000000∧r.n1.length+nodesL (r.remove.flatMap Am.args)≤1000000∧r.n2.length+nodesL (r.guard.flatMap Gl.args)≤1000000∧r.n3.length+nodesL (r.body.flatMap Gl.args)≤1000000:=by
 have h0:=h.nodes
 unfold Rl.ts at h0
 rw [nodesL_app,nodesL_app,nodesL_app] at h0
 have e1:r.n1.length≤nodesL (r.keep.flatMap Am.args):=by
  have h1:=addAll_length [] (occL (r.keep.flatMap Am.args))
  have h2:=occ_nodes.2 (r.keep.flatMap Am.args)
  unfold Rl.n1
  simp only [List.length_nil] at h1
  omega
 have e2:r.n2.length≤r.n1.length+nodesL (r.remove.flatMap Am.args):=by
  have h1:=addAll_length r.n1 (occL (r.remove.flatMap Am.args))
  have h2:=occ_nodes.2 (r.remove.flatMap Am.args)
  unfold Rl.n2
  omega
 have e3:r.n3.length≤r.n2.length+nodesL (r.guard.flatMap Gl.args):=by
  have h1:=addAll_length r.n2 (occL (r.guard.flatMap Gl.args))
  have h2:=occ_nodes.2 (r.guard.flatMap Gl.args)
  unfold Rl.n3
  omega
 simp only [List.length_nil]
 omega
structure NSt (w:World) (vs:List Value) (ns:List Int) (W:World):Prop where
 box:HeldL w.heap.size W vs
 zero:HeldL (w.heap.size+1) W [.string ⟨#[]⟩,.slice none 0 0,.slice none 0 0,.slice none 0 0,.slice none 0 0,.int .i64 0]
 num:NumM W (w.heap.size+2) ns
 below:Below w.heap.size w W
theorem NSt.next {w W W':World} {vs:List Value} {ns ms:List Int} (h:NSt w vs ns W) (k:Keeps (w.heap.size+2) W W') (hm:NumM W' (w.heap.size+2) ms) {j:Nat} (hj:j < vs.length) (v:Value):NSt w (vs.set j v) ms (W'.setCell ⟨w.heap.size,j,none⟩ v) :=
 ⟨(h.box.keeps k (by omega)).set hj v,(h.zero.keeps k (by omega)).other (p:=⟨w.heap.size,j,none⟩) (by show w.heap.size≠w.heap.size+1;omega) v,hm.set (p:=⟨w.heap.size,j,none⟩) (by show w.heap.size≠w.heap.size+2;omega) v,(Keeps.below h.below k (by omega)).setCell (p:=⟨w.heap.size,j,none⟩) (Nat.le_refl _) v⟩
set_option maxHeartbeats 8000000 in
set_option maxRecDepth 100000 in
theorem number_rule_at (r:Rl) (w0 w:World) (h0:r.At w0) (hw:Below w0.heap.size w0 w) (hs:r.Tiny) :
  Calls Tryz.prog 13 #[r.val] w (RlLies w0 (fun x=>x.rr (placeS r.vs)) (fun x=>x.rr (placeS r.vs)) { r with vars:=(r.vs.length:Int) } w):=by
 have hmm:=@run_makeMap Tryz.prog
 have hb0:w0.heap.size≤w.heap.size+2:=by have:=hw.size;omega
 have HV:=Lib.hid (And.intro h0.name (show Fits (r.vs.length:Int) by
  have h1:=varsL_len r.ts
  have h2:=hs.nodes
  unfold Fits Rl.vs
  omega))
 have Q1:=Lib.hid (fun (W:World) (hb:Below w.heap.size w W) (hm:NumM W (w.heap.size+2) [])=>num_ams_at w0 hb0 r.keep r.kA r.kc W [] (hw.trans (hb.mono hw.size)) h0.keep hm hs.small.k1 hs.sizes.1)
 have Q2:=Lib.hid (fun (W:World) (hb:Below w.heap.size w W) (hm:NumM W (w.heap.size+2) r.n1)=>num_ams_at w0 hb0 r.remove r.rA r.rc W r.n1 (hw.trans (hb.mono hw.size)) h0.remove hm hs.small.r1 hs.sizes.2.1)
 have Q3:=Lib.hid (fun (W:World) (hb:Below w.heap.size w W) (hm:NumM W (w.heap.size+2) r.n2)=>num_gls_at w0 hb0 r.guard r.gA r.gc W r.n2 (hw.trans (hb.mono hw.size)) h0.guard hm hs.small.g1 hs.sizes.2.2.1)
 have Q4:=Lib.hid (fun (W:World) (hb:Below w.heap.size w W) (hm:NumM W (w.heap.size+2) r.n3)=>num_gls_at w0 hb0 r.body r.bA r.bc W r.n3 (hw.trans (hb.mono hw.size)) h0.body hm hs.small.b1 hs.sizes.2.2.2)
 obtain ⟨X,hX⟩:∃X,((w.alloc (.cells #[.string r.name,.slice r.kA r.keep.length r.kc,.slice r.rA r.remove.length r.rc,.slice r.gA r.guard.length r.gc,.slice r.bA r.body.length r.bc,.int .i64 r.vars] 25)).alloc (.cells #[.string ⟨#[]⟩,.slice none 0 0,.slice none 0 0,.slice none 0 0,.slice none 0 0,.int .i64 0] 25)).alloc (.map #[] 0)=X:=⟨_,rfl⟩
 have HB:=two_boxesL w [.string r.name,.slice r.kA r.keep.length r.kc,.slice r.rA r.remove.length r.rc,.slice r.gA r.guard.length r.gc,.slice r.bA r.body.length r.bc,.int .i64 r.vars] [.string ⟨#[]⟩,.slice none 0 0,.slice none 0 0,.slice none 0 0,.slice none 0 0,.int .i64 0] 25
 have HXs:=Lib.hid (show ((w.alloc (.cells #[.string r.name,.slice r.kA r.keep.length r.kc,.slice r.rA r.remove.length r.rc,.slice r.gA r.guard.length r.gc,.slice r.bA r.body.length r.bc,.int .i64 r.vars] 25)).alloc (.cells #[.string ⟨#[]⟩,.slice none 0 0,.slice none 0 0,.slice none 0 0,.slice none 0 0,.int .i64 0] 25)).heap.size=w.heap.size+2 by simp)
 have H0:=Lib.hid (show NSt w [.string r.name,.slice r.kA r.keep.length r.kc,.slice r.rA r.remove.length r.rc,.slice r.gA r.guard.length r.gc,.slice r.bA r.body.length r.bc,.int .i64 r.vars] [] X from by
  rw [←hX]
  refine ⟨HB.1.below (below1 _ _),HB.2.below (below1 _ _),?_,(Ext.al2 _ _ _).trans ((below1 _ _).mono (by simp))⟩
  have:=World.ownsMap_made ((w.alloc (.cells #[.string r.name,.slice r.kA r.keep.length r.kc,.slice r.rA r.remove.length r.rc,.slice r.gA r.guard.length r.gc,.slice r.bA r.body.length r.bc,.int .i64 r.vars] 25)).alloc (.cells #[.string ⟨#[]⟩,.slice none 0 0,.slice none 0 0,.slice none 0 0,.slice none 0 0,.int .i64 0] 25)) Tryz.prog 3 (plainElem (H:=Unit) Tryz.prog 3)
  rw [HXs.out] at this
  exact ⟨_,IntMap.nil,this⟩)
 clear HB h0 hw hb0
 show Calls Tryz.prog 13 #[.agg #[.string r.name,.slice r.kA r.keep.length r.kc,.slice r.rA r.remove.length r.rc,.slice r.gA r.guard.length r.gc,.slice r.bA r.body.length r.bc,.int .i64 r.vars]] w _
 go_enter Tryz.func13,Tryz.ntmps13
 go_upto_region 2 with (fail)
 (try rw [HXs.out])
 (try rw [hX])
 clear hX hmm HXs
 have p1:=H0.out.box.cell 1 _ rfl
 go_wp2_with fail
 refine (Q1.out _ H0.out.below H0.out.num).mono ?_
 rintro e y1 ⟨A1,c1,k1,rfl,hl,hk,hL,hk1,hm1⟩
 have HL1:=Lib.hid (And.intro hl hk)
 have K1:=Lib.hid hk1
 have HM1:=Lib.hid hm1
 have L1z:=Lib.hid (LP.low (lo':=w.heap.size+3) (P:=fun W=>AmLst W A1 k1 c1) (w:=y1) (fun W hW=>hL W hW) (by have:=H0.out.num.lt;omega))
 have H1:=Lib.hid (H0.out.next K1.out HM1.out (j:=1) (by simp) (.slice A1 r.keep.length c1))
 have L10:=Lib.hid (L1z.out.set (p:=⟨w.heap.size,1,none⟩) (by show w.heap.size < w.heap.size+3;omega) (.slice A1 r.keep.length c1))
 have b1:=(H0.out.box.keeps K1.out (by omega))
 have g1:=b1.free 1
 have z1:=b1.lt
 have d1:=b1.cell 1 _ rfl
 clear hl hk hL hk1 hm1 b1 p1 Q1
 have p2:=H1.out.box.cell 2 _ rfl
 go_wp2_with fail
 refine (Q2.out _ H1.out.below H1.out.num).mono ?_
 rintro e y2 ⟨A2,c2,k2,rfl,hl,hk,hL,hk1,hm1⟩
 have HL2:=Lib.hid (And.intro hl hk)
 have K2:=Lib.hid hk1
 have HM2:=Lib.hid hm1
 have L2z:=Lib.hid (LP.low (lo':=w.heap.size+3) (P:=fun W=>AmLst W A2 k2 c2) (w:=y2) (fun W hW=>hL W hW) (by have:=H1.out.num.lt;omega))
 have H2:=Lib.hid (H1.out.next K2.out HM2.out (j:=2) (by simp) (.slice A2 r.remove.length c2))
 have L11:=Lib.hid ((L10.out.keeps K2.out (by omega)).set (p:=⟨w.heap.size,2,none⟩) (by show w.heap.size < w.heap.size+3;omega) (.slice A2 r.remove.length c2))
 have L20:=Lib.hid (L2z.out.set (p:=⟨w.heap.size,2,none⟩) (by show w.heap.size < w.heap.size+3;omega) (.slice A2 r.remove.length c2))
 have b2:=(H1.out.box.keeps K2.out (by omega))
 have g2:=b2.free 2
 have z2:=b2.lt
 have d2:=b2.cell 2 _ rfl
 clear hl hk hL hk1 hm1 b2 p2 Q2
 have p3:=H2.out.box.cell 3 _ rfl
 go_wp2_with fail
 refine (Q3.out _ H2.out.below H2.out.num).mono ?_
 rintro e y3 ⟨A3,c3,k3,rfl,hl,hk,hL,hk1,hm1⟩
 have HL3:=Lib.hid (And.intro hl hk)
 have K3:=Lib.hid hk1
 have HM3:=Lib.hid hm1
 have L3z:=Lib.hid (LP.low (lo':=w.heap.size+3) (P:=fun W=>GlLst W A3 k3 c3) (w:=y3) (fun W hW=>hL W hW) (by have:=H2.out.num.lt;omega))
 have H3:=Lib.hid (H2.out.next K3.out HM3.out (j:=3) (by simp) (.slice A3 r.guard.length c3))
 have L12:=Lib.hid ((L11.out.keeps K3.out (by omega)).set (p:=⟨w.heap.size,3,none⟩) (by show w.heap.size < w.heap.size+3;omega) (.slice A3 r.guard.length c3))
 have L21:=Lib.hid ((L20.out.keeps K3.out (by omega)).set (p:=⟨w.heap.size,3,none⟩) (by show w.heap.size < w.heap.size+3;omega) (.slice A3 r.guard.length c3))
 have L30:=Lib.hid (L3z.out.set (p:=⟨w.heap.size,3,none⟩) (by show w.heap.size < w.heap.size+3;omega) (.slice A3 r.guard.length c3))
 have b3:=(H2.out.box.keeps K3.out (by omega))
 have g3:=b3.free 3
 have z3:=b3.lt
 have d3:=b3.cell 3 _ rfl
 clear hl hk hL hk1 hm1 b3 p3 Q3
 have p4:=H3.out.box.cell 4 _ rfl
 go_wp2_with fail
 refine (Q4.out _ H3.out.below H3.out.num).mono ?_
 rintro e y4 ⟨A4,c4,k4,rfl,hl,hk,hL,hk1,hm1⟩
 have HL4:=Lib.hid (And.intro hl hk)
 have K4:=Lib.hid hk1
 have HM4:=Lib.hid hm1
 have L4z:=Lib.hid (LP.low (lo':=w.heap.size+3) (P:=fun W=>GlLst W A4 k4 c4) (w:=y4) (fun W hW=>hL W hW) (by have:=H3.out.num.lt;omega))
 have H4:=Lib.hid (H3.out.next K4.out HM4.out (j:=4) (by simp) (.slice A4 r.body.length c4))
 have L13:=Lib.hid ((L12.out.keeps K4.out (by omega)).set (p:=⟨w.heap.size,4,none⟩) (by show w.heap.size < w.heap.size+3;omega) (.slice A4 r.body.length c4))
 have L22:=Lib.hid ((L21.out.keeps K4.out (by omega)).set (p:=⟨w.heap.size,4,none⟩) (by show w.heap.size < w.heap.size+3;omega) (.slice A4 r.body.length c4))
 have L31:=Lib.hid ((L30.out.keeps K4.out (by omega)).set (p:=⟨w.heap.size,4,none⟩) (by show w.heap.size < w.heap.size+3;omega) (.slice A4 r.body.length c4))
 have L40:=Lib.hid (L4z.out.set (p:=⟨w.heap.size,4,none⟩) (by show w.heap.size < w.heap.size+3;omega) (.slice A4 r.body.length c4))
 have b4:=(H3.out.box.keeps K4.out (by omega))
 have g4:=b4.free 4
 have z4:=b4.lt
 have d4:=b4.cell 4 _ rfl
 clear hl hk hL hk1 hm1 b4 p4 Q4
 have hM4:=H4.out.num
 rw [r.n4] at hM4
 obtain ⟨D,hD,hMp⟩:=hM4
 have HD:=Lib.hid hD
 have HMp:=Lib.hid hMp
 have hDs:Maps.size D=r.vs.length:=hD.2.1
 have f5:=H4.out.box.free 5
 have hz5:=H4.out.box.lt
 have d5:=H4.out.box.cell 5 _ rfl
 have H5:=Lib.hid (H4.out.next (Keeps.refl _ _) H4.out.num (j:=5) (by simp) (.int .i64 (r.vs.length:Int)))
 have p0:=H5.out.box.cell 0 _ rfl
 have p1:=H5.out.box.cell 1 _ rfl
 have p2:=H5.out.box.cell 2 _ rfl
 have p3:=H5.out.box.cell 3 _ rfl
 have p4:=H5.out.box.cell 4 _ rfl
 have p5:=H5.out.box.cell 5 _ rfl
 have q0:=H5.out.zero.cell 0 _ rfl
 have q1:=H5.out.zero.cell 1 _ rfl
 have q2:=H5.out.zero.cell 2 _ rfl
 have q3:=H5.out.zero.cell 3 _ rfl
 have q4:=H5.out.zero.cell 4 _ rfl
 have q5:=H5.out.zero.cell 5 _ rfl
 have f10:=H5.out.zero.free 0
 have f11:=H5.out.zero.free 1
 have f12:=H5.out.zero.free 2
 have f13:=H5.out.zero.free 3
 have f14:=H5.out.zero.free 4
 have f15:=H5.out.zero.free 5
 have hz1:=H5.out.zero.lt
 have HB5:=Lib.hid H5.out.below
 clear hD hMp
 go_wp2_with (at_len;refine wpList_len_own _ rfl _ 79 rfl 3 3 Tryz.underlying79 _ (w.heap.size+2) r.vs.length D rfl HMp.out ?_;rw [hDs])
 refine bodyPost_ret (v:=.agg #[.string r.name,.slice A1 r.keep.length c1,.slice A2 r.remove.length c2,.slice A3 r.guard.length c3,.slice A4 r.body.length c4,.int .i64 (r.vs.length:Int)]) (by simp [results,Tryz.results13,go_sem,q0,q1,q2,q3,q4,q5]) rfl ?_
 refine ⟨⟨r.name,A1,c1,k1,A2,c2,k2,A3,c3,k3,A4,c4,k4,(r.vs.length:Int)⟩,by rw [←HL1.out.1,← HL2.out.1,← HL3.out.1,← HL4.out.1],⟨rfl,rfl,HL1.out.1,by rw [HL1.out.2,← r.key1];rfl,HL2.out.1,by rw [HL2.out.2,← r.key2];rfl,HL3.out.1,by rw [HL3.out.2,← r.key3];rfl,HL4.out.1,by rw [HL4.out.2,r.n4]⟩,fun W _ hA=>⟨HV.out.1,((LP.set (LP.set (LP.set (LP.set (LP.set (LP.set (L13.out.set (p:=⟨w.heap.size,5,none⟩) (by show w.heap.size < w.heap.size+3;omega) (.int .i64 (r.vs.length:Int))) (p:=⟨w.heap.size+1,0,none⟩) (by show w.heap.size+1 < w.heap.size+3;omega) _) (p:=⟨w.heap.size+1,1,none⟩) (by show w.heap.size+1 < w.heap.size+3;omega) _) (p:=⟨w.heap.size+1,2,none⟩) (by show w.heap.size+1 < w.heap.size+3;omega) _) (p:=⟨w.heap.size+1,3,none⟩) (by show w.heap.size+1 < w.heap.size+3;omega) _) (p:=⟨w.heap.size+1,4,none⟩) (by show w.heap.size+1 < w.heap.size+3;omega) _) (p:=⟨w.heap.size+1,5,none⟩) (by show w.heap.size+1 < w.heap.size+3;omega) _) W fun b' h1 h2 h3=>hA b' (by omega) h2 h3),((LP.set (LP.set (LP.set (LP.set (LP.set (LP.set (L22.out.set (p:=⟨w.heap.size,5,none⟩) (by show w.heap.size < w.heap.size+3;omega) (.int .i64 (r.vs.length:Int))) (p:=⟨w.heap.size+1,0,none⟩) (by show w.heap.size+1 < w.heap.size+3;omega) _) (p:=⟨w.heap.size+1,1,none⟩) (by show w.heap.size+1 < w.heap.size+3;omega) _) (p:=⟨w.heap.size+1,2,none⟩) (by show w.heap.size+1 < w.heap.size+3;omega) _) (p:=⟨w.heap.size+1,3,none⟩) (by show w.heap.size+1 < w.heap.size+3;omega) _) (p:=⟨w.heap.size+1,4,none⟩) (by show w.heap.size+1 < w.heap.size+3;omega) _) (p:=⟨w.heap.size+1,5,none⟩) (by show w.heap.size+1 < w.heap.size+3;omega) _) W fun b' h1 h2 h3=>hA b' (by omega) h2 h3),((LP.set (LP.set (LP.set (LP.set (LP.set (LP.set (L31.out.set (p:=⟨w.heap.size,5,none⟩) (by show w.heap.size < w.heap.size+3;omega) (.int .i64 (r.vs.length:Int))) (p:=⟨w.heap.size+1,0,none⟩) (by show w.heap.size+1 < w.heap.size+3;omega) _) (p:=⟨w.heap.size+1,1,none⟩) (by show w.heap.size+1 < w.heap.size+3;omega) _) (p:=⟨w.heap.size+1,2,none⟩) (by show w.heap.size+1 < w.heap.size+3;omega) _) (p:=⟨w.heap.size+1,3,none⟩) (by show w.heap.size+1 < w.heap.size+3;omega) _) (p:=⟨w.heap.size+1,4,none⟩) (by show w.heap.size+1 < w.heap.size+3;omega) _) (p:=⟨w.heap.size+1,5,none⟩) (by show w.heap.size+1 < w.heap.size+3;omega) _) W fun b' h1 h2 h3=>hA b' (by omega) h2 h3),((LP.set (LP.set (LP.set (LP.set (LP.set (LP.set (L40.out.set (p:=⟨w.heap.size,5,none⟩) (by show w.heap.size < w.heap.size+3;omega) (.int .i64 (r.vs.length:Int))) (p:=⟨w.heap.size+1,0,none⟩) (by show w.heap.size+1 < w.heap.size+3;omega) _) (p:=⟨w.heap.size+1,1,none⟩) (by show w.heap.size+1 < w.heap.size+3;omega) _) (p:=⟨w.heap.size+1,2,none⟩) (by show w.heap.size+1 < w.heap.size+3;omega) _) (p:=⟨w.heap.size+1,3,none⟩) (by show w.heap.size+1 < w.heap.size+3;omega) _) (p:=⟨w.heap.size+1,4,none⟩) (by show w.heap.size+1 < w.heap.size+3;omega) _) (p:=⟨w.heap.size+1,5,none⟩) (by show w.heap.size+1 < w.heap.size+3;omega) _) W fun b' h1 h2 h3=>hA b' (by omega) h2 h3),HV.out.2⟩,(((((HB5.out.setCell (p:=⟨w.heap.size+1,0,none⟩) (Nat.le_succ _) _).setCell (p:=⟨w.heap.size+1,1,none⟩) (Nat.le_succ _) _).setCell (p:=⟨w.heap.size+1,2,none⟩) (Nat.le_succ _) _).setCell (p:=⟨w.heap.size+1,3,none⟩) (Nat.le_succ _) _).setCell (p:=⟨w.heap.size+1,4,none⟩) (Nat.le_succ _) _).setCell (p:=⟨w.heap.size+1,5,none⟩) (Nat.le_succ _) _⟩
end Go.Proofs.YtnghanpmmbcbbaaGreatDoor
namespace Go.Proofs.YtnghanpmmbcbbaaGreatDoor
open Go.ChangeShapes Go.WideShapes Go.RowKit
set_option maxRecDepth 100000 in
theorem open_gls {H:Type} {enc:TypeId×Value→H} {W:World} {base:Nat} {spare:Nat→Bool} {held:Bool} {r:Reach} {b0:Nat} {v:Value} {d:DataW H} {p:List MemPlace} (hv:Value.okWide Tryz.prog W r b0 23 v) (h:DataW.Trod enc Tryz.prog W base spare held 23 v d p) :
  ∃(A:Option Addr) (l:List Gl) (c:Nat),v=.slice A l.length c∧GlLst W A l c:=by
 obtain ⟨a,len,cap,rfl⟩:=okWide_slice Tryz.underlying23 hv
 obtain ⟨fuel,hf⟩:=h
 exact gls_of hf
end Go.Proofs.YtnghanpmmbcbbaaGreatDoor
