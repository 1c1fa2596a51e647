/-
  TkScan.
  TrSymbol.
  TrSkip.
 TrNext.
 TrNext2.
-/
import Derived.Test.YtaojnljppcnhjaaGreatDoorMh2
import Derived.Test.YtaojnljppcnhjaaGreatDoorMh13
import Derived.Deep.AppendSrc
import Derived.WalkSpells
import Derived.Deep.QuietTactic
import Derived.BigQuiet
import Derived.BigRegion
import Derived.Test.YtaojnljppcnhjaaGreatDoorMh12
namespace Go.Proofs.YtaojnljppcnhjaaGreatDoor
open Go.RowKit
def ScanR (s:ByteArray) (w:World) (e:Ending) (w':World):Prop :=
 ∃A c,e=.returned (.tuple #[.slice A (scanP s).1.length c,.int .i64 ((scanP s).2.1:Int),.int .i64 (scanP s).2.2])∧TLst w' A (scanP s).1 c∧Below w.heap.size w w'
theorem RowK.alloc2 {lo:Nat} {w:World} {z:Value} {acc:List Tk} (h:RowK lo w z acc) (o o':Obj):((w.alloc o).alloc o').ownsRow lo 67 3 z acc.length (kcells acc):=World.ownsRow.alloc (World.ownsRow.alloc h _) _
theorem knews2 (w:World) (o:Obj) (u:Tk) (T:TypeId):∀j v,(tokC u)[j]?=some v→((w.alloc o).alloc (.cells #[.int .i64 u.1,.int .i64 (u.2.1:Int),.string (S u.2.2)] T)).cell? ((⟨w.heap.size+1,0,none⟩:Addr).add j)=some v:=by
 have:=knews1 (w.alloc o) u T
 rwa [World.size_alloc] at this
theorem far_cell {w w5:World} {v0 v1 v2:Value} {T:TypeId} {o:Obj} {row:Option Nat} (hg:((w.alloc (.cells #[v0,v1,v2] T)).alloc o).grownBy w5 row) (hr:∀k,row=some k→k < w.heap.size):w5.cell? ⟨w.heap.size,0,none⟩=some v0:=by
 rw [hg.cell_far _ (by simp;omega) (fun e=>Nat.lt_irrefl _ (hr _ e.symm)),(below1 (w.alloc (.cells #[v0,v1,v2] T)) o).cell (p:=⟨w.heap.size,0,none⟩) (by simp),World.cell?_alloc_at _ _ _ _ rfl]
 rfl
theorem ScanR.err {s:ByteArray} {w w':World} {q:Nat} {er:Int} (h:scanP s=([],q,er)) (hb:Below w.heap.size w w'):ScanR s w (.returned (.tuple #[.slice none 0 0,.int .i64 (q:Int),.int .i64 er])) w' :=
 ⟨none,0,by rw [h];rfl,by rw [h];exact TLst.nil _,hb⟩
theorem ScanR.ok {s:ByteArray} {w w':World} {lo n cap:Nat} {A:Option Addr} {l:List Tk} (h:scanP s=(l,0,0)) (hr:RowK lo w' (.slice A n cap) l) (hn:n=l.length) (hb:Below w.heap.size w w'):ScanR s w (.returned (.tuple #[.slice A n cap,.int .i64 0,.int .i64 0])) w' :=
 ⟨A,cap,by rw [h,hn];rfl,by rw [h];exact hr.lies,hb⟩
structure Scanning (s:ByteArray) (w:World) (z:Value) (p:Nat) (n:Nat) (acc:List Tk) (wr:World):Prop where
 row:RowK w.heap.size wr z acc
 all:fin acc (toksAt s n p)=scanP s
 le:p≤s.size
 time:s.size < p+n
 len:acc.length+n≤s.size+1
 below:Below w.heap.size w wr
set_option maxHeartbeats 2000000 in
theorem scan_big (s:ByteArray) (w:World) (hs:s.size≤100000) (hbig:16384 < s.size) :
  Calls Tryz.prog 43 #[.string s] w (ScanR s w):=by
 have QN:=Lib.hid (fun W=>next_at s 0 W hs)
 rw [show nextP s 0=((0,0,[]),0,6) by unfold nextP;rw [if_neg (by omega),if_pos hbig]] at QN
 have HV:=Lib.hid (show scanP s=([],0,6) by unfold scanP;rw [if_pos hbig])
 go_enter Tryz.func43,Tryz.ntmps43
 go_wp2_with fail
 go_loopw [6] (fun i wr=>i=.int .i64 0∧Hid (Below w.heap.size w wr)) (fun i _=>0)
 case atStart=>exact ⟨rfl,Lib.hid (Below.refl _ _)⟩
 case round =>
  obtain ⟨rfl,HB⟩:=hrel
  go_wp2_with fail
  refine (QN.out _).mono ?_
  rintro e w2 ⟨rfl,hb2⟩
  have HB2:=Lib.hid (show Below w.heap.size w (w2.alloc (.cells #[.int .i64 0,.int .i64 0,.string (S [])] 67)) from (HB.out.trans (hb2.mono HB.out.size)).alloc (Nat.le_trans HB.out.size hb2.size) _)
  clear hb2
  go_wp2_with fail
  exact bodyPost_ret (v:=.tuple #[.slice none 0 0,.int .i64 0,.int .i64 6]) (by simp [results,Tryz.results43,go_sem]) rfl (ScanR.err HV.out HB2.out)
set_option maxHeartbeats 4000000 in
theorem scan_inside (s:ByteArray) (w:World) (hs:s.size≤16384) :
  Calls Tryz.prog 43 #[.string s] w (ScanR s w):=by
 have QN:=Lib.hid (fun (p:Nat) W (hp:p≤s.size)=>next_in s p W hs hp)
 obtain ⟨i0,hi,hz0,hz1,hz2⟩:=info_parts token_info
 have HS:=Lib.hid (show fin [] (toksAt s (s.size+1) 0)=scanP s by rw [fin_nil];unfold scanP;rw [if_neg (by omega)])
 go_enter Tryz.func43,Tryz.ntmps43
 go_wp2_with fail
 go_loopw [5,6] (fun z i wr=>∃(p n:Nat) (acc:List Tk) (x:Value),p≤s.size∧i=.int .i64 (p:Int)∧z=x∧Hid (Scanning s w x p n acc wr)) (fun _ i _=>s.size+1 - (intOf i).toNat)
 case atStart=>exact ⟨0,s.size+1,[],_,Nat.zero_le _,rfl,rfl,Lib.hid ⟨RowK.nil _ _,HS.out,Nat.zero_le _,by omega,by simp,Below.refl _ _⟩⟩
 case round =>
  obtain ⟨p,n,acc,z,hp,rfl,hz,HK⟩:=hrel
  have hz':=hz.symm
  subst hz'
  clear hz
  have Q:=Lib.hid (fun W=>QN.out p W hp)
  generalize hx:tokAt s p=x at Q
  obtain ⟨⟨k,at_,t⟩,m,er⟩:=x
  have HX:=Lib.hid hx
  clear hx
  obtain ⟨K1,K2,K3,K4,K5,K6⟩:=HK.out
  obtain ⟨n,rfl⟩:∃n',n=n'+1:=⟨n - 1,by omega⟩
  have hacl:acc.length≤16385:=by omega
  by_cases her:er=0
  ·subst her
   obtain ⟨t1,t2,t3,t4,t5,t6,_⟩:=tokAt_facts hp (by rw [HX.out])
   rw [HX.out] at t1 t2 t4 t5 t6
   have HT:Hid (k≠0→p < m):=Lib.hid (fun h=>by have:=t5 h;simp only at t1 t2 this;omega)
   have hm:m≤s.size:=t4
   go_wp2_with fail
   refine (Q.out _).mono ?_
   rintro e w2 ⟨rfl,hb2⟩
   have hbw2:=K6.trans (hb2.mono K6.size)
   have HK2:=Lib.hid (K1.below hb2)
   have HOwn:=Lib.hid (own_lt HK2.out)
   have hlo:=hbw2.size
   have HE:Hid (k=0→scanP s=(acc++[(k,at_,t)],0,0)):=Lib.hid (fun h=>by
    rw [←K2,fin_end acc (by rw [HX.out]) (by rw [HX.out];exact h),HX.out])
   have HN:Hid (k≠0→fin (acc++[(k,at_,t)]) (toksAt s n m)=scanP s):=Lib.hid (fun h=>by
    rw [←K2,fin_next acc (by rw [HX.out]) (by rw [HX.out];exact h),HX.out])
   clear t1 t2 t4 t5 t6 hb2 K1 K2 K6 HX Q HK
   by_cases hk:k=0
   ·subst hk
    go_wp2_with (at_builtin;refine wpList_append_lies _ rfl _ _ 46 rfl w.heap.size 67 i0 _ 3 32 Tryz.underlying46 hi hz0 hz1 hz2 rfl (by decide) _ acc.length (kcells acc) rfl (HK2.out.alloc2 _ _) ⟨w2.heap.size+1,0,none⟩ 1 1 (tokC (0,at_,t)) rfl rfl (knews2 w2 _ (0,at_,t) _) (kcells_one _) (by decide) (by unfold maxLen;omega) (by omega) (by simp;omega) _ rfl ?_;intro g cap w5 hown hg hat hglt;have d0:=far_cell hg (fun k hk=>(HOwn.out k hk).2);have HR5:=Lib.hid (RowK.next (u:=(0,at_,t)) hown);have HB5:=Lib.hid (show Below w.heap.size w w5 from ((hbw2.alloc hbw2.size _).alloc (by simp;omega) _).grown hg (by simp;omega) (fun k hk=>(HOwn.out k hk).1));clear hown hg hat hglt)
    exact bodyPost_ret (v:=.tuple #[.slice (some ⟨g,0,none⟩) (acc.length+1) cap,.int .i64 0,.int .i64 0]) (by simp [results,Tryz.results43,go_sem]) rfl (ScanR.ok (HE.out trivial) HR5.out (by simp) HB5.out)
   ·have hk':(k==0)=false:=by simpa using hk
    have HT2:=Lib.hid (HT.out hk)
    have HN2:=Lib.hid (HN.out hk)
    clear hk HT HN HE
    go_wp2_with (at_builtin;refine wpList_append_lies _ rfl _ _ 46 rfl w.heap.size 67 i0 _ 3 32 Tryz.underlying46 hi hz0 hz1 hz2 rfl (by decide) _ acc.length (kcells acc) rfl (HK2.out.alloc2 _ _) ⟨w2.heap.size+1,0,none⟩ 1 1 (tokC (k,at_,t)) rfl rfl (knews2 w2 _ (k,at_,t) _) (kcells_one _) (by decide) (by unfold maxLen;omega) (by omega) (by simp;omega) _ rfl ?_;intro g cap w5 hown hg hat hglt;have d0:=far_cell hg (fun k hk=>(HOwn.out k hk).2);have HR5:=Lib.hid (RowK.next (u:=(k,at_,t)) hown);have HB5:=Lib.hid (show Below w.heap.size w w5 from ((hbw2.alloc hbw2.size _).alloc (by simp;omega) _).grown hg (by simp;omega) (fun k hk=>(HOwn.out k hk).1));clear hown hg hat hglt)
    have hpm:=HT2.out
    go_roundw
    case rel=>exact ⟨m,n,acc++[(k,at_,t)],_,hm,rfl,rfl,Lib.hid ⟨HR5.out,HN2.out,hm,by omega,by rw [List.length_append];simp;omega,HB5.out⟩⟩
    case measure=>simp [intOf];omega
  ·have HV:=Lib.hid (show scanP s=([],m,er) by rw [←K2,fin_err acc (by rw [HX.out];exact her),HX.out])
   have her':(er != 0)=true:=by simpa using her
   go_wp2_with fail
   refine (Q.out _).mono ?_
   rintro e w2 ⟨rfl,hb2⟩
   have HB2:=Lib.hid (fun o=>(K6.trans (hb2.mono K6.size)).alloc (Nat.le_trans K6.size hb2.size) o)
   clear hb2 K1 K2 K6 HX HK Q her
   go_wp2_with fail
   exact bodyPost_ret (v:=.tuple #[.slice none 0 0,.int .i64 (m:Int),.int .i64 er]) (by simp [results,Tryz.results43,go_sem]) rfl (ScanR.err HV.out (HB2.out _))
theorem scan_at (s:ByteArray) (w:World) (hs:s.size≤100000):Calls Tryz.prog 43 #[.string s] w (ScanR s w):=by
 by_cases h:16384 < s.size
 ·exact scan_big s w hs h
 ·exact scan_inside s w (by omega)
end Go.Proofs.YtaojnljppcnhjaaGreatDoor
namespace Go.Proofs.YtaojnljppcnhjaaGreatDoor
open Go.RowKit
def SymsAt (w:World) (b:Nat):Prop:=b < w.heap.size∧∀i,i < 23→w.cell? ⟨b,i,none⟩=some (.string (S (syms.getD i [])))
theorem SymsAt.below {w w':World} {b:Nat} (h:SymsAt w b) (hb:Below w.heap.size w w'):SymsAt w' b:=⟨Nat.lt_of_lt_of_le h.1 hb.size,fun i hi=>keepk hb (h.2 i hi)⟩
theorem symbols_at (w:World):Calls Tryz.prog 96 #[] w fun e w'=>∃b,e=.returned (.slice (some ⟨b,0,none⟩) 23 23)∧SymsAt w' b∧Below w.heap.size w w':=by
 go_enter Tryz.func96,Tryz.ntmps96
 go_wp2
 go_ret
 refine ⟨w.heap.size,rfl,⟨by simp,fun i hi=>?_⟩,below1 _ _⟩
 rw [World.cell?_alloc_at _ _ _ _ rfl]
 match i,hi with
 | 0,_=>rfl
 | 1,_=>rfl
 | 2,_=>rfl
 | 3,_=>rfl
 | 4,_=>rfl
 | 5,_=>rfl
 | 6,_=>rfl
 | 7,_=>rfl
 | 8,_=>rfl
 | 9,_=>rfl
 | 10,_=>rfl
 | 11,_=>rfl
 | 12,_=>rfl
 | 13,_=>rfl
 | 14,_=>rfl
 | 15,_=>rfl
 | 16,_=>rfl
 | 17,_=>rfl
 | 18,_=>rfl
 | 19,_=>rfl
 | 20,_=>rfl
 | 21,_=>rfl
 | 22,_=>rfl
 | n+23,h=>omega
theorem step_no1 {l b x:List UInt8} (h:l.length < x.length):symStep l b x=b:=by
 rcases symStep_cases l b x with ⟨_,h1,_⟩|⟨h1,_⟩
 ·have:=h1.length_le;omega
 ·exact h1
theorem step_no2 {l b x:List UInt8} (h:l.take x.length≠x):symStep l b x=b:=by
 rcases symStep_cases l b x with ⟨_,h1,_⟩|⟨h1,_⟩
 ·exact absurd (List.prefix_iff_eq_take.1 h1).symm h
 ·exact h1
theorem step_no3 {l b x:List UInt8} (h:x.length≤b.length):symStep l b x=b:=by
 rcases symStep_cases l b x with ⟨_,_,h1⟩|⟨h1,_⟩
 ·omega
 ·exact h1
theorem step_yes {l b x:List UInt8} (h:l.take x.length=x) (h2:b.length < x.length):symStep l b x=x:=by
 rcases symStep_cases l b x with ⟨h1,_⟩|⟨_,h1⟩
 ·exact h1
 ·exact absurd ⟨by rw [←h];exact List.take_prefix _ _,h2⟩ h1
def symF (l:List UInt8) (i:Nat):List UInt8:=(syms.take i).foldl (symStep l) []
theorem symF_next (l:List UInt8) {i:Nat} (hi:i < 23):symF l (i+1)=symStep l (symF l i) (syms.getD i []):=by
 have hl:i < syms.length:=hi
 unfold symF
 rw [List.take_succ_eq_append_getElem hl,List.foldl_append,List.getD_eq_getElem?_getD,List.getElem?_eq_getElem hl]
 rfl
theorem symF_end (l:List UInt8):symF l 23=symP l:=rfl
theorem sym_short:∀i,i < 23→(syms.getD i []).length≤3:=by decide
set_option maxHeartbeats 4000000 in
set_option maxRecDepth 20000 in
theorem tr_symbol_loop (s:ByteArray) (q:Nat) (w:World) (hs:s.size≤100000) (hq:q≤s.size) :
  Calls Tryz.prog 73 #[.string s,.int .i64 (q:Int)] w fun e w'=>e=.returned (.string (S (symP (rest s q))))∧Below w.heap.size w w':=by
 have h1:¬s.size < q:=by omega
 have hl:=rest_len s q
 go_enter Tryz.func73,Tryz.ntmps73
 go_wp2_with (go_at_call 96;refine (symbols_at _).mono ?_;rintro e w1 ⟨b,rfl,hsy,hb1⟩)
 have HSY:=Lib.hid hsy
 have HB1:=Lib.hid hb1
 clear hsy hb1
 go_loopw [5,7] (fun z i wr=>∃(k:Nat) (x:List UInt8),k≤23∧i=.int .i64 (k:Int)∧z=.string (S x)∧Hid (symF (rest s q) k=x)∧Hid (SymsAt wr b)∧Hid (Below w.heap.size w wr)) (fun _ i _=>23 - (intOf i).toNat)
 case atStart=>exact ⟨0,[],by decide,rfl,rfl,Lib.hid rfl,HSY,HB1⟩
 case round =>
  obtain ⟨k,x,hk,rfl,rfl,HX,HS,HB⟩:=hrel
  have hxl:(S x).size=x.length:=by simp [ByteArray.size]
  by_cases hlt:k < 23
  ·have hlt':(k:Int) < 23:=by omega
   have hcell:=HS.out.2 k hlt
   have hb0:=HS.out.1
   have HN:=Lib.hid (symF_next (rest s q) hlt)
   have h3:=sym_short k hlt
   generalize syms.getD k []=y at hcell HN h3
   have hyl:(S y).size=y.length:=by simp [ByteArray.size]
   rw [HX.out] at HN
   have hw:IntKind.i64.wrap ((s.size:Int) - (q:Int))=(s.size:Int) - (q:Int):=IntWalk.i64_in _ (by omega)
   by_cases c1:y.length≤s.size - q
   ·have c1':(y.length:Int)≤(s.size:Int) - (q:Int):=by omega
    have HW2:Hid (IntKind.i64.wrap ((q:Int)+(y.length:Int))=(q:Int)+(y.length:Int)):=Lib.hid (IntWalk.i64_in _ (by omega))
    have hqy:(q:Int)≤(q:Int)+(y.length:Int):=by omega
    have hsz:(q:Int)+(y.length:Int)≤(s.size:Int):=by omega
    have eN:((q:Int)+(y.length:Int)).toNat=q+y.length:=by omega
    have hX:(s.extract q (q+y.length)).data.toList=(rest s q).take y.length:=by rw [extract_list,Nat.add_sub_cancel_left]
    by_cases c2:(rest s q).take y.length=y
    ·have c2':((s.extract q (q+y.length)).toList==y)=true:=by rw [raw_list,hX,c2];simp
     by_cases c3:x.length < y.length
     ·have HE:=Lib.hid (HN.out.trans (step_yes c2 c3))
      clear c2 hX
      go_wp2_with fail
      have hw2:=HW2.out
      go_quiet (fail)
      go_wp2_with fail
      go_roundw
      case rel=>exact ⟨k+1,_,by omega,by go_num,rfl,HE,Lib.hid (HS.out.below (below_drewN (Below.refl _ _) _)),Lib.hid (below_drewN HB.out _)⟩
      case measure=>simp [intOf];omega
     ·have HE:=Lib.hid (HN.out.trans (step_no3 (by omega)))
      clear c2 hX
      go_wp2_with fail
      have hw2:=HW2.out
      go_quiet (fail)
      go_wp2_with fail
      go_roundw
      case rel=>exact ⟨k+1,_,by omega,by go_num,rfl,HE,Lib.hid (HS.out.below (below_drewN (Below.refl _ _) _)),Lib.hid (below_drewN HB.out _)⟩
      case measure=>simp [intOf];omega
    ·have c2':((s.extract q (q+y.length)).toList==y)=false:=by rw [raw_list,hX];simpa using c2
     have HE:=Lib.hid (HN.out.trans (step_no2 c2))
     clear c2 hX
     go_wp2_with fail
     have hw2:=HW2.out
     go_quiet (fail)
     go_wp2_with fail
     go_roundw
     case rel=>exact ⟨k+1,_,by omega,by go_num,rfl,HE,Lib.hid (HS.out.below (below_drewN (Below.refl _ _) _)),Lib.hid (below_drewN HB.out _)⟩
     case measure=>simp [intOf];omega
   ·have HE:=Lib.hid (HN.out.trans (step_no1 (by omega)))
    have c1':decide ((y.length:Int)≤(s.size:Int) - (q:Int))=false:=by simp;omega
    have c1n:¬((y.length:Int)≤(s.size:Int) - (q:Int)):=by omega
    clear c1
    go_wp2_with fail
    go_quiet (fail)
    go_wp2_with fail
    go_roundw
    case rel=>exact ⟨k+1,_,by omega,by go_num,rfl,HE,Lib.hid (HS.out.below (below_drewN (Below.refl _ _) _)),Lib.hid (below_drewN HB.out _)⟩
    case measure=>simp [intOf];omega
  ·obtain rfl:k=23:=by omega
   have HE:=Lib.hid (show x=symP (rest s q) by rw [←HX.out,symF_end])
   go_wp2_with fail
   go_ret
   exact ⟨by rw [HE.out];rfl,HB.out⟩
end Go.Proofs.YtaojnljppcnhjaaGreatDoor
namespace Go.Proofs.YtaojnljppcnhjaaGreatDoor
open Go.RowKit
set_option maxHeartbeats 2000000 in
theorem tr_skip_at (s:ByteArray) (p:Nat) (w:World) (hs:s.size≤100000) (hp:p≤s.size) {n:Nat} (hn:skipP s p=n) :
  Calls Tryz.prog 68 #[.string s,.int .i64 (p:Int)] w fun e w'=>e=.returned (.int .i64 (n:Int))∧w=w':=by
 have QS:=Lib.hid tr_spc_at
 go_enter Tryz.func68,Tryz.ntmps68
 go_wp2
 go_loop [1] (fun i=>∃q:Nat,q≤s.size∧i=.int .i64 (q:Int)∧Hid (skipP s q=n)) (fun i=>s.size - (intOf i).toNat)
 case atStart=>exact ⟨p,hp,rfl,hn⟩
 case round =>
  obtain ⟨q,hq,rfl,hk⟩:=hrel
  by_cases hlt:q < s.size
  ·have hlt':(q:Int) < (s.size:Int):=by omega
   obtain ⟨b1,hb1⟩:∃b,spcB s[q]=b:=⟨_,rfl⟩
   have Q1:=Lib.hid (fun W=>QS.out s[q] W hb1)
   have HB:=Lib.hid hb1
   clear hb1
   cases b1
   ·by_cases h35:s[q]=35
    ·have h35':((s[q].toNat:Int)==35)=true:=byte_eq (b:=35) h35
     have HG:=Lib.hid (gap_note_at hlt h35)
     have H35:=Lib.hid h35
     clear h35
     go_wp2_with (go_at_call 95;refine (Q1.out _).mono ?_;rintro e w' ⟨rfl,rfl⟩)
     go_loop [1] (fun i=>∃m:Nat,q≤m∧m≤s.size∧i=.int .i64 (m:Int)∧Hid (gap true (rest s m)=gap false (rest s q))) (fun i=>s.size - (intOf i).toNat)
     case atStart=>exact ⟨q,Nat.le_refl _,hq,rfl,Lib.hid HG.out.symm⟩
     case round =>
      obtain ⟨m,hqm,hm,rfl,hkm⟩:=hrel
      by_cases hml:m < s.size
      ·have hml':(m:Int) < (s.size:Int):=by omega
       by_cases h10:s[m]=10
       ·have h10':((s[m].toNat:Int)==10)=true:=byte_eq (b:=10) h10
        have h10n:((s[m].toNat:Int) != 10)=false:=by simp [bne,h10']
        have HM:=Lib.hid (show q < m from by
         rcases Nat.lt_or_ge q m with h|h
         ·exact h
         ·obtain rfl:m=q:=by omega
          rw [H35.out] at h10;exact absurd h10 (by decide))
        have HN:=Lib.hid (show skipP s m=n by rw [←hk.out];exact skipP_same ((gap_note_end hml h10).symm.trans hkm.out))
        clear h10
        go_wp2
        have:=HM.out
        go_round
        case rel=>exact ⟨m,hm,rfl,HN⟩
        case measure=>simp [intOf];omega
       ·have h10':((s[m].toNat:Int)==10)=false:=byte_ne (b:=10) h10
        have h10n:((s[m].toNat:Int) != 10)=true:=by simp [bne,h10']
        have HN:=Lib.hid (show gap true (rest s (m+1))=gap false (rest s q) by rw [←gap_note_next hml h10];exact hkm.out)
        have hq1:¬(9223372036854775807 < (m:Int)+1):=by omega
        clear h10
        go_wp2
        go_round
        case rel=>exact ⟨m+1,by omega,by omega,by go_num,HN⟩
        case measure=>simp [intOf];omega
      ·obtain rfl:m=s.size:=by omega
       have HN:=Lib.hid (show skipP s s.size=n by rw [←hk.out];exact skipP_same ((gap_note_out (Nat.le_refl _)).symm.trans hkm.out))
       go_wp2
       go_round
       case rel=>exact ⟨s.size,Nat.le_refl _,rfl,HN⟩
       case measure=>simp [intOf];omega
    ·have h35':((s[q].toNat:Int)==35)=false:=byte_ne (b:=35) h35
     have HS:=Lib.hid (skipP_stop hq (gap_cons_stop hlt HB.out h35))
     clear h35
     go_wp2_with (go_at_call 95;refine (Q1.out _).mono ?_;rintro e w' ⟨rfl,rfl⟩)
     go_ret
     exact ⟨by rw [←hk.out,HS.out];rfl,rfl⟩
   ·have hq1:¬(9223372036854775807 < (q:Int)+1):=by omega
    go_wp2_with (go_at_call 95;refine (Q1.out _).mono ?_;rintro e w' ⟨rfl,rfl⟩)
    go_round
    case rel=>exact ⟨q+1,by omega,by go_num,by rw [←hk.out];exact (skipP_same (gap_cons_spc hlt HB.out)).symm⟩
    case measure=>simp [intOf];omega
  ·obtain rfl:q=s.size:=by omega
   have HS:=Lib.hid (skipP_stop hq (gap_at_end (Nat.le_refl s.size)))
   go_wp2
   go_ret
   exact ⟨by rw [←hk.out,HS.out];rfl,rfl⟩
set_option maxHeartbeats 1000000 in
theorem rvalue_at (s:ByteArray) (w:World) (hs:s.size≤100000) (hd:∀k (h:k < s.size),digB s[k]=true) {r:Int} (hr:valD s.data.toList=r) :
  Calls Tryz.prog 72 #[.string s] w fun e w'=>e=.returned (.int .i64 r)∧w=w':=by
 have HD:=Lib.hid hd
 have HR:=Lib.hid hr
 clear hd hr
 go_enter Tryz.func72,Tryz.ntmps72
 go_wp2
 go_loop [3,4] (fun v i=>∃(k:Nat) (x:Int),k≤s.size∧i=.int .i64 (k:Int)∧v=.int .i64 x∧0≤x∧x≤2147483649∧Hid (valD (s.data.toList.take k)=x)) (fun _ i=>s.size - (intOf i).toNat)
 case atStart=>exact ⟨0,0,Nat.zero_le _,rfl,rfl,by decide,by decide,Lib.hid rfl⟩
 case round =>
  obtain ⟨k,x,hk,rfl,rfl,hx0,hx1,hv⟩:=hrel
  by_cases hlt:k < s.size
  ·have hlt':(k:Int) < (s.size:Int):=by omega
   obtain ⟨d1,d2⟩:=dig_range (HD.out k hlt)
   have hm:valD (s.data.toList.take (k+1))=min (x*10+(s[k].toNat - 48:Int)) 2147483649:=valD_step hlt hv.out
   by_cases hbig:2147483649 < x*10+((s[k].toNat:Int) - 48)
   ·have HV:=Lib.hid (show valD (s.data.toList.take (k+1))=2147483649 by rw [hm];omega)
    clear hm
    go_wp2
    go_round
    case rel=>exact ⟨k+1,_,by omega,by go_num,rfl,by decide,by decide,HV⟩
    case measure=>simp [intOf];omega
   ·have HV:=Lib.hid (show valD (s.data.toList.take (k+1))=x*10+((s[k].toNat:Int) - 48) by rw [hm];omega)
    clear hm
    go_wp2
    go_round
    case rel=>exact ⟨k+1,_,by omega,by go_num,rfl,by omega,by omega,HV⟩
    case measure=>simp [intOf];omega
  ·obtain rfl:k=s.size:=by omega
   have HV:=Lib.hid (show x=r by rw [←HR.out,← take_all s,hv.out])
   go_wp2
   go_ret
   exact ⟨by rw [HV.out];rfl,rfl⟩
end Go.Proofs.YtaojnljppcnhjaaGreatDoor
namespace Go.Proofs.YtaojnljppcnhjaaGreatDoor
open Go.RowKit
abbrev zbox:Obj:=.cells #[.int .i64 0,.int .i64 0,.string ⟨#[]⟩] 67
theorem word_in (c:UInt8):inB c=(wordyB c||digB c):=by
 unfold inB wordyB
 cases lowB c<;>cases uppB c<;>cases digB c<;>cases undB c<;>rfl
section
variable (s:ByteArray) (p q:Nat) (w:World) (hs:s.size≤16384) (hp:p≤s.size) (hq:q≤s.size)
 (QS:Hid (∀W,Calls Tryz.prog 68 #[.string s,.int .i64 (p:Int)] W fun e w'=>e=.returned (.int .i64 (q:Int))∧W=w'))
include hs hp QS
set_option maxHeartbeats 1000000 in
theorem rn_end (h:q=s.size) :
  Calls Tryz.prog 42 #[.string s,.int .i64 (p:Int)] w fun e w'=>e=.returned (nextV ((0,s.size,[]),s.size,0))∧Below w.heap.size w w':=by
 subst h
 have h0:decide ((p:Int) < 0)=false:=by simp
 have h1:¬s.size < p:=by omega
 have h2:decide ((16384:Int) < (s.size:Int))=false:=by simp;omega
 have HX:=Lib.hid (extract_none s s.size)
 go_enter Tryz.func42,Tryz.ntmps42
 go_wp2_with (go_at_call 68;refine (QS.out _).mono ?_;rintro e w' ⟨rfl,rfl⟩)
 exact bodyPost_ret (v:=.tuple #[.agg #[.int .i64 0,.int .i64 (s.size:Int),.string (s.extract s.size s.size)],.int .i64 (s.size:Int),.int .i64 0]) (by simp [results,Tryz.results42,go_sem]) rfl ⟨by rw [HX.out],below1 _ _⟩
set_option maxHeartbeats 4000000 in
theorem rn_word (h:q < s.size) (hwy:wordyB s[q]=true) :
  Calls Tryz.prog 42 #[.string s,.int .i64 (p:Int)] w fun e w'=>e=.returned (nextV (if 40 < runP inB s q then ((0,0,[]),q,7) else ((if lowB s[q]=true then 1 else 2,q,(rest s q).takeWhile inB),q+runP inB s q,0)))∧Below w.heap.size w w':=by
 have h0:decide ((p:Int) < 0)=false:=by simp
 have h1:¬s.size < p:=by omega
 have h2:decide ((16384:Int) < (s.size:Int))=false:=by simp;omega
 have hq':(q:Int) < (s.size:Int):=by omega
 have he:((q:Int)==(s.size:Int))=false:=by simp;omega
 have QL:=Lib.hid tr_low_at
 have QU:=Lib.hid tr_upp_at
 have QD:=Lib.hid tr_dig_at
 obtain ⟨b,hb⟩:∃b,lowB s[q]=b:=⟨_,rfl⟩
 have Q1:=Lib.hid (fun W=>tr_low_at s[q] W hb)
 have hup:b=false→(uppB s[q]||undB s[q])=true:=fun e=>by subst e;simpa [wordyB,hb] using hwy
 rw [hb]
 generalize hr:runP inB s q=n
 have HX:=Lib.hid (show s.extract q (q+n)=S ((rest s q).takeWhile inB) by rw [←hr];exact runP_text inB s q)
 have HL:=Lib.hid (show q+n≤s.size by rw [←hr];exact runP_le (by omega))
 have HR:=Lib.hid hr
 generalize hv:(if 40 < n then (((0,0,[]),q,7):Tk×Nat×Int) else ((if b=true then 1 else 2,q,(rest s q).takeWhile inB),q+n,0))=v
 have HV1:Hid (40 < n→v=((0,0,[]),q,7)):=Lib.hid (fun h=>by rw [←hv,if_pos h])
 have HV2:Hid (¬40 < n→v=((if b=true then 1 else 2,q,(rest s q).takeWhile inB),q+n,0)):=Lib.hid (fun h=>by rw [←hv,if_neg h])
 clear hb hwy hr hv
 cases b
 ·have Q2:=Lib.hid (fun W=>tr_upp_at s[q] W (hup rfl))
  clear hup
  go_enter Tryz.func42,Tryz.ntmps42
  go_wp2_with (first|(go_at_call 68;refine (QS.out _).mono ?_;rintro e w' ⟨rfl,rfl⟩)|(go_at_call 69;refine (Q1.out _).mono ?_;rintro e w' ⟨rfl,rfl⟩)|(go_at_call 70;refine (Q2.out _).mono ?_;rintro e w' ⟨rfl,rfl⟩))
  clear Q1
  go_loop [7] (fun i=>∃m:Nat,q≤m∧m≤s.size∧i=.int .i64 (m:Int)∧Hid (m+runP inB s m=q+n)) (fun i=>s.size - (intOf i).toNat)
  case atStart=>exact ⟨q,Nat.le_refl _,by omega,rfl,Lib.hid (by rw [HR.out])⟩
  case round =>
   obtain ⟨m,hqm,hm,rfl,hk⟩:=hrel
   by_cases hlt:m < s.size
   ·have hlt':(m:Int) < (s.size:Int):=by omega
    obtain ⟨b1,hb1⟩:∃b,lowB s[m]=b:=⟨_,rfl⟩
    obtain ⟨b2,hb2⟩:∃b,(uppB s[m]||undB s[m])=b:=⟨_,rfl⟩
    obtain ⟨b3,hb3⟩:∃b,digB s[m]=b:=⟨_,rfl⟩
    have HI:=Lib.hid (show inB s[m]=(b1||b2||b3) by rw [word_in,wordyB,hb1,hb2,hb3])
    have P1:=Lib.hid (fun W=>QL.out s[m] W hb1)
    have P2:=Lib.hid (fun W=>QU.out s[m] W hb2)
    have P3:=Lib.hid (fun W=>QD.out s[m] W hb3)
    clear hb1 hb2 hb3
    by_cases hall:(b1||b2||b3)=true
    ·have HE:=Lib.hid (show (m+1)+runP inB s (m+1)=q+n by have:=hk.out;rw [runP_next hlt (by rw [HI.out];exact hall)] at this;omega)
     have hq1:¬(9223372036854775807 < (m:Int)+1):=by omega
     clear HI
     cases b1
     ·cases b2
      ·cases b3
       ·cases hall
       ·clear hall
        go_wp2_with (first|(go_at_call 69;refine (P1.out _).mono ?_;rintro e w' ⟨rfl,rfl⟩)|(go_at_call 70;refine (P2.out _).mono ?_;rintro e w' ⟨rfl,rfl⟩)|(go_at_call 71;refine (P3.out _).mono ?_;rintro e w' ⟨rfl,rfl⟩))
        go_round
        case rel=>exact ⟨m+1,by omega,by omega,by go_num,HE.out⟩
        case measure=>simp [intOf];omega
      ·clear hall
       go_wp2_with (first|(go_at_call 69;refine (P1.out _).mono ?_;rintro e w' ⟨rfl,rfl⟩)|(go_at_call 70;refine (P2.out _).mono ?_;rintro e w' ⟨rfl,rfl⟩)|(go_at_call 71;refine (P3.out _).mono ?_;rintro e w' ⟨rfl,rfl⟩))
       go_round
       case rel=>exact ⟨m+1,by omega,by omega,by go_num,HE.out⟩
       case measure=>simp [intOf];omega
     ·clear hall
      go_wp2_with (first|(go_at_call 69;refine (P1.out _).mono ?_;rintro e w' ⟨rfl,rfl⟩)|(go_at_call 70;refine (P2.out _).mono ?_;rintro e w' ⟨rfl,rfl⟩)|(go_at_call 71;refine (P3.out _).mono ?_;rintro e w' ⟨rfl,rfl⟩))
      go_round
      case rel=>exact ⟨m+1,by omega,by omega,by go_num,HE.out⟩
      case measure=>simp [intOf];omega
    ·obtain ⟨rfl,rfl,rfl⟩:b1=false∧b2=false∧b3=false:=by revert hall;cases b1<;>cases b2<;>cases b3<;>simp
     have HE:=Lib.hid (show m=q+n by have:=hk.out;rw [runP_stop (fun _=>HI.out)] at this;exact this)
     clear hall HI
     have hsub:(m:Int) - (q:Int)=(n:Int):=by have:=HE.out;omega
     have hqm':(q:Int)≤(m:Int):=by omega
     by_cases h40:40 < n
     ·have h40':(40:Int) < (n:Int):=by omega
      have HV:=Lib.hid (HV1.out h40)
      clear h40
      go_wp2_with (first|(go_at_call 69;refine (P1.out _).mono ?_;rintro e w' ⟨rfl,rfl⟩)|(go_at_call 70;refine (P2.out _).mono ?_;rintro e w' ⟨rfl,rfl⟩)|(go_at_call 71;refine (P3.out _).mono ?_;rintro e w' ⟨rfl,rfl⟩))
      exact bodyPost_ret (v:=.tuple #[.agg #[.int .i64 0,.int .i64 0,.string ⟨#[]⟩],.int .i64 (q:Int),.int .i64 7]) (by simp [results,Tryz.results42,go_sem]) rfl ⟨by rw [HV.out];rfl,below1 _ _⟩
     ·have h40':decide ((40:Int) < (n:Int))=false:=by simp;omega
      have HV:=Lib.hid (HV2.out h40)
      have hms:(m:Int)≤(s.size:Int):=by omega
      clear h40
      go_wp2_with (first|(go_at_call 69;refine (P1.out _).mono ?_;rintro e w' ⟨rfl,rfl⟩)|(go_at_call 70;refine (P2.out _).mono ?_;rintro e w' ⟨rfl,rfl⟩)|(go_at_call 71;refine (P3.out _).mono ?_;rintro e w' ⟨rfl,rfl⟩))
      exact bodyPost_ret (v:=.tuple #[.agg #[.int .i64 2,.int .i64 (q:Int),.string (s.extract q m)],.int .i64 (m:Int),.int .i64 0]) (by simp [results,Tryz.results42,go_sem]) rfl ⟨by rw [HV.out,HE.out,HX.out];rfl,below1 _ _⟩
   ·have HE:=Lib.hid (show m=q+n by have:=hk.out;rw [runP_stop (fun h=>absurd h hlt)] at this;exact this)
    have hsub:(m:Int) - (q:Int)=(n:Int):=by have:=HE.out;omega
    have hqm':(q:Int)≤(m:Int):=by omega
    have hmd:decide ((m:Int) < (s.size:Int))=false:=by simp;omega
    by_cases h40:40 < n
    ·have h40':(40:Int) < (n:Int):=by omega
     have HV:=Lib.hid (HV1.out h40)
     clear h40
     go_wp2_with fail
     exact bodyPost_ret (v:=.tuple #[.agg #[.int .i64 0,.int .i64 0,.string ⟨#[]⟩],.int .i64 (q:Int),.int .i64 7]) (by simp [results,Tryz.results42,go_sem]) rfl ⟨by rw [HV.out];rfl,below1 _ _⟩
    ·have h40':decide ((40:Int) < (n:Int))=false:=by simp;omega
     have HV:=Lib.hid (HV2.out h40)
     have hms:(m:Int)≤(s.size:Int):=by omega
     clear h40
     go_wp2_with fail
     exact bodyPost_ret (v:=.tuple #[.agg #[.int .i64 2,.int .i64 (q:Int),.string (s.extract q m)],.int .i64 (m:Int),.int .i64 0]) (by simp [results,Tryz.results42,go_sem]) rfl ⟨by rw [HV.out,HE.out,HX.out];rfl,below1 _ _⟩
 ·clear hup
  go_enter Tryz.func42,Tryz.ntmps42
  go_wp2_with (first|(go_at_call 68;refine (QS.out _).mono ?_;rintro e w' ⟨rfl,rfl⟩)|(go_at_call 69;refine (Q1.out _).mono ?_;rintro e w' ⟨rfl,rfl⟩)|(go_at_call 70;refine (QU.out _).mono ?_;rintro e w' ⟨rfl,rfl⟩))
  clear Q1
  go_loop [7] (fun i=>∃m:Nat,q≤m∧m≤s.size∧i=.int .i64 (m:Int)∧Hid (m+runP inB s m=q+n)) (fun i=>s.size - (intOf i).toNat)
  case atStart=>exact ⟨q,Nat.le_refl _,by omega,rfl,Lib.hid (by rw [HR.out])⟩
  case round =>
   obtain ⟨m,hqm,hm,rfl,hk⟩:=hrel
   by_cases hlt:m < s.size
   ·have hlt':(m:Int) < (s.size:Int):=by omega
    obtain ⟨b1,hb1⟩:∃b,lowB s[m]=b:=⟨_,rfl⟩
    obtain ⟨b2,hb2⟩:∃b,(uppB s[m]||undB s[m])=b:=⟨_,rfl⟩
    obtain ⟨b3,hb3⟩:∃b,digB s[m]=b:=⟨_,rfl⟩
    have HI:=Lib.hid (show inB s[m]=(b1||b2||b3) by rw [word_in,wordyB,hb1,hb2,hb3])
    have P1:=Lib.hid (fun W=>QL.out s[m] W hb1)
    have P2:=Lib.hid (fun W=>QU.out s[m] W hb2)
    have P3:=Lib.hid (fun W=>QD.out s[m] W hb3)
    clear hb1 hb2 hb3
    by_cases hall:(b1||b2||b3)=true
    ·have HE:=Lib.hid (show (m+1)+runP inB s (m+1)=q+n by have:=hk.out;rw [runP_next hlt (by rw [HI.out];exact hall)] at this;omega)
     have hq1:¬(9223372036854775807 < (m:Int)+1):=by omega
     clear HI
     cases b1
     ·cases b2
      ·cases b3
       ·cases hall
       ·clear hall
        go_wp2_with (first|(go_at_call 69;refine (P1.out _).mono ?_;rintro e w' ⟨rfl,rfl⟩)|(go_at_call 70;refine (P2.out _).mono ?_;rintro e w' ⟨rfl,rfl⟩)|(go_at_call 71;refine (P3.out _).mono ?_;rintro e w' ⟨rfl,rfl⟩))
        go_round
        case rel=>exact ⟨m+1,by omega,by omega,by go_num,HE.out⟩
        case measure=>simp [intOf];omega
      ·clear hall
       go_wp2_with (first|(go_at_call 69;refine (P1.out _).mono ?_;rintro e w' ⟨rfl,rfl⟩)|(go_at_call 70;refine (P2.out _).mono ?_;rintro e w' ⟨rfl,rfl⟩)|(go_at_call 71;refine (P3.out _).mono ?_;rintro e w' ⟨rfl,rfl⟩))
       go_round
       case rel=>exact ⟨m+1,by omega,by omega,by go_num,HE.out⟩
       case measure=>simp [intOf];omega
     ·clear hall
      go_wp2_with (first|(go_at_call 69;refine (P1.out _).mono ?_;rintro e w' ⟨rfl,rfl⟩)|(go_at_call 70;refine (P2.out _).mono ?_;rintro e w' ⟨rfl,rfl⟩)|(go_at_call 71;refine (P3.out _).mono ?_;rintro e w' ⟨rfl,rfl⟩))
      go_round
      case rel=>exact ⟨m+1,by omega,by omega,by go_num,HE.out⟩
      case measure=>simp [intOf];omega
    ·obtain ⟨rfl,rfl,rfl⟩:b1=false∧b2=false∧b3=false:=by revert hall;cases b1<;>cases b2<;>cases b3<;>simp
     have HE:=Lib.hid (show m=q+n by have:=hk.out;rw [runP_stop (fun _=>HI.out)] at this;exact this)
     clear hall HI
     have hsub:(m:Int) - (q:Int)=(n:Int):=by have:=HE.out;omega
     have hqm':(q:Int)≤(m:Int):=by omega
     by_cases h40:40 < n
     ·have h40':(40:Int) < (n:Int):=by omega
      have HV:=Lib.hid (HV1.out h40)
      clear h40
      go_wp2_with (first|(go_at_call 69;refine (P1.out _).mono ?_;rintro e w' ⟨rfl,rfl⟩)|(go_at_call 70;refine (P2.out _).mono ?_;rintro e w' ⟨rfl,rfl⟩)|(go_at_call 71;refine (P3.out _).mono ?_;rintro e w' ⟨rfl,rfl⟩))
      exact bodyPost_ret (v:=.tuple #[.agg #[.int .i64 0,.int .i64 0,.string ⟨#[]⟩],.int .i64 (q:Int),.int .i64 7]) (by simp [results,Tryz.results42,go_sem]) rfl ⟨by rw [HV.out];rfl,below1 _ _⟩
     ·have h40':decide ((40:Int) < (n:Int))=false:=by simp;omega
      have HV:=Lib.hid (HV2.out h40)
      have hms:(m:Int)≤(s.size:Int):=by omega
      clear h40
      go_wp2_with (first|(go_at_call 69;refine (P1.out _).mono ?_;rintro e w' ⟨rfl,rfl⟩)|(go_at_call 70;refine (P2.out _).mono ?_;rintro e w' ⟨rfl,rfl⟩)|(go_at_call 71;refine (P3.out _).mono ?_;rintro e w' ⟨rfl,rfl⟩))
      exact bodyPost_ret (v:=.tuple #[.agg #[.int .i64 1,.int .i64 (q:Int),.string (s.extract q m)],.int .i64 (m:Int),.int .i64 0]) (by simp [results,Tryz.results42,go_sem]) rfl ⟨by rw [HV.out,HE.out,HX.out];rfl,below1 _ _⟩
   ·have HE:=Lib.hid (show m=q+n by have:=hk.out;rw [runP_stop (fun h=>absurd h hlt)] at this;exact this)
    have hsub:(m:Int) - (q:Int)=(n:Int):=by have:=HE.out;omega
    have hqm':(q:Int)≤(m:Int):=by omega
    have hmd:decide ((m:Int) < (s.size:Int))=false:=by simp;omega
    by_cases h40:40 < n
    ·have h40':(40:Int) < (n:Int):=by omega
     have HV:=Lib.hid (HV1.out h40)
     clear h40
     go_wp2_with fail
     exact bodyPost_ret (v:=.tuple #[.agg #[.int .i64 0,.int .i64 0,.string ⟨#[]⟩],.int .i64 (q:Int),.int .i64 7]) (by simp [results,Tryz.results42,go_sem]) rfl ⟨by rw [HV.out];rfl,below1 _ _⟩
    ·have h40':decide ((40:Int) < (n:Int))=false:=by simp;omega
     have HV:=Lib.hid (HV2.out h40)
     have hms:(m:Int)≤(s.size:Int):=by omega
     clear h40
     go_wp2_with fail
     exact bodyPost_ret (v:=.tuple #[.agg #[.int .i64 1,.int .i64 (q:Int),.string (s.extract q m)],.int .i64 (m:Int),.int .i64 0]) (by simp [results,Tryz.results42,go_sem]) rfl ⟨by rw [HV.out,HE.out,HX.out];rfl,below1 _ _⟩
end
end Go.Proofs.YtaojnljppcnhjaaGreatDoor
namespace Go.Proofs.YtaojnljppcnhjaaGreatDoor
open Go.RowKit
section
variable (s:ByteArray) (p q:Nat) (w:World) (hs:s.size≤16384) (hp:p≤s.size) (hq:q≤s.size)
 (QS:Hid (∀W,Calls Tryz.prog 68 #[.string s,.int .i64 (p:Int)] W fun e w'=>e=.returned (.int .i64 (q:Int))∧W=w'))
include hs hp QS
set_option maxHeartbeats 4000000 in
theorem rn_int (h:q < s.size) (hwy:wordyB s[q]=false) (hdi:digB s[q]=true) :
  Calls Tryz.prog 42 #[.string s,.int .i64 (p:Int)] w fun e w'=>e=.returned (nextV (if 2147483648 < valD ((rest s q).takeWhile digB) then ((0,0,[]),q,5) else ((3,q,(rest s q).takeWhile digB),q+runP digB s q,0)))∧Below w.heap.size w w':=by
 have h0:decide ((p:Int) < 0)=false:=by simp
 have h1:¬s.size < p:=by omega
 have h2:decide ((16384:Int) < (s.size:Int))=false:=by simp;omega
 have hq':(q:Int) < (s.size:Int):=by omega
 have he:((q:Int)==(s.size:Int))=false:=by simp;omega
 have QD:=Lib.hid tr_dig_at
 have hwy2:=hwy
 simp only [wordyB,Bool.or_eq_false_iff] at hwy2
 have Q1:=Lib.hid (fun W=>tr_low_at s[q] W hwy2.1)
 have Q2:=Lib.hid (fun W=>tr_upp_at s[q] W (show (uppB s[q]||undB s[q])=false by rw [hwy2.2.1,hwy2.2.2];rfl))
 have Q3:=Lib.hid (fun W=>tr_dig_at s[q] W hdi)
 generalize hr:runP digB s q=n
 have hx:s.extract q (q+n)=S ((rest s q).takeWhile digB):=by rw [←hr];exact runP_text digB s q
 have HX:=Lib.hid hx
 have HL:=Lib.hid (show q+n≤s.size by rw [←hr];exact runP_le (by omega))
 have HR:=Lib.hid hr
 generalize hy:(rest s q).takeWhile digB=y at hx HX
 have ha:∀c∈(s.extract q (q+n)).data.toList,digB c=true:=by
  rw [hx,← hy];exact while_all _ _
 have hd:∀k (h:k < (s.extract q (q+n)).size),digB (s.extract q (q+n))[k]=true:=fun k h=>ha _ (by
  have hl:k < (s.extract q (q+n)).data.toList.length:=by rw [len_str];exact h
  exact List.getElem_mem hl)
 have hsz:(s.extract q (q+n)).size≤100000:=by
  have:=HL.out
  rw [ByteArray.size_extract];omega
 generalize hz:valD y=z
 have QV:=Lib.hid (fun W=>rvalue_at (s.extract q (q+n)) W hsz hd (r:=z) (by rw [hx];exact hz))
 generalize hv:(if 2147483648 < z then (((0,0,[]),q,5):Tk×Nat×Int) else ((3,q,y),q+n,0))=v
 have HV1:Hid (2147483648 < z→v=((0,0,[]),q,5)):=Lib.hid (fun h=>by rw [←hv,if_pos h])
 have HV2:Hid (¬2147483648 < z→v=((3,q,y),q+n,0)):=Lib.hid (fun h=>by rw [←hv,if_neg h])
 clear hr hv hwy hwy2 hdi hx hy ha hd hsz hz
 go_enter Tryz.func42,Tryz.ntmps42
 go_wp2_with (first|(go_at_call 68;refine (QS.out _).mono ?_;rintro e w' ⟨rfl,rfl⟩)|(go_at_call 69;refine (Q1.out _).mono ?_;rintro e w' ⟨rfl,rfl⟩)|(go_at_call 70;refine (Q2.out _).mono ?_;rintro e w' ⟨rfl,rfl⟩)|(go_at_call 71;refine (Q3.out _).mono ?_;rintro e w' ⟨rfl,rfl⟩))
 go_loop [7] (fun i=>∃m:Nat,q≤m∧m≤s.size∧i=.int .i64 (m:Int)∧Hid (m+runP digB s m=q+n)) (fun i=>s.size - (intOf i).toNat)
 case atStart=>exact ⟨q,Nat.le_refl _,by omega,rfl,Lib.hid (by rw [HR.out])⟩
 case round =>
  obtain ⟨m,hqm,hm,rfl,hk⟩:=hrel
  by_cases hlt:m < s.size
  ·have hlt':(m:Int) < (s.size:Int):=by omega
   obtain ⟨b3,hb3⟩:∃b,digB s[m]=b:=⟨_,rfl⟩
   have P3:=Lib.hid (fun W=>QD.out s[m] W hb3)
   have HB:=Lib.hid hb3
   clear hb3
   cases b3
   ·have HE:=Lib.hid (show m=q+n by have:=hk.out;rw [runP_stop (fun _=>HB.out)] at this;exact this)
    obtain rfl:=HE.out
    by_cases h40:2147483648 < z
    ·have HV:=Lib.hid (HV1.out h40)
     have hqs:(q:Int)≤(q:Int)+(n:Int):=by omega
     go_wp2_with (first|(go_at_call 71;refine (P3.out _).mono ?_;rintro e w' ⟨rfl,rfl⟩)|(go_at_call 72;refine (QV.out _).mono ?_;rintro e w' ⟨rfl,rfl⟩))
     exact bodyPost_ret (v:=.tuple #[.agg #[.int .i64 0,.int .i64 0,.string ⟨#[]⟩],.int .i64 (q:Int),.int .i64 5]) (by simp [results,Tryz.results42,go_sem]) rfl ⟨by rw [HV.out];rfl,below1 _ _⟩
    ·have h40':decide (2147483648 < z)=false:=by simpa using h40
     have HV:=Lib.hid (HV2.out (by omega))
     clear h40
     go_wp2_with (first|(go_at_call 71;refine (P3.out _).mono ?_;rintro e w' ⟨rfl,rfl⟩)|(go_at_call 72;refine (QV.out _).mono ?_;rintro e w' ⟨rfl,rfl⟩))
     exact bodyPost_ret (v:=.tuple #[.agg #[.int .i64 3,.int .i64 (q:Int),.string (s.extract q (q+n))],.int .i64 ((q+n:Nat):Int),.int .i64 0]) (by simp [results,Tryz.results42,go_sem]) rfl ⟨by rw [HV.out,HX.out],below1 _ _⟩
   ·have HE:=Lib.hid (show (m+1)+runP digB s (m+1)=q+n by have:=hk.out;rw [runP_next hlt HB.out] at this;omega)
    have hq1:¬(9223372036854775807 < (m:Int)+1):=by omega
    go_wp2_with (go_at_call 71;refine (P3.out _).mono ?_;rintro e w' ⟨rfl,rfl⟩)
    go_round
    case rel=>exact ⟨m+1,by omega,by omega,by go_num,HE.out⟩
    case measure=>simp [intOf];omega
  ·have HE:=Lib.hid (show m=q+n by have:=hk.out;rw [runP_stop (fun h=>absurd h hlt)] at this;exact this)
   have hmd:decide ((m:Int) < (s.size:Int))=false:=by simp;omega
   obtain rfl:=HE.out
   by_cases h40:2147483648 < z
   ·have HV:=Lib.hid (HV1.out h40)
    have hqs:(q:Int)≤(q:Int)+(n:Int):=by omega
    go_wp2_with (go_at_call 72;refine (QV.out _).mono ?_;rintro e w' ⟨rfl,rfl⟩)
    exact bodyPost_ret (v:=.tuple #[.agg #[.int .i64 0,.int .i64 0,.string ⟨#[]⟩],.int .i64 (q:Int),.int .i64 5]) (by simp [results,Tryz.results42,go_sem]) rfl ⟨by rw [HV.out];rfl,below1 _ _⟩
   ·have h40':decide (2147483648 < z)=false:=by simpa using h40
    have HV:=Lib.hid (HV2.out (by omega))
    clear h40
    go_wp2_with (go_at_call 72;refine (QV.out _).mono ?_;rintro e w' ⟨rfl,rfl⟩)
    exact bodyPost_ret (v:=.tuple #[.agg #[.int .i64 3,.int .i64 (q:Int),.string (s.extract q (q+n))],.int .i64 ((q+n:Nat):Int),.int .i64 0]) (by simp [results,Tryz.results42,go_sem]) rfl ⟨by rw [HV.out,HX.out],below1 _ _⟩
set_option maxHeartbeats 4000000 in
theorem rn_sym (h:q < s.size) (hwy:wordyB s[q]=false) (hdi:digB s[q]=false) :
  Calls Tryz.prog 42 #[.string s,.int .i64 (p:Int)] w fun e w'=>e=.returned (nextV (if symP (rest s q)=[] then ((0,0,[]),q,16) else ((4,q,symP (rest s q)),q+(symP (rest s q)).length,0)))∧Below w.heap.size w w':=by
 have h0:decide ((p:Int) < 0)=false:=by simp
 have h1:¬s.size < p:=by omega
 have h2:decide ((16384:Int) < (s.size:Int))=false:=by simp;omega
 have hq':(q:Int) < (s.size:Int):=by omega
 have he:((q:Int)==(s.size:Int))=false:=by simp;omega
 have hwy2:=hwy
 simp only [wordyB,Bool.or_eq_false_iff] at hwy2
 have Q1:=Lib.hid (fun W=>tr_low_at s[q] W hwy2.1)
 have Q2:=Lib.hid (fun W=>tr_upp_at s[q] W (show (uppB s[q]||undB s[q])=false by rw [hwy2.2.1,hwy2.2.2];rfl))
 have Q3:=Lib.hid (fun W=>tr_dig_at s[q] W hdi)
 have Q4:=Lib.hid (fun W=>tr_symbol_loop s q W (by omega) (by omega))
 have HX:=Lib.hid (symP_text s q)
 have hle:=symP_le (s:=s) (q:=q) (by omega)
 generalize symP (rest s q)=x at Q4 HX hle
 have hxl:(S x).size=x.length:=by simp [ByteArray.size]
 have h63:¬(9223372036854775807 < (q:Int)+(x.length:Int)):=by omega
 generalize hv:(if x=[] then (((0,0,[]),q,16):Tk×Nat×Int) else ((4,q,x),q+x.length,0))=v
 have HV1:Hid (x=[]→v=((0,0,[]),q,16)):=Lib.hid (fun h=>by rw [←hv,if_pos h])
 have HV2:Hid (¬x=[]→v=((4,q,x),q+x.length,0)):=Lib.hid (fun h=>by rw [←hv,if_neg h])
 clear hwy hwy2 hdi hv
 go_enter Tryz.func42,Tryz.ntmps42
 go_wp2_with (first|(go_at_call 68;refine (QS.out _).mono ?_;rintro e w' ⟨rfl,rfl⟩)|(go_at_call 69;refine (Q1.out _).mono ?_;rintro e w' ⟨rfl,rfl⟩)|(go_at_call 70;refine (Q2.out _).mono ?_;rintro e w' ⟨rfl,rfl⟩)|(go_at_call 71;refine (Q3.out _).mono ?_;rintro e w' ⟨rfl,rfl⟩))
 refine (Q4.out _).mono ?_
 rintro e w1 ⟨rfl,hb⟩
 obtain ⟨e0,e1,e2,hb1⟩:=box3 hb
 have f:∀j,w1.frozen? ⟨w.heap.size,j,none⟩=false:=fun j=>by
  rw [hb.frozen (p:=⟨w.heap.size,j,none⟩) (by simp),World.frozen?_alloc_at _ _ _ _ rfl]
 have f0:=f 0
 have f1:=f 1
 have f2:=f 2
 have HB:=Lib.hid hb1
 clear hb hb1 f
 by_cases hx:x=[]
 ·have HV:=Lib.hid (HV1.out hx)
  subst hx
  go_wp2_with fail
  exact bodyPost_ret (v:=.tuple #[.agg #[.int .i64 0,.int .i64 0,.string ⟨#[]⟩],.int .i64 (q:Int),.int .i64 16]) (by simp [results,Tryz.results42,go_sem,e0,e1,e2]) rfl ⟨by rw [HV.out];rfl,((HB.out.setCell (Nat.le_refl _) _).setCell (Nat.le_refl _) _).setCell (Nat.le_refl _) _⟩
 ·have HV:=Lib.hid (HV2.out hx)
  have hx0:0 < x.length:=by
   cases x with
   | nil=>exact absurd rfl hx
   | cons a r=>simp
  have hne:((q:Int)+(x.length:Int)==(q:Int))=false:=by simp;omega
  have eN:((q:Int)+(x.length:Int)).toNat=q+x.length:=by omega
  have hsz:(q:Int)+(x.length:Int)≤(s.size:Int):=by omega
  clear hx0
  go_wp2_with fail
  exact bodyPost_ret (v:=.tuple #[.agg #[.int .i64 4,.int .i64 (q:Int),.string (s.extract q (q+x.length))],.int .i64 ((q:Int)+(x.length:Int)),.int .i64 0]) (by simp [results,Tryz.results42,go_sem,e0,e1,e2]) rfl ⟨by rw [HV.out,HX.out];rfl,((HB.out.setCell (Nat.le_refl _) _).setCell (Nat.le_refl _) _).setCell (Nat.le_refl _) _⟩
end
theorem tr_next_in (s:ByteArray) (p:Nat) (w:World) (hs:s.size≤16384) (hp:p≤s.size) :
  Calls Tryz.prog 42 #[.string s,.int .i64 (p:Int)] w fun e w'=>e=.returned (nextV (tokAt s p))∧Below w.heap.size w w':=by
 obtain ⟨f1,f2,f3⟩:=skipP_facts hp
 have hg:=f3.symm
 generalize hqd:skipP s p=q at f1 f2 f3 hg
 have QS:=Lib.hid (fun W=>tr_skip_at s p W (by omega) hp hqd)
 rcases Nat.lt_or_ge q s.size with hq|hq
 ·have hc:=rest_cons hq
  cases hwy:wordyB s[q] with
  | true =>
   have htok:tokL (gap false (rest s p))=if 40 < runP inB s q then (0,[],7) else (if lowB s[q]=true then 1 else 2,(rest s q).takeWhile inB,0):=by
    rw [hg,hc,tok_word hwy,← hc];rfl
   have:=rn_word s p q w hs hp QS hq hwy
   by_cases h40:40 < runP inB s q
   ·rw [if_pos h40] at htok this
    rw [tokAt_err hqd htok (by decide)]
    exact this
   ·rw [if_neg h40] at htok this
    rw [tokAt_ok hqd htok]
    exact this
  | false =>
   cases hdi:digB s[q] with
   | true =>
    have htok:tokL (gap false (rest s p))=if 2147483648 < valD ((rest s q).takeWhile digB) then (0,[],5) else (3,(rest s q).takeWhile digB,0):=by
     rw [hg,hc,tok_dig hwy hdi]
    have:=rn_int s p q w hs hp QS hq hwy hdi
    by_cases h40:2147483648 < valD ((rest s q).takeWhile digB)
    ·rw [if_pos h40] at htok this
     rw [tokAt_err hqd htok (by decide)]
     exact this
    ·rw [if_neg h40] at htok this
     rw [tokAt_ok hqd htok]
     exact this
   | false =>
    have htok:tokL (gap false (rest s p))=if symP (rest s q)=[] then (0,[],16) else (4,symP (rest s q),0):=by
     rw [hg,hc,tok_sym hwy hdi]
    have:=rn_sym s p q w hs hp QS hq hwy hdi
    by_cases h0:symP (rest s q)=[]
    ·rw [if_pos h0] at htok this
     rw [tokAt_err hqd htok (by decide)]
     exact this
    ·rw [if_neg h0] at htok this
     rw [tokAt_ok hqd htok]
     exact this
 ·obtain rfl:q=s.size:=by omega
  have htok:tokL (gap false (rest s p))=(0,[],0):=by rw [hg,rest_end (Nat.le_refl _)];rfl
  rw [tokAt_ok hqd htok]
  exact rn_end s p s.size w hs hp QS rfl
set_option maxHeartbeats 1000000 in
theorem tr_next_at (s:ByteArray) (a:Int) (w:World) (hs:s.size≤100000) :
  Calls Tryz.prog 42 #[.string s,.int .i64 a] w fun e w'=>e=.returned (nextV (nextP s a))∧Below w.heap.size w w':=by
 by_cases h0:a < 0
 ·have HV:=Lib.hid (show nextP s a=((0,0,[]),0,2) by unfold nextP;rw [if_pos (.inl h0)])
  go_enter Tryz.func42,Tryz.ntmps42
  go_wp2
  exact bodyPost_ret (v:=.tuple #[.agg #[.int .i64 0,.int .i64 0,.string ⟨#[]⟩],.int .i64 0,.int .i64 2]) (by simp [results,Tryz.results42,go_sem]) rfl ⟨by rw [HV.out];rfl,below1 _ _⟩
 ·obtain ⟨q,rfl⟩:∃q:Nat,a=(q:Int):=⟨a.toNat,by omega⟩
  by_cases h1:(s.size:Int) < (q:Int)
  ·have HV:=Lib.hid (show nextP s (q:Int)=((0,0,[]),0,2) by unfold nextP;rw [if_pos (.inr h1)])
   have h1':s.size < q:=by omega
   clear h0 h1
   go_enter Tryz.func42,Tryz.ntmps42
   go_wp2
   exact bodyPost_ret (v:=.tuple #[.agg #[.int .i64 0,.int .i64 0,.string ⟨#[]⟩],.int .i64 0,.int .i64 2]) (by simp [results,Tryz.results42,go_sem]) rfl ⟨by rw [HV.out];rfl,below1 _ _⟩
  ·by_cases h2:16384 < s.size
   ·have HV:=Lib.hid (show nextP s (q:Int)=((0,0,[]),0,6) by unfold nextP;rw [if_neg (by omega),if_pos h2])
    have h1':¬s.size < q:=by omega
    have h2':(16384:Int) < (s.size:Int):=by omega
    clear h0 h1 h2
    go_enter Tryz.func42,Tryz.ntmps42
    go_wp2
    exact bodyPost_ret (v:=.tuple #[.agg #[.int .i64 0,.int .i64 0,.string ⟨#[]⟩],.int .i64 0,.int .i64 6]) (by simp [results,Tryz.results42,go_sem]) rfl ⟨by rw [HV.out];rfl,below1 _ _⟩
   ·have e:nextP s (q:Int)=tokAt s q:=by unfold nextP;rw [if_neg (by omega),if_neg h2];rfl
    rw [e]
    exact tr_next_in s q w (by omega) (by omega)
end Go.Proofs.YtaojnljppcnhjaaGreatDoor
