/-
  TkNext.
  TkScan.
  TrSymbol.
 TrSkip.
 TrNext.
-/
import Derived.Test.YtaojnljppcnhjaaGreatDoorMf11
import Derived.Test.YtaojnljppcnhjaaGreatDoorMf1
import Derived.Deep.AppendSrc
import Derived.WalkSpells
import Derived.Deep.QuietTactic
import Derived.BigQuiet
import Derived.BigRegion
namespace Go.Proofs.YtaojnljppcnhjaaGreatDoor
open Go.RowKit
section
variable (s:ByteArray) (p q m:Nat) (k er:Int) (w:World) (hs:s.size≤16384) (hp:p≤s.size) (hqm:q≤m) (hm:m≤s.size)
 (QS:Hid (∀W,Calls Tryz.prog 97 #[.string s,.int .i64 (p:Int)] W fun e w'=>e=.returned (.int .i64 (q:Int))∧W=w'))
 (QB:Hid (∀W,Calls Tryz.prog 98 #[.string s,.int .i64 (q:Int)] W (Bound k m W)))
include hs hp hqm hm QS QB
set_option maxHeartbeats 1000000 in
theorem next_ok (QC:Hid (∀W,Calls Tryz.prog 99 #[.int .i64 k,.string (s.extract q m)] W fun e w'=>e=.returned (.int .i64 0)∧W=w')) :
  Calls Tryz.prog 74 #[.string s,.int .i64 (p:Int)] w fun e w'=>e=.returned (.tuple #[.agg #[.int .i64 k,.int .i64 (q:Int),.string (s.extract q m)],.int .i64 (m:Int),.int .i64 0])∧Below w.heap.size w w':=by
 have h0:decide ((p:Int) < 0)=false:=by simp
 have h1:¬s.size < p:=by omega
 have h2:decide ((16384:Int) < (s.size:Int))=false:=by simp;omega
 have hqm':(q:Int)≤(m:Int):=by omega
 have hm':(m:Int)≤(s.size:Int):=by omega
 go_enter Tryz.func74,Tryz.ntmps74
 go_wp2_with (first|(go_at_call 97;refine (QS.out _).mono ?_;rintro e w' ⟨rfl,rfl⟩)|(go_at_call 98;refine (QB.out _).mono ?_;rintro e w' ⟨rfl,rfl⟩)|(go_at_call 99;refine (QC.out _).mono ?_;rintro e w' ⟨rfl,rfl⟩))
 exact bodyPost_ret (v:=.tuple #[.agg #[.int .i64 k,.int .i64 (q:Int),.string (s.extract q m)],.int .i64 (m:Int),.int .i64 0]) (by simp [results,Tryz.results74,go_sem]) rfl ⟨rfl,(Below.refl _ _).alloc (Nat.le_refl _) _⟩
set_option maxHeartbeats 1000000 in
theorem next_err (her:(er==0)=false) (QC:Hid (∀W,Calls Tryz.prog 99 #[.int .i64 k,.string (s.extract q m)] W fun e w'=>e=.returned (.int .i64 er)∧W=w')) :
  Calls Tryz.prog 74 #[.string s,.int .i64 (p:Int)] w fun e w'=>e=.returned (.tuple #[.agg #[.int .i64 0,.int .i64 0,.string ⟨#[]⟩],.int .i64 (q:Int),.int .i64 er])∧Below w.heap.size w w':=by
 have h0:decide ((p:Int) < 0)=false:=by simp
 have h1:¬s.size < p:=by omega
 have h2:decide ((16384:Int) < (s.size:Int))=false:=by simp;omega
 have hqm':(q:Int)≤(m:Int):=by omega
 have hm':(m:Int)≤(s.size:Int):=by omega
 have her':(er != 0)=true:=by simp [bne,her]
 go_enter Tryz.func74,Tryz.ntmps74
 go_wp2_with (first|(go_at_call 97;refine (QS.out _).mono ?_;rintro e w' ⟨rfl,rfl⟩)|(go_at_call 98;refine (QB.out _).mono ?_;rintro e w' ⟨rfl,rfl⟩)|(go_at_call 99;refine (QC.out _).mono ?_;rintro e w' ⟨rfl,rfl⟩))
 exact bodyPost_ret (v:=.tuple #[.agg #[.int .i64 0,.int .i64 0,.string ⟨#[]⟩],.int .i64 (q:Int),.int .i64 er]) (by simp [results,Tryz.results74,go_sem]) rfl ⟨rfl,(Below.refl _ _).alloc (Nat.le_refl _) _⟩
end
theorem while_all (k:UInt8→Bool):∀(l:List UInt8),∀c∈l.takeWhile k,k c=true
 | [],c,h=>by simp at h
 | x :: l,c,h=>by
  cases hx:k x with
  | true =>
   rw [List.takeWhile_cons_of_pos hx] at h
   rcases List.mem_cons.1 h with rfl|h
   ·exact hx
   ·exact while_all k l c h
  | false=>rw [List.takeWhile_cons_of_neg (by rw [hx];decide)] at h;simp at h
theorem extract_none (s:ByteArray) (q:Nat):s.extract q q=S []:=S_of (by rw [extract_list,Nat.sub_self,List.take_zero])
theorem next_in (s:ByteArray) (p:Nat) (w:World) (hs:s.size≤16384) (hp:p≤s.size) :
  Calls Tryz.prog 74 #[.string s,.int .i64 (p:Int)] w fun e w'=>e=.returned (nextV (tokAt s p))∧Below w.heap.size w w':=by
 obtain ⟨f1,f2,f3⟩:=skipP_facts hp
 have hg:=f3.symm
 generalize hqd:skipP s p=q at f1 f2 f3 hg
 have QS:=Lib.hid (fun W=>skip_at s p W (by omega) hp hqd)
 have hs':s.size≤100000:=by omega
 rcases Nat.lt_or_ge q s.size with hq|hq
 ·have hc:=rest_cons hq
  cases hwy:wordyB s[q] with
  | true =>
   have ha:∀c∈(S ((rest s q).takeWhile inB)).data.toList,inB c=true:=fun c h=>while_all _ _ c h
   have hin:inB s[q]=true:=by
    simp only [wordyB,Bool.or_eq_true] at hwy
    simp only [inB,Bool.or_eq_true]
    rcases hwy with h|h|h
    ·exact .inl (.inl (.inl h))
    ·exact .inl (.inl (.inr h))
    ·exact .inr h
   have hsz:(S ((rest s q).takeWhile inB)).size=runP inB s q:=by simp [ByteArray.size,runP]
   have h1:1≤runP inB s q:=by rw [runP_next hq hin];omega
   have hle:=runP_le (k:=inB) (s:=s) (q:=q) (by omega)
   have hhd:(S ((rest s q).takeWhile inB)).data.toList.getD 0 0=s[q]:=by
    show ((rest s q).takeWhile inB).getD 0 0=s[q]
    rw [hc,List.takeWhile_cons_of_pos hin];rfl
   have htok:tokL (gap false (rest s p))=if 40 < runP inB s q then (0,[],7) else (if lowB s[q]=true then 1 else 2,(rest s q).takeWhile inB,0):=by
    rw [hg,hc,tok_word hwy,← hc];rfl
   cases hlo:lowB s[q] with
   | true =>
    rw [hlo,if_pos rfl] at htok
    have QB:=Lib.hid (fun W=>bound_low s q W hs' hq hlo)
    have QC:=fun W=>check_name (S ((rest s q).takeWhile inB)) W (by rw [hsz];omega) ha (by rw [hsz];exact h1) (by rw [hhd];exact hlo) rfl
    rw [hsz,← runP_text inB s q] at QC
    by_cases h40:40 < runP inB s q
    ·rw [if_pos h40] at htok QC
     rw [tokAt_err hqd htok (by decide)]
     exact next_err s p q _ 1 7 w hs hp (by omega) hle QS QB rfl (Lib.hid QC)
    ·rw [if_neg h40] at htok QC
     rw [tokAt_ok hqd htok]
     have:=next_ok s p q _ 1 w hs hp (by omega) hle QS QB (Lib.hid QC)
     rw [runP_text] at this
     exact this
   | false =>
    simp only [hlo,Bool.false_eq_true,if_false] at htok
    have hup:(uppB s[q]||undB s[q])=true:=by simpa [wordyB,hlo] using hwy
    have QB:=Lib.hid (fun W=>bound_var s q W hs' hq hlo hup)
    have QC:=fun W=>check_var (S ((rest s q).takeWhile inB)) W (by rw [hsz];omega) ha (by rw [hsz];exact h1) (by rw [hhd];exact hup) rfl
    rw [hsz,← runP_text inB s q] at QC
    by_cases h40:40 < runP inB s q
    ·rw [if_pos h40] at htok QC
     rw [tokAt_err hqd htok (by decide)]
     exact next_err s p q _ 2 7 w hs hp (by omega) hle QS QB rfl (Lib.hid QC)
    ·rw [if_neg h40] at htok QC
     rw [tokAt_ok hqd htok]
     have:=next_ok s p q _ 2 w hs hp (by omega) hle QS QB (Lib.hid QC)
     rw [runP_text] at this
     exact this
  | false =>
   cases hdi:digB s[q] with
   | true =>
    have hsz:(S ((rest s q).takeWhile digB)).size=runP digB s q:=by simp [ByteArray.size,runP]
    have hle:=runP_le (k:=digB) (s:=s) (q:=q) (by omega)
    have htok:tokL (gap false (rest s p))=if 2147483648 < valD ((rest s q).takeWhile digB) then (0,[],5) else (3,(rest s q).takeWhile digB,0):=by
     rw [hg,hc,tok_dig hwy hdi]
    have QB:=Lib.hid (fun W=>bound_dig s q W hs' hq hwy hdi)
    have QC:=fun W=>check_int (S ((rest s q).takeWhile digB)) W (by rw [hsz];omega) (fun c h=>while_all _ _ c h) rfl
    rw [←runP_text digB s q] at QC
    have hx:(s.extract q (q+runP digB s q)).data.toList=(rest s q).takeWhile digB:=by rw [runP_text]
    rw [hx] at QC
    by_cases h40:2147483648 < valD ((rest s q).takeWhile digB)
    ·rw [if_pos h40] at htok QC
     rw [tokAt_err hqd htok (by decide)]
     exact next_err s p q _ 3 5 w hs hp (by omega) hle QS QB rfl (Lib.hid QC)
    ·rw [if_neg h40] at htok QC
     rw [tokAt_ok hqd htok]
     have:=next_ok s p q _ 3 w hs hp (by omega) hle QS QB (Lib.hid QC)
     rw [runP_text] at this
     exact this
   | false =>
    have hle:=symP_le (s:=s) (q:=q) (by omega)
    have htok:tokL (gap false (rest s p))=if symP (rest s q)=[] then (0,[],16) else (4,symP (rest s q),0):=by
     rw [hg,hc,tok_sym hwy hdi]
    have QB:=Lib.hid (fun W=>bound_sym s q W hs' hq hwy hdi)
    by_cases h0:symP (rest s q)=[]
    ·rw [if_pos h0] at htok
     have QC:=Lib.hid check_none
     rw [show (ByteArray.mk #[])=s.extract q (q+(symP (rest s q)).length) by rw [symP_text,h0]] at QC
     rw [tokAt_err hqd htok (by decide)]
     exact next_err s p q _ 4 16 w hs hp (by omega) hle QS QB rfl QC
    ·rw [if_neg h0] at htok
     have QC:=Lib.hid (fun W=>check_sym (S (symP (rest s q))) W h0)
     rw [←symP_text] at QC
     rw [tokAt_ok hqd htok]
     have:=next_ok s p q _ 4 w hs hp (by omega) hle QS QB QC
     rw [symP_text] at this
     exact this
 ·obtain rfl:q=s.size:=by omega
  have htok:tokL (gap false (rest s p))=(0,[],0):=by rw [hg,rest_end (Nat.le_refl _)];rfl
  rw [tokAt_ok hqd htok]
  have:=next_ok s p s.size s.size 0 w hs hp (Nat.le_refl _) (Nat.le_refl _) QS (Lib.hid (bound_end s)) (Lib.hid (check_end _))
  rw [extract_none] at this
  exact this
set_option maxHeartbeats 1000000 in
theorem next_at (s:ByteArray) (a:Int) (w:World) (hs:s.size≤100000) :
  Calls Tryz.prog 74 #[.string s,.int .i64 a] w fun e w'=>e=.returned (nextV (nextP s a))∧Below w.heap.size w w':=by
 by_cases h0:a < 0
 ·have HV:=Lib.hid (show nextP s a=((0,0,[]),0,2) by unfold nextP;rw [if_pos (.inl h0)])
  go_enter Tryz.func74,Tryz.ntmps74
  go_wp2
  exact bodyPost_ret (v:=.tuple #[.agg #[.int .i64 0,.int .i64 0,.string ⟨#[]⟩],.int .i64 0,.int .i64 2]) (by simp [results,Tryz.results74,go_sem]) rfl ⟨by rw [HV.out];rfl,(Below.refl _ _).alloc (Nat.le_refl _) _⟩
 ·obtain ⟨q,rfl⟩:∃q:Nat,a=(q:Int):=⟨a.toNat,by omega⟩
  by_cases h1:(s.size:Int) < (q:Int)
  ·have HV:=Lib.hid (show nextP s (q:Int)=((0,0,[]),0,2) by unfold nextP;rw [if_pos (.inr h1)])
   have h1':s.size < q:=by omega
   clear h0 h1
   go_enter Tryz.func74,Tryz.ntmps74
   go_wp2
   exact bodyPost_ret (v:=.tuple #[.agg #[.int .i64 0,.int .i64 0,.string ⟨#[]⟩],.int .i64 0,.int .i64 2]) (by simp [results,Tryz.results74,go_sem]) rfl ⟨by rw [HV.out];rfl,(Below.refl _ _).alloc (Nat.le_refl _) _⟩
  ·by_cases h2:16384 < s.size
   ·have HV:=Lib.hid (show nextP s (q:Int)=((0,0,[]),0,6) by unfold nextP;rw [if_neg (by omega),if_pos h2])
    have h1':¬s.size < q:=by omega
    have h2':(16384:Int) < (s.size:Int):=by omega
    clear h0 h1 h2
    go_enter Tryz.func74,Tryz.ntmps74
    go_wp2
    exact bodyPost_ret (v:=.tuple #[.agg #[.int .i64 0,.int .i64 0,.string ⟨#[]⟩],.int .i64 0,.int .i64 6]) (by simp [results,Tryz.results74,go_sem]) rfl ⟨by rw [HV.out];rfl,(Below.refl _ _).alloc (Nat.le_refl _) _⟩
   ·have e:nextP s (q:Int)=tokAt s q:=by unfold nextP;rw [if_neg (by omega),if_neg h2];rfl
    rw [e]
    exact next_in s q w (by omega) (by omega)
end Go.Proofs.YtaojnljppcnhjaaGreatDoor
namespace Go.Proofs.YtaojnljppcnhjaaGreatDoor
open Go.RowKit
def ScanR (s:ByteArray) (w:World) (e:Ending) (w':World):Prop :=
 ∃A c,e=.returned (.tuple #[.slice A (scanP s).1.length c,.int .i64 ((scanP s).2.1:Int),.int .i64 (scanP s).2.2])∧TLst w' A (scanP s).1 c∧Below w.heap.size w w'
theorem RowK.alloc2 {lo:Nat} {w:World} {z:Value} {acc:List Tk} (h:RowK lo w z acc) (o o':Obj):((w.alloc o).alloc o').ownsRow lo 67 3 z acc.length (kcells acc):=World.ownsRow.alloc (World.ownsRow.alloc h _) _
theorem knews2 (w:World) (o:Obj) (u:Tk) (T:TypeId):∀j v,(tokC u)[j]?=some v→((w.alloc o).alloc (.cells #[.int .i64 u.1,.int .i64 (u.2.1:Int),.string (S u.2.2)] T)).cell? ((⟨w.heap.size+1,0,none⟩:Addr).add j)=some v:=by
 have:=knews1 (w.alloc o) u T
 rwa [World.size_alloc] at this
theorem far_cell {w w5:World} {v0 v1 v2:Value} {T:TypeId} {o:Obj} {row:Option Nat} (hg:((w.alloc (.cells #[v0,v1,v2] T)).alloc o).grownBy w5 row) (hr:∀k,row=some k→k < w.heap.size):w5.cell? ⟨w.heap.size,0,none⟩=some v0:=by
 rw [hg.cell_far _ (by simp;omega) (fun e=>Nat.lt_irrefl _ (hr _ e.symm)),(below1 (w.alloc (.cells #[v0,v1,v2] T)) o).cell (p:=⟨w.heap.size,0,none⟩) (by simp),World.cell?_alloc_at _ _ _ _ rfl]
 rfl
theorem ScanR.err {s:ByteArray} {w w':World} {q:Nat} {er:Int} (h:scanP s=([],q,er)) (hb:Below w.heap.size w w'):ScanR s w (.returned (.tuple #[.slice none 0 0,.int .i64 (q:Int),.int .i64 er])) w' :=
 ⟨none,0,by rw [h];rfl,by rw [h];exact TLst.nil _,hb⟩
theorem ScanR.ok {s:ByteArray} {w w':World} {lo n cap:Nat} {A:Option Addr} {l:List Tk} (h:scanP s=(l,0,0)) (hr:RowK lo w' (.slice A n cap) l) (hn:n=l.length) (hb:Below w.heap.size w w'):ScanR s w (.returned (.tuple #[.slice A n cap,.int .i64 0,.int .i64 0])) w' :=
 ⟨A,cap,by rw [h,hn];rfl,by rw [h];exact hr.lies,hb⟩
structure Scanning (s:ByteArray) (w:World) (z:Value) (p:Nat) (n:Nat) (acc:List Tk) (wr:World):Prop where
 row:RowK w.heap.size wr z acc
 all:fin acc (toksAt s n p)=scanP s
 le:p≤s.size
 time:s.size < p+n
 len:acc.length+n≤s.size+1
 below:Below w.heap.size w wr
set_option maxHeartbeats 2000000 in
theorem scan_big (s:ByteArray) (w:World) (hs:s.size≤100000) (hbig:16384 < s.size) :
  Calls Tryz.prog 43 #[.string s] w (ScanR s w):=by
 have QN:=Lib.hid (fun W=>next_at s 0 W hs)
 rw [show nextP s 0=((0,0,[]),0,6) by unfold nextP;rw [if_neg (by omega),if_pos hbig]] at QN
 have HV:=Lib.hid (show scanP s=([],0,6) by unfold scanP;rw [if_pos hbig])
 go_enter Tryz.func43,Tryz.ntmps43
 go_wp2_with fail
 go_loopw [6] (fun i wr=>i=.int .i64 0∧Hid (Below w.heap.size w wr)) (fun i _=>0)
 case atStart=>exact ⟨rfl,Lib.hid (Below.refl _ _)⟩
 case round =>
  obtain ⟨rfl,HB⟩:=hrel
  go_wp2_with fail
  refine (QN.out _).mono ?_
  rintro e w2 ⟨rfl,hb2⟩
  have HB2:=Lib.hid (show Below w.heap.size w (w2.alloc (.cells #[.int .i64 0,.int .i64 0,.string (S [])] 67)) from (HB.out.trans (hb2.mono HB.out.size)).alloc (Nat.le_trans HB.out.size hb2.size) _)
  clear hb2
  go_wp2_with fail
  exact bodyPost_ret (v:=.tuple #[.slice none 0 0,.int .i64 0,.int .i64 6]) (by simp [results,Tryz.results43,go_sem]) rfl (ScanR.err HV.out HB2.out)
set_option maxHeartbeats 4000000 in
theorem scan_inside (s:ByteArray) (w:World) (hs:s.size≤16384) :
  Calls Tryz.prog 43 #[.string s] w (ScanR s w):=by
 have QN:=Lib.hid (fun (p:Nat) W (hp:p≤s.size)=>next_in s p W hs hp)
 obtain ⟨i0,hi,hz0,hz1,hz2⟩:=info_parts token_info
 have HS:=Lib.hid (show fin [] (toksAt s (s.size+1) 0)=scanP s by rw [fin_nil];unfold scanP;rw [if_neg (by omega)])
 go_enter Tryz.func43,Tryz.ntmps43
 go_wp2_with fail
 go_loopw [5,6] (fun z i wr=>∃(p n:Nat) (acc:List Tk) (x:Value),p≤s.size∧i=.int .i64 (p:Int)∧z=x∧Hid (Scanning s w x p n acc wr)) (fun _ i _=>s.size+1 - (intOf i).toNat)
 case atStart=>exact ⟨0,s.size+1,[],_,Nat.zero_le _,rfl,rfl,Lib.hid ⟨RowK.nil _ _,HS.out,Nat.zero_le _,by omega,by simp,Below.refl _ _⟩⟩
 case round =>
  obtain ⟨p,n,acc,z,hp,rfl,hz,HK⟩:=hrel
  have hz':=hz.symm
  subst hz'
  clear hz
  have Q:=Lib.hid (fun W=>QN.out p W hp)
  generalize hx:tokAt s p=x at Q
  obtain ⟨⟨k,at_,t⟩,m,er⟩:=x
  have HX:=Lib.hid hx
  clear hx
  obtain ⟨K1,K2,K3,K4,K5,K6⟩:=HK.out
  obtain ⟨n,rfl⟩:∃n',n=n'+1:=⟨n - 1,by omega⟩
  have hacl:acc.length≤16385:=by omega
  by_cases her:er=0
  ·subst her
   obtain ⟨t1,t2,t3,t4,t5,t6,_⟩:=tokAt_facts hp (by rw [HX.out])
   rw [HX.out] at t1 t2 t4 t5 t6
   have HT:Hid (k≠0→p < m):=Lib.hid (fun h=>by have:=t5 h;simp only at t1 t2 this;omega)
   have hm:m≤s.size:=t4
   go_wp2_with fail
   refine (Q.out _).mono ?_
   rintro e w2 ⟨rfl,hb2⟩
   have hbw2:=K6.trans (hb2.mono K6.size)
   have HK2:=Lib.hid (K1.below hb2)
   have HOwn:=Lib.hid (own_lt HK2.out)
   have hlo:=hbw2.size
   have HE:Hid (k=0→scanP s=(acc++[(k,at_,t)],0,0)):=Lib.hid (fun h=>by
    rw [←K2,fin_end acc (by rw [HX.out]) (by rw [HX.out];exact h),HX.out])
   have HN:Hid (k≠0→fin (acc++[(k,at_,t)]) (toksAt s n m)=scanP s):=Lib.hid (fun h=>by
    rw [←K2,fin_next acc (by rw [HX.out]) (by rw [HX.out];exact h),HX.out])
   clear t1 t2 t4 t5 t6 hb2 K1 K2 K6 HX Q HK
   by_cases hk:k=0
   ·subst hk
    go_wp2_with (at_builtin;refine wpList_append_lies _ rfl _ _ 46 rfl w.heap.size 67 i0 _ 3 32 Tryz.underlying46 hi hz0 hz1 hz2 rfl (by decide) _ acc.length (kcells acc) rfl (HK2.out.alloc2 _ _) ⟨w2.heap.size+1,0,none⟩ 1 1 (tokC (0,at_,t)) rfl rfl (knews2 w2 _ (0,at_,t) _) (kcells_one _) (by decide) (by unfold maxLen;omega) (by omega) (by simp;omega) _ rfl ?_;intro g cap w5 hown hg hat hglt;have d0:=far_cell hg (fun k hk=>(HOwn.out k hk).2);have HR5:=Lib.hid (RowK.next (u:=(0,at_,t)) hown);have HB5:=Lib.hid (show Below w.heap.size w w5 from ((hbw2.alloc hbw2.size _).alloc (by simp;omega) _).grown hg (by simp;omega) (fun k hk=>(HOwn.out k hk).1));clear hown hg hat hglt)
    exact bodyPost_ret (v:=.tuple #[.slice (some ⟨g,0,none⟩) (acc.length+1) cap,.int .i64 0,.int .i64 0]) (by simp [results,Tryz.results43,go_sem]) rfl (ScanR.ok (HE.out trivial) HR5.out (by simp) HB5.out)
   ·have hk':(k==0)=false:=by simpa using hk
    have HT2:=Lib.hid (HT.out hk)
    have HN2:=Lib.hid (HN.out hk)
    clear hk HT HN HE
    go_wp2_with (at_builtin;refine wpList_append_lies _ rfl _ _ 46 rfl w.heap.size 67 i0 _ 3 32 Tryz.underlying46 hi hz0 hz1 hz2 rfl (by decide) _ acc.length (kcells acc) rfl (HK2.out.alloc2 _ _) ⟨w2.heap.size+1,0,none⟩ 1 1 (tokC (k,at_,t)) rfl rfl (knews2 w2 _ (k,at_,t) _) (kcells_one _) (by decide) (by unfold maxLen;omega) (by omega) (by simp;omega) _ rfl ?_;intro g cap w5 hown hg hat hglt;have d0:=far_cell hg (fun k hk=>(HOwn.out k hk).2);have HR5:=Lib.hid (RowK.next (u:=(k,at_,t)) hown);have HB5:=Lib.hid (show Below w.heap.size w w5 from ((hbw2.alloc hbw2.size _).alloc (by simp;omega) _).grown hg (by simp;omega) (fun k hk=>(HOwn.out k hk).1));clear hown hg hat hglt)
    have hpm:=HT2.out
    go_roundw
    case rel=>exact ⟨m,n,acc++[(k,at_,t)],_,hm,rfl,rfl,Lib.hid ⟨HR5.out,HN2.out,hm,by omega,by rw [List.length_append];simp;omega,HB5.out⟩⟩
    case measure=>simp [intOf];omega
  ·have HV:=Lib.hid (show scanP s=([],m,er) by rw [←K2,fin_err acc (by rw [HX.out];exact her),HX.out])
   have her':(er != 0)=true:=by simpa using her
   go_wp2_with fail
   refine (Q.out _).mono ?_
   rintro e w2 ⟨rfl,hb2⟩
   have HB2:=Lib.hid (fun o=>(K6.trans (hb2.mono K6.size)).alloc (Nat.le_trans K6.size hb2.size) o)
   clear hb2 K1 K2 K6 HX HK Q her
   go_wp2_with fail
   exact bodyPost_ret (v:=.tuple #[.slice none 0 0,.int .i64 (m:Int),.int .i64 er]) (by simp [results,Tryz.results43,go_sem]) rfl (ScanR.err HV.out (HB2.out _))
theorem scan_at (s:ByteArray) (w:World) (hs:s.size≤100000):Calls Tryz.prog 43 #[.string s] w (ScanR s w):=by
 by_cases h:16384 < s.size
 ·exact scan_big s w hs h
 ·exact scan_inside s w (by omega)
end Go.Proofs.YtaojnljppcnhjaaGreatDoor
namespace Go.Proofs.YtaojnljppcnhjaaGreatDoor
open Go.RowKit
def SymsAt (w:World) (b:Nat):Prop:=b < w.heap.size∧∀i,i < 23→w.cell? ⟨b,i,none⟩=some (.string (S (syms.getD i [])))
theorem SymsAt.below {w w':World} {b:Nat} (h:SymsAt w b) (hb:Below w.heap.size w w'):SymsAt w' b:=⟨Nat.lt_of_lt_of_le h.1 hb.size,fun i hi=>keepk hb (h.2 i hi)⟩
theorem symbols_at (w:World):Calls Tryz.prog 96 #[] w fun e w'=>∃b,e=.returned (.slice (some ⟨b,0,none⟩) 23 23)∧SymsAt w' b∧Below w.heap.size w w':=by
 go_enter Tryz.func96,Tryz.ntmps96
 go_wp2
 go_ret
 refine ⟨w.heap.size,rfl,⟨by simp,fun i hi=>?_⟩,below1 _ _⟩
 rw [World.cell?_alloc_at _ _ _ _ rfl]
 match i,hi with
 | 0,_=>rfl
 | 1,_=>rfl
 | 2,_=>rfl
 | 3,_=>rfl
 | 4,_=>rfl
 | 5,_=>rfl
 | 6,_=>rfl
 | 7,_=>rfl
 | 8,_=>rfl
 | 9,_=>rfl
 | 10,_=>rfl
 | 11,_=>rfl
 | 12,_=>rfl
 | 13,_=>rfl
 | 14,_=>rfl
 | 15,_=>rfl
 | 16,_=>rfl
 | 17,_=>rfl
 | 18,_=>rfl
 | 19,_=>rfl
 | 20,_=>rfl
 | 21,_=>rfl
 | 22,_=>rfl
 | n+23,h=>omega
theorem step_no1 {l b x:List UInt8} (h:l.length < x.length):symStep l b x=b:=by
 rcases symStep_cases l b x with ⟨_,h1,_⟩|⟨h1,_⟩
 ·have:=h1.length_le;omega
 ·exact h1
theorem step_no2 {l b x:List UInt8} (h:l.take x.length≠x):symStep l b x=b:=by
 rcases symStep_cases l b x with ⟨_,h1,_⟩|⟨h1,_⟩
 ·exact absurd (List.prefix_iff_eq_take.1 h1).symm h
 ·exact h1
theorem step_no3 {l b x:List UInt8} (h:x.length≤b.length):symStep l b x=b:=by
 rcases symStep_cases l b x with ⟨_,_,h1⟩|⟨h1,_⟩
 ·omega
 ·exact h1
theorem step_yes {l b x:List UInt8} (h:l.take x.length=x) (h2:b.length < x.length):symStep l b x=x:=by
 rcases symStep_cases l b x with ⟨h1,_⟩|⟨_,h1⟩
 ·exact h1
 ·exact absurd ⟨by rw [←h];exact List.take_prefix _ _,h2⟩ h1
def symF (l:List UInt8) (i:Nat):List UInt8:=(syms.take i).foldl (symStep l) []
theorem symF_next (l:List UInt8) {i:Nat} (hi:i < 23):symF l (i+1)=symStep l (symF l i) (syms.getD i []):=by
 have hl:i < syms.length:=hi
 unfold symF
 rw [List.take_succ_eq_append_getElem hl,List.foldl_append,List.getD_eq_getElem?_getD,List.getElem?_eq_getElem hl]
 rfl
theorem symF_end (l:List UInt8):symF l 23=symP l:=rfl
theorem sym_short:∀i,i < 23→(syms.getD i []).length≤3:=by decide
set_option maxHeartbeats 4000000 in
set_option maxRecDepth 20000 in
theorem tr_symbol_loop (s:ByteArray) (q:Nat) (w:World) (hs:s.size≤100000) (hq:q≤s.size) :
  Calls Tryz.prog 73 #[.string s,.int .i64 (q:Int)] w fun e w'=>e=.returned (.string (S (symP (rest s q))))∧Below w.heap.size w w':=by
 have h1:¬s.size < q:=by omega
 have hl:=rest_len s q
 go_enter Tryz.func73,Tryz.ntmps73
 go_wp2_with (go_at_call 96;refine (symbols_at _).mono ?_;rintro e w1 ⟨b,rfl,hsy,hb1⟩)
 have HSY:=Lib.hid hsy
 have HB1:=Lib.hid hb1
 clear hsy hb1
 go_loopw [5,7] (fun z i wr=>∃(k:Nat) (x:List UInt8),k≤23∧i=.int .i64 (k:Int)∧z=.string (S x)∧Hid (symF (rest s q) k=x)∧Hid (SymsAt wr b)∧Hid (Below w.heap.size w wr)) (fun _ i _=>23 - (intOf i).toNat)
 case atStart=>exact ⟨0,[],by decide,rfl,rfl,Lib.hid rfl,HSY,HB1⟩
 case round =>
  obtain ⟨k,x,hk,rfl,rfl,HX,HS,HB⟩:=hrel
  have hxl:(S x).size=x.length:=by simp [ByteArray.size]
  by_cases hlt:k < 23
  ·have hlt':(k:Int) < 23:=by omega
   have hcell:=HS.out.2 k hlt
   have hb0:=HS.out.1
   have HN:=Lib.hid (symF_next (rest s q) hlt)
   have h3:=sym_short k hlt
   generalize syms.getD k []=y at hcell HN h3
   have hyl:(S y).size=y.length:=by simp [ByteArray.size]
   rw [HX.out] at HN
   have hw:IntKind.i64.wrap ((s.size:Int) - (q:Int))=(s.size:Int) - (q:Int):=IntWalk.i64_in _ (by omega)
   by_cases c1:y.length≤s.size - q
   ·have c1':(y.length:Int)≤(s.size:Int) - (q:Int):=by omega
    have HW2:Hid (IntKind.i64.wrap ((q:Int)+(y.length:Int))=(q:Int)+(y.length:Int)):=Lib.hid (IntWalk.i64_in _ (by omega))
    have hqy:(q:Int)≤(q:Int)+(y.length:Int):=by omega
    have hsz:(q:Int)+(y.length:Int)≤(s.size:Int):=by omega
    have eN:((q:Int)+(y.length:Int)).toNat=q+y.length:=by omega
    have hX:(s.extract q (q+y.length)).data.toList=(rest s q).take y.length:=by rw [extract_list,Nat.add_sub_cancel_left]
    by_cases c2:(rest s q).take y.length=y
    ·have c2':((s.extract q (q+y.length)).toList==y)=true:=by rw [raw_list,hX,c2];simp
     by_cases c3:x.length < y.length
     ·have HE:=Lib.hid (HN.out.trans (step_yes c2 c3))
      clear c2 hX
      go_wp2_with fail
      have hw2:=HW2.out
      go_quiet (fail)
      go_wp2_with fail
      go_roundw
      case rel=>exact ⟨k+1,_,by omega,by go_num,rfl,HE,Lib.hid (HS.out.below (below_drewN (Below.refl _ _) _)),Lib.hid (below_drewN HB.out _)⟩
      case measure=>simp [intOf];omega
     ·have HE:=Lib.hid (HN.out.trans (step_no3 (by omega)))
      clear c2 hX
      go_wp2_with fail
      have hw2:=HW2.out
      go_quiet (fail)
      go_wp2_with fail
      go_roundw
      case rel=>exact ⟨k+1,_,by omega,by go_num,rfl,HE,Lib.hid (HS.out.below (below_drewN (Below.refl _ _) _)),Lib.hid (below_drewN HB.out _)⟩
      case measure=>simp [intOf];omega
    ·have c2':((s.extract q (q+y.length)).toList==y)=false:=by rw [raw_list,hX];simpa using c2
     have HE:=Lib.hid (HN.out.trans (step_no2 c2))
     clear c2 hX
     go_wp2_with fail
     have hw2:=HW2.out
     go_quiet (fail)
     go_wp2_with fail
     go_roundw
     case rel=>exact ⟨k+1,_,by omega,by go_num,rfl,HE,Lib.hid (HS.out.below (below_drewN (Below.refl _ _) _)),Lib.hid (below_drewN HB.out _)⟩
     case measure=>simp [intOf];omega
   ·have HE:=Lib.hid (HN.out.trans (step_no1 (by omega)))
    have c1':decide ((y.length:Int)≤(s.size:Int) - (q:Int))=false:=by simp;omega
    have c1n:¬((y.length:Int)≤(s.size:Int) - (q:Int)):=by omega
    clear c1
    go_wp2_with fail
    go_quiet (fail)
    go_wp2_with fail
    go_roundw
    case rel=>exact ⟨k+1,_,by omega,by go_num,rfl,HE,Lib.hid (HS.out.below (below_drewN (Below.refl _ _) _)),Lib.hid (below_drewN HB.out _)⟩
    case measure=>simp [intOf];omega
  ·obtain rfl:k=23:=by omega
   have HE:=Lib.hid (show x=symP (rest s q) by rw [←HX.out,symF_end])
   go_wp2_with fail
   go_ret
   exact ⟨by rw [HE.out];rfl,HB.out⟩
end Go.Proofs.YtaojnljppcnhjaaGreatDoor
namespace Go.Proofs.YtaojnljppcnhjaaGreatDoor
open Go.RowKit
set_option maxHeartbeats 2000000 in
theorem tr_skip_at (s:ByteArray) (p:Nat) (w:World) (hs:s.size≤100000) (hp:p≤s.size) {n:Nat} (hn:skipP s p=n) :
  Calls Tryz.prog 68 #[.string s,.int .i64 (p:Int)] w fun e w'=>e=.returned (.int .i64 (n:Int))∧w=w':=by
 have QS:=Lib.hid tr_spc_at
 go_enter Tryz.func68,Tryz.ntmps68
 go_wp2
 go_loop [1] (fun i=>∃q:Nat,q≤s.size∧i=.int .i64 (q:Int)∧Hid (skipP s q=n)) (fun i=>s.size - (intOf i).toNat)
 case atStart=>exact ⟨p,hp,rfl,hn⟩
 case round =>
  obtain ⟨q,hq,rfl,hk⟩:=hrel
  by_cases hlt:q < s.size
  ·have hlt':(q:Int) < (s.size:Int):=by omega
   obtain ⟨b1,hb1⟩:∃b,spcB s[q]=b:=⟨_,rfl⟩
   have Q1:=Lib.hid (fun W=>QS.out s[q] W hb1)
   have HB:=Lib.hid hb1
   clear hb1
   cases b1
   ·by_cases h35:s[q]=35
    ·have h35':((s[q].toNat:Int)==35)=true:=byte_eq (b:=35) h35
     have HG:=Lib.hid (gap_note_at hlt h35)
     have H35:=Lib.hid h35
     clear h35
     go_wp2_with (go_at_call 95;refine (Q1.out _).mono ?_;rintro e w' ⟨rfl,rfl⟩)
     go_loop [1] (fun i=>∃m:Nat,q≤m∧m≤s.size∧i=.int .i64 (m:Int)∧Hid (gap true (rest s m)=gap false (rest s q))) (fun i=>s.size - (intOf i).toNat)
     case atStart=>exact ⟨q,Nat.le_refl _,hq,rfl,Lib.hid HG.out.symm⟩
     case round =>
      obtain ⟨m,hqm,hm,rfl,hkm⟩:=hrel
      by_cases hml:m < s.size
      ·have hml':(m:Int) < (s.size:Int):=by omega
       by_cases h10:s[m]=10
       ·have h10':((s[m].toNat:Int)==10)=true:=byte_eq (b:=10) h10
        have h10n:((s[m].toNat:Int) != 10)=false:=by simp [bne,h10']
        have HM:=Lib.hid (show q < m from by
         rcases Nat.lt_or_ge q m with h|h
         ·exact h
         ·obtain rfl:m=q:=by omega
          rw [H35.out] at h10;exact absurd h10 (by decide))
        have HN:=Lib.hid (show skipP s m=n by rw [←hk.out];exact skipP_same ((gap_note_end hml h10).symm.trans hkm.out))
        clear h10
        go_wp2
        have:=HM.out
        go_round
        case rel=>exact ⟨m,hm,rfl,HN⟩
        case measure=>simp [intOf];omega
       ·have h10':((s[m].toNat:Int)==10)=false:=byte_ne (b:=10) h10
        have h10n:((s[m].toNat:Int) != 10)=true:=by simp [bne,h10']
        have HN:=Lib.hid (show gap true (rest s (m+1))=gap false (rest s q) by rw [←gap_note_next hml h10];exact hkm.out)
        have hq1:¬(9223372036854775807 < (m:Int)+1):=by omega
        clear h10
        go_wp2
        go_round
        case rel=>exact ⟨m+1,by omega,by omega,by go_num,HN⟩
        case measure=>simp [intOf];omega
      ·obtain rfl:m=s.size:=by omega
       have HN:=Lib.hid (show skipP s s.size=n by rw [←hk.out];exact skipP_same ((gap_note_out (Nat.le_refl _)).symm.trans hkm.out))
       go_wp2
       go_round
       case rel=>exact ⟨s.size,Nat.le_refl _,rfl,HN⟩
       case measure=>simp [intOf];omega
    ·have h35':((s[q].toNat:Int)==35)=false:=byte_ne (b:=35) h35
     have HS:=Lib.hid (skipP_stop hq (gap_cons_stop hlt HB.out h35))
     clear h35
     go_wp2_with (go_at_call 95;refine (Q1.out _).mono ?_;rintro e w' ⟨rfl,rfl⟩)
     go_ret
     exact ⟨by rw [←hk.out,HS.out];rfl,rfl⟩
   ·have hq1:¬(9223372036854775807 < (q:Int)+1):=by omega
    go_wp2_with (go_at_call 95;refine (Q1.out _).mono ?_;rintro e w' ⟨rfl,rfl⟩)
    go_round
    case rel=>exact ⟨q+1,by omega,by go_num,by rw [←hk.out];exact (skipP_same (gap_cons_spc hlt HB.out)).symm⟩
    case measure=>simp [intOf];omega
  ·obtain rfl:q=s.size:=by omega
   have HS:=Lib.hid (skipP_stop hq (gap_at_end (Nat.le_refl s.size)))
   go_wp2
   go_ret
   exact ⟨by rw [←hk.out,HS.out];rfl,rfl⟩
set_option maxHeartbeats 1000000 in
theorem rvalue_at (s:ByteArray) (w:World) (hs:s.size≤100000) (hd:∀k (h:k < s.size),digB s[k]=true) {r:Int} (hr:valD s.data.toList=r) :
  Calls Tryz.prog 72 #[.string s] w fun e w'=>e=.returned (.int .i64 r)∧w=w':=by
 have HD:=Lib.hid hd
 have HR:=Lib.hid hr
 clear hd hr
 go_enter Tryz.func72,Tryz.ntmps72
 go_wp2
 go_loop [3,4] (fun v i=>∃(k:Nat) (x:Int),k≤s.size∧i=.int .i64 (k:Int)∧v=.int .i64 x∧0≤x∧x≤2147483649∧Hid (valD (s.data.toList.take k)=x)) (fun _ i=>s.size - (intOf i).toNat)
 case atStart=>exact ⟨0,0,Nat.zero_le _,rfl,rfl,by decide,by decide,Lib.hid rfl⟩
 case round =>
  obtain ⟨k,x,hk,rfl,rfl,hx0,hx1,hv⟩:=hrel
  by_cases hlt:k < s.size
  ·have hlt':(k:Int) < (s.size:Int):=by omega
   obtain ⟨d1,d2⟩:=dig_range (HD.out k hlt)
   have hm:valD (s.data.toList.take (k+1))=min (x*10+(s[k].toNat - 48:Int)) 2147483649:=valD_step hlt hv.out
   by_cases hbig:2147483649 < x*10+((s[k].toNat:Int) - 48)
   ·have HV:=Lib.hid (show valD (s.data.toList.take (k+1))=2147483649 by rw [hm];omega)
    clear hm
    go_wp2
    go_round
    case rel=>exact ⟨k+1,_,by omega,by go_num,rfl,by decide,by decide,HV⟩
    case measure=>simp [intOf];omega
   ·have HV:=Lib.hid (show valD (s.data.toList.take (k+1))=x*10+((s[k].toNat:Int) - 48) by rw [hm];omega)
    clear hm
    go_wp2
    go_round
    case rel=>exact ⟨k+1,_,by omega,by go_num,rfl,by omega,by omega,HV⟩
    case measure=>simp [intOf];omega
  ·obtain rfl:k=s.size:=by omega
   have HV:=Lib.hid (show x=r by rw [←HR.out,← take_all s,hv.out])
   go_wp2
   go_ret
   exact ⟨by rw [HV.out];rfl,rfl⟩
end Go.Proofs.YtaojnljppcnhjaaGreatDoor
namespace Go.Proofs.YtaojnljppcnhjaaGreatDoor
open Go.RowKit
abbrev zbox:Obj:=.cells #[.int .i64 0,.int .i64 0,.string ⟨#[]⟩] 67
theorem word_in (c:UInt8):inB c=(wordyB c||digB c):=by
 unfold inB wordyB
 cases lowB c<;>cases uppB c<;>cases digB c<;>cases undB c<;>rfl
section
variable (s:ByteArray) (p q:Nat) (w:World) (hs:s.size≤16384) (hp:p≤s.size) (hq:q≤s.size)
 (QS:Hid (∀W,Calls Tryz.prog 68 #[.string s,.int .i64 (p:Int)] W fun e w'=>e=.returned (.int .i64 (q:Int))∧W=w'))
include hs hp QS
set_option maxHeartbeats 1000000 in
theorem rn_end (h:q=s.size) :
  Calls Tryz.prog 42 #[.string s,.int .i64 (p:Int)] w fun e w'=>e=.returned (nextV ((0,s.size,[]),s.size,0))∧Below w.heap.size w w':=by
 subst h
 have h0:decide ((p:Int) < 0)=false:=by simp
 have h1:¬s.size < p:=by omega
 have h2:decide ((16384:Int) < (s.size:Int))=false:=by simp;omega
 have HX:=Lib.hid (extract_none s s.size)
 go_enter Tryz.func42,Tryz.ntmps42
 go_wp2_with (go_at_call 68;refine (QS.out _).mono ?_;rintro e w' ⟨rfl,rfl⟩)
 exact bodyPost_ret (v:=.tuple #[.agg #[.int .i64 0,.int .i64 (s.size:Int),.string (s.extract s.size s.size)],.int .i64 (s.size:Int),.int .i64 0]) (by simp [results,Tryz.results42,go_sem]) rfl ⟨by rw [HX.out],below1 _ _⟩
set_option maxHeartbeats 4000000 in
theorem rn_word (h:q < s.size) (hwy:wordyB s[q]=true) :
  Calls Tryz.prog 42 #[.string s,.int .i64 (p:Int)] w fun e w'=>e=.returned (nextV (if 40 < runP inB s q then ((0,0,[]),q,7) else ((if lowB s[q]=true then 1 else 2,q,(rest s q).takeWhile inB),q+runP inB s q,0)))∧Below w.heap.size w w':=by
 have h0:decide ((p:Int) < 0)=false:=by simp
 have h1:¬s.size < p:=by omega
 have h2:decide ((16384:Int) < (s.size:Int))=false:=by simp;omega
 have hq':(q:Int) < (s.size:Int):=by omega
 have he:((q:Int)==(s.size:Int))=false:=by simp;omega
 have QL:=Lib.hid tr_low_at
 have QU:=Lib.hid tr_upp_at
 have QD:=Lib.hid tr_dig_at
 obtain ⟨b,hb⟩:∃b,lowB s[q]=b:=⟨_,rfl⟩
 have Q1:=Lib.hid (fun W=>tr_low_at s[q] W hb)
 have hup:b=false→(uppB s[q]||undB s[q])=true:=fun e=>by subst e;simpa [wordyB,hb] using hwy
 rw [hb]
 generalize hr:runP inB s q=n
 have HX:=Lib.hid (show s.extract q (q+n)=S ((rest s q).takeWhile inB) by rw [←hr];exact runP_text inB s q)
 have HL:=Lib.hid (show q+n≤s.size by rw [←hr];exact runP_le (by omega))
 have HR:=Lib.hid hr
 generalize hv:(if 40 < n then (((0,0,[]),q,7):Tk×Nat×Int) else ((if b=true then 1 else 2,q,(rest s q).takeWhile inB),q+n,0))=v
 have HV1:Hid (40 < n→v=((0,0,[]),q,7)):=Lib.hid (fun h=>by rw [←hv,if_pos h])
 have HV2:Hid (¬40 < n→v=((if b=true then 1 else 2,q,(rest s q).takeWhile inB),q+n,0)):=Lib.hid (fun h=>by rw [←hv,if_neg h])
 clear hb hwy hr hv
 cases b
 ·have Q2:=Lib.hid (fun W=>tr_upp_at s[q] W (hup rfl))
  clear hup
  go_enter Tryz.func42,Tryz.ntmps42
  go_wp2_with (first|(go_at_call 68;refine (QS.out _).mono ?_;rintro e w' ⟨rfl,rfl⟩)|(go_at_call 69;refine (Q1.out _).mono ?_;rintro e w' ⟨rfl,rfl⟩)|(go_at_call 70;refine (Q2.out _).mono ?_;rintro e w' ⟨rfl,rfl⟩))
  clear Q1
  go_loop [7] (fun i=>∃m:Nat,q≤m∧m≤s.size∧i=.int .i64 (m:Int)∧Hid (m+runP inB s m=q+n)) (fun i=>s.size - (intOf i).toNat)
  case atStart=>exact ⟨q,Nat.le_refl _,by omega,rfl,Lib.hid (by rw [HR.out])⟩
  case round =>
   obtain ⟨m,hqm,hm,rfl,hk⟩:=hrel
   by_cases hlt:m < s.size
   ·have hlt':(m:Int) < (s.size:Int):=by omega
    obtain ⟨b1,hb1⟩:∃b,lowB s[m]=b:=⟨_,rfl⟩
    obtain ⟨b2,hb2⟩:∃b,(uppB s[m]||undB s[m])=b:=⟨_,rfl⟩
    obtain ⟨b3,hb3⟩:∃b,digB s[m]=b:=⟨_,rfl⟩
    have HI:=Lib.hid (show inB s[m]=(b1||b2||b3) by rw [word_in,wordyB,hb1,hb2,hb3])
    have P1:=Lib.hid (fun W=>QL.out s[m] W hb1)
    have P2:=Lib.hid (fun W=>QU.out s[m] W hb2)
    have P3:=Lib.hid (fun W=>QD.out s[m] W hb3)
    clear hb1 hb2 hb3
    by_cases hall:(b1||b2||b3)=true
    ·have HE:=Lib.hid (show (m+1)+runP inB s (m+1)=q+n by have:=hk.out;rw [runP_next hlt (by rw [HI.out];exact hall)] at this;omega)
     have hq1:¬(9223372036854775807 < (m:Int)+1):=by omega
     clear HI
     cases b1
     ·cases b2
      ·cases b3
       ·cases hall
       ·clear hall
        go_wp2_with (first|(go_at_call 69;refine (P1.out _).mono ?_;rintro e w' ⟨rfl,rfl⟩)|(go_at_call 70;refine (P2.out _).mono ?_;rintro e w' ⟨rfl,rfl⟩)|(go_at_call 71;refine (P3.out _).mono ?_;rintro e w' ⟨rfl,rfl⟩))
        go_round
        case rel=>exact ⟨m+1,by omega,by omega,by go_num,HE.out⟩
        case measure=>simp [intOf];omega
      ·clear hall
       go_wp2_with (first|(go_at_call 69;refine (P1.out _).mono ?_;rintro e w' ⟨rfl,rfl⟩)|(go_at_call 70;refine (P2.out _).mono ?_;rintro e w' ⟨rfl,rfl⟩)|(go_at_call 71;refine (P3.out _).mono ?_;rintro e w' ⟨rfl,rfl⟩))
       go_round
       case rel=>exact ⟨m+1,by omega,by omega,by go_num,HE.out⟩
       case measure=>simp [intOf];omega
     ·clear hall
      go_wp2_with (first|(go_at_call 69;refine (P1.out _).mono ?_;rintro e w' ⟨rfl,rfl⟩)|(go_at_call 70;refine (P2.out _).mono ?_;rintro e w' ⟨rfl,rfl⟩)|(go_at_call 71;refine (P3.out _).mono ?_;rintro e w' ⟨rfl,rfl⟩))
      go_round
      case rel=>exact ⟨m+1,by omega,by omega,by go_num,HE.out⟩
      case measure=>simp [intOf];omega
    ·obtain ⟨rfl,rfl,rfl⟩:b1=false∧b2=false∧b3=false:=by revert hall;cases b1<;>cases b2<;>cases b3<;>simp
     have HE:=Lib.hid (show m=q+n by have:=hk.out;rw [runP_stop (fun _=>HI.out)] at this;exact this)
     clear hall HI
     have hsub:(m:Int) - (q:Int)=(n:Int):=by have:=HE.out;omega
     have hqm':(q:Int)≤(m:Int):=by omega
     by_cases h40:40 < n
     ·have h40':(40:Int) < (n:Int):=by omega
      have HV:=Lib.hid (HV1.out h40)
      clear h40
      go_wp2_with (first|(go_at_call 69;refine (P1.out _).mono ?_;rintro e w' ⟨rfl,rfl⟩)|(go_at_call 70;refine (P2.out _).mono ?_;rintro e w' ⟨rfl,rfl⟩)|(go_at_call 71;refine (P3.out _).mono ?_;rintro e w' ⟨rfl,rfl⟩))
      exact bodyPost_ret (v:=.tuple #[.agg #[.int .i64 0,.int .i64 0,.string ⟨#[]⟩],.int .i64 (q:Int),.int .i64 7]) (by simp [results,Tryz.results42,go_sem]) rfl ⟨by rw [HV.out];rfl,below1 _ _⟩
     ·have h40':decide ((40:Int) < (n:Int))=false:=by simp;omega
      have HV:=Lib.hid (HV2.out h40)
      have hms:(m:Int)≤(s.size:Int):=by omega
      clear h40
      go_wp2_with (first|(go_at_call 69;refine (P1.out _).mono ?_;rintro e w' ⟨rfl,rfl⟩)|(go_at_call 70;refine (P2.out _).mono ?_;rintro e w' ⟨rfl,rfl⟩)|(go_at_call 71;refine (P3.out _).mono ?_;rintro e w' ⟨rfl,rfl⟩))
      exact bodyPost_ret (v:=.tuple #[.agg #[.int .i64 2,.int .i64 (q:Int),.string (s.extract q m)],.int .i64 (m:Int),.int .i64 0]) (by simp [results,Tryz.results42,go_sem]) rfl ⟨by rw [HV.out,HE.out,HX.out];rfl,below1 _ _⟩
   ·have HE:=Lib.hid (show m=q+n by have:=hk.out;rw [runP_stop (fun h=>absurd h hlt)] at this;exact this)
    have hsub:(m:Int) - (q:Int)=(n:Int):=by have:=HE.out;omega
    have hqm':(q:Int)≤(m:Int):=by omega
    have hmd:decide ((m:Int) < (s.size:Int))=false:=by simp;omega
    by_cases h40:40 < n
    ·have h40':(40:Int) < (n:Int):=by omega
     have HV:=Lib.hid (HV1.out h40)
     clear h40
     go_wp2_with fail
     exact bodyPost_ret (v:=.tuple #[.agg #[.int .i64 0,.int .i64 0,.string ⟨#[]⟩],.int .i64 (q:Int),.int .i64 7]) (by simp [results,Tryz.results42,go_sem]) rfl ⟨by rw [HV.out];rfl,below1 _ _⟩
    ·have h40':decide ((40:Int) < (n:Int))=false:=by simp;omega
     have HV:=Lib.hid (HV2.out h40)
     have hms:(m:Int)≤(s.size:Int):=by omega
     clear h40
     go_wp2_with fail
     exact bodyPost_ret (v:=.tuple #[.agg #[.int .i64 2,.int .i64 (q:Int),.string (s.extract q m)],.int .i64 (m:Int),.int .i64 0]) (by simp [results,Tryz.results42,go_sem]) rfl ⟨by rw [HV.out,HE.out,HX.out];rfl,below1 _ _⟩
 ·clear hup
  go_enter Tryz.func42,Tryz.ntmps42
  go_wp2_with (first|(go_at_call 68;refine (QS.out _).mono ?_;rintro e w' ⟨rfl,rfl⟩)|(go_at_call 69;refine (Q1.out _).mono ?_;rintro e w' ⟨rfl,rfl⟩)|(go_at_call 70;refine (QU.out _).mono ?_;rintro e w' ⟨rfl,rfl⟩))
  clear Q1
  go_loop [7] (fun i=>∃m:Nat,q≤m∧m≤s.size∧i=.int .i64 (m:Int)∧Hid (m+runP inB s m=q+n)) (fun i=>s.size - (intOf i).toNat)
  case atStart=>exact ⟨q,Nat.le_refl _,by omega,rfl,Lib.hid (by rw [HR.out])⟩
  case round =>
   obtain ⟨m,hqm,hm,rfl,hk⟩:=hrel
   by_cases hlt:m < s.size
   ·have hlt':(m:Int) < (s.size:Int):=by omega
    obtain ⟨b1,hb1⟩:∃b,lowB s[m]=b:=⟨_,rfl⟩
    obtain ⟨b2,hb2⟩:∃b,(uppB s[m]||undB s[m])=b:=⟨_,rfl⟩
    obtain ⟨b3,hb3⟩:∃b,digB s[m]=b:=⟨_,rfl⟩
    have HI:=Lib.hid (show inB s[m]=(b1||b2||b3) by rw [word_in,wordyB,hb1,hb2,hb3])
    have P1:=Lib.hid (fun W=>QL.out s[m] W hb1)
    have P2:=Lib.hid (fun W=>QU.out s[m] W hb2)
    have P3:=Lib.hid (fun W=>QD.out s[m] W hb3)
    clear hb1 hb2 hb3
    by_cases hall:(b1||b2||b3)=true
    ·have HE:=Lib.hid (show (m+1)+runP inB s (m+1)=q+n by have:=hk.out;rw [runP_next hlt (by rw [HI.out];exact hall)] at this;omega)
     have hq1:¬(9223372036854775807 < (m:Int)+1):=by omega
     clear HI
     cases b1
     ·cases b2
      ·cases b3
       ·cases hall
       ·clear hall
        go_wp2_with (first|(go_at_call 69;refine (P1.out _).mono ?_;rintro e w' ⟨rfl,rfl⟩)|(go_at_call 70;refine (P2.out _).mono ?_;rintro e w' ⟨rfl,rfl⟩)|(go_at_call 71;refine (P3.out _).mono ?_;rintro e w' ⟨rfl,rfl⟩))
        go_round
        case rel=>exact ⟨m+1,by omega,by omega,by go_num,HE.out⟩
        case measure=>simp [intOf];omega
      ·clear hall
       go_wp2_with (first|(go_at_call 69;refine (P1.out _).mono ?_;rintro e w' ⟨rfl,rfl⟩)|(go_at_call 70;refine (P2.out _).mono ?_;rintro e w' ⟨rfl,rfl⟩)|(go_at_call 71;refine (P3.out _).mono ?_;rintro e w' ⟨rfl,rfl⟩))
       go_round
       case rel=>exact ⟨m+1,by omega,by omega,by go_num,HE.out⟩
       case measure=>simp [intOf];omega
     ·clear hall
      go_wp2_with (first|(go_at_call 69;refine (P1.out _).mono ?_;rintro e w' ⟨rfl,rfl⟩)|(go_at_call 70;refine (P2.out _).mono ?_;rintro e w' ⟨rfl,rfl⟩)|(go_at_call 71;refine (P3.out _).mono ?_;rintro e w' ⟨rfl,rfl⟩))
      go_round
      case rel=>exact ⟨m+1,by omega,by omega,by go_num,HE.out⟩
      case measure=>simp [intOf];omega
    ·obtain ⟨rfl,rfl,rfl⟩:b1=false∧b2=false∧b3=false:=by revert hall;cases b1<;>cases b2<;>cases b3<;>simp
     have HE:=Lib.hid (show m=q+n by have:=hk.out;rw [runP_stop (fun _=>HI.out)] at this;exact this)
     clear hall HI
     have hsub:(m:Int) - (q:Int)=(n:Int):=by have:=HE.out;omega
     have hqm':(q:Int)≤(m:Int):=by omega
     by_cases h40:40 < n
     ·have h40':(40:Int) < (n:Int):=by omega
      have HV:=Lib.hid (HV1.out h40)
      clear h40
      go_wp2_with (first|(go_at_call 69;refine (P1.out _).mono ?_;rintro e w' ⟨rfl,rfl⟩)|(go_at_call 70;refine (P2.out _).mono ?_;rintro e w' ⟨rfl,rfl⟩)|(go_at_call 71;refine (P3.out _).mono ?_;rintro e w' ⟨rfl,rfl⟩))
      exact bodyPost_ret (v:=.tuple #[.agg #[.int .i64 0,.int .i64 0,.string ⟨#[]⟩],.int .i64 (q:Int),.int .i64 7]) (by simp [results,Tryz.results42,go_sem]) rfl ⟨by rw [HV.out];rfl,below1 _ _⟩
     ·have h40':decide ((40:Int) < (n:Int))=false:=by simp;omega
      have HV:=Lib.hid (HV2.out h40)
      have hms:(m:Int)≤(s.size:Int):=by omega
      clear h40
      go_wp2_with (first|(go_at_call 69;refine (P1.out _).mono ?_;rintro e w' ⟨rfl,rfl⟩)|(go_at_call 70;refine (P2.out _).mono ?_;rintro e w' ⟨rfl,rfl⟩)|(go_at_call 71;refine (P3.out _).mono ?_;rintro e w' ⟨rfl,rfl⟩))
      exact bodyPost_ret (v:=.tuple #[.agg #[.int .i64 1,.int .i64 (q:Int),.string (s.extract q m)],.int .i64 (m:Int),.int .i64 0]) (by simp [results,Tryz.results42,go_sem]) rfl ⟨by rw [HV.out,HE.out,HX.out];rfl,below1 _ _⟩
   ·have HE:=Lib.hid (show m=q+n by have:=hk.out;rw [runP_stop (fun h=>absurd h hlt)] at this;exact this)
    have hsub:(m:Int) - (q:Int)=(n:Int):=by have:=HE.out;omega
    have hqm':(q:Int)≤(m:Int):=by omega
    have hmd:decide ((m:Int) < (s.size:Int))=false:=by simp;omega
    by_cases h40:40 < n
    ·have h40':(40:Int) < (n:Int):=by omega
     have HV:=Lib.hid (HV1.out h40)
     clear h40
     go_wp2_with fail
     exact bodyPost_ret (v:=.tuple #[.agg #[.int .i64 0,.int .i64 0,.string ⟨#[]⟩],.int .i64 (q:Int),.int .i64 7]) (by simp [results,Tryz.results42,go_sem]) rfl ⟨by rw [HV.out];rfl,below1 _ _⟩
    ·have h40':decide ((40:Int) < (n:Int))=false:=by simp;omega
     have HV:=Lib.hid (HV2.out h40)
     have hms:(m:Int)≤(s.size:Int):=by omega
     clear h40
     go_wp2_with fail
     exact bodyPost_ret (v:=.tuple #[.agg #[.int .i64 1,.int .i64 (q:Int),.string (s.extract q m)],.int .i64 (m:Int),.int .i64 0]) (by simp [results,Tryz.results42,go_sem]) rfl ⟨by rw [HV.out,HE.out,HX.out];rfl,below1 _ _⟩
end
end Go.Proofs.YtaojnljppcnhjaaGreatDoor
