/-
  TrNext2.
  TrTokens.
  SySpread.
-/
import Derived.Test.YtaojnljppcnhjaaGreatDoorMf12
import Derived.Test.YtaojnljppcnhjaaGreatDoorMf10
import Derived.Test.YtaojnljppcnhjaaGreatDoorMf3
namespace Go.Proofs.YtaojnljppcnhjaaGreatDoor
open Go.RowKit
section
variable (s:ByteArray) (p q:Nat) (w:World) (hs:s.size≤16384) (hp:p≤s.size) (hq:q≤s.size)
 (QS:Hid (∀W,Calls Tryz.prog 68 #[.string s,.int .i64 (p:Int)] W fun e w'=>e=.returned (.int .i64 (q:Int))∧W=w'))
include hs hp QS
set_option maxHeartbeats 4000000 in
theorem rn_int (h:q < s.size) (hwy:wordyB s[q]=false) (hdi:digB s[q]=true) :
  Calls Tryz.prog 42 #[.string s,.int .i64 (p:Int)] w fun e w'=>e=.returned (nextV (if 2147483648 < valD ((rest s q).takeWhile digB) then ((0,0,[]),q,5) else ((3,q,(rest s q).takeWhile digB),q+runP digB s q,0)))∧Below w.heap.size w w':=by
 have h0:decide ((p:Int) < 0)=false:=by simp
 have h1:¬s.size < p:=by omega
 have h2:decide ((16384:Int) < (s.size:Int))=false:=by simp;omega
 have hq':(q:Int) < (s.size:Int):=by omega
 have he:((q:Int)==(s.size:Int))=false:=by simp;omega
 have QD:=Lib.hid tr_dig_at
 have hwy2:=hwy
 simp only [wordyB,Bool.or_eq_false_iff] at hwy2
 have Q1:=Lib.hid (fun W=>tr_low_at s[q] W hwy2.1)
 have Q2:=Lib.hid (fun W=>tr_upp_at s[q] W (show (uppB s[q]||undB s[q])=false by rw [hwy2.2.1,hwy2.2.2];rfl))
 have Q3:=Lib.hid (fun W=>tr_dig_at s[q] W hdi)
 generalize hr:runP digB s q=n
 have hx:s.extract q (q+n)=S ((rest s q).takeWhile digB):=by rw [←hr];exact runP_text digB s q
 have HX:=Lib.hid hx
 have HL:=Lib.hid (show q+n≤s.size by rw [←hr];exact runP_le (by omega))
 have HR:=Lib.hid hr
 generalize hy:(rest s q).takeWhile digB=y at hx HX
 have ha:∀c∈(s.extract q (q+n)).data.toList,digB c=true:=by
  rw [hx,← hy];exact while_all _ _
 have hd:∀k (h:k < (s.extract q (q+n)).size),digB (s.extract q (q+n))[k]=true:=fun k h=>ha _ (by
  have hl:k < (s.extract q (q+n)).data.toList.length:=by rw [len_str];exact h
  exact List.getElem_mem hl)
 have hsz:(s.extract q (q+n)).size≤100000:=by
  have:=HL.out
  rw [ByteArray.size_extract];omega
 generalize hz:valD y=z
 have QV:=Lib.hid (fun W=>rvalue_at (s.extract q (q+n)) W hsz hd (r:=z) (by rw [hx];exact hz))
 generalize hv:(if 2147483648 < z then (((0,0,[]),q,5):Tk×Nat×Int) else ((3,q,y),q+n,0))=v
 have HV1:Hid (2147483648 < z→v=((0,0,[]),q,5)):=Lib.hid (fun h=>by rw [←hv,if_pos h])
 have HV2:Hid (¬2147483648 < z→v=((3,q,y),q+n,0)):=Lib.hid (fun h=>by rw [←hv,if_neg h])
 clear hr hv hwy hwy2 hdi hx hy ha hd hsz hz
 go_enter Tryz.func42,Tryz.ntmps42
 go_wp2_with (first|(go_at_call 68;refine (QS.out _).mono ?_;rintro e w' ⟨rfl,rfl⟩)|(go_at_call 69;refine (Q1.out _).mono ?_;rintro e w' ⟨rfl,rfl⟩)|(go_at_call 70;refine (Q2.out _).mono ?_;rintro e w' ⟨rfl,rfl⟩)|(go_at_call 71;refine (Q3.out _).mono ?_;rintro e w' ⟨rfl,rfl⟩))
 go_loop [7] (fun i=>∃m:Nat,q≤m∧m≤s.size∧i=.int .i64 (m:Int)∧Hid (m+runP digB s m=q+n)) (fun i=>s.size - (intOf i).toNat)
 case atStart=>exact ⟨q,Nat.le_refl _,by omega,rfl,Lib.hid (by rw [HR.out])⟩
 case round =>
  obtain ⟨m,hqm,hm,rfl,hk⟩:=hrel
  by_cases hlt:m < s.size
  ·have hlt':(m:Int) < (s.size:Int):=by omega
   obtain ⟨b3,hb3⟩:∃b,digB s[m]=b:=⟨_,rfl⟩
   have P3:=Lib.hid (fun W=>QD.out s[m] W hb3)
   have HB:=Lib.hid hb3
   clear hb3
   cases b3
   ·have HE:=Lib.hid (show m=q+n by have:=hk.out;rw [runP_stop (fun _=>HB.out)] at this;exact this)
    obtain rfl:=HE.out
    by_cases h40:2147483648 < z
    ·have HV:=Lib.hid (HV1.out h40)
     have hqs:(q:Int)≤(q:Int)+(n:Int):=by omega
     go_wp2_with (first|(go_at_call 71;refine (P3.out _).mono ?_;rintro e w' ⟨rfl,rfl⟩)|(go_at_call 72;refine (QV.out _).mono ?_;rintro e w' ⟨rfl,rfl⟩))
     exact bodyPost_ret (v:=.tuple #[.agg #[.int .i64 0,.int .i64 0,.string ⟨#[]⟩],.int .i64 (q:Int),.int .i64 5]) (by simp [results,Tryz.results42,go_sem]) rfl ⟨by rw [HV.out];rfl,below1 _ _⟩
    ·have h40':decide (2147483648 < z)=false:=by simpa using h40
     have HV:=Lib.hid (HV2.out (by omega))
     clear h40
     go_wp2_with (first|(go_at_call 71;refine (P3.out _).mono ?_;rintro e w' ⟨rfl,rfl⟩)|(go_at_call 72;refine (QV.out _).mono ?_;rintro e w' ⟨rfl,rfl⟩))
     exact bodyPost_ret (v:=.tuple #[.agg #[.int .i64 3,.int .i64 (q:Int),.string (s.extract q (q+n))],.int .i64 ((q+n:Nat):Int),.int .i64 0]) (by simp [results,Tryz.results42,go_sem]) rfl ⟨by rw [HV.out,HX.out],below1 _ _⟩
   ·have HE:=Lib.hid (show (m+1)+runP digB s (m+1)=q+n by have:=hk.out;rw [runP_next hlt HB.out] at this;omega)
    have hq1:¬(9223372036854775807 < (m:Int)+1):=by omega
    go_wp2_with (go_at_call 71;refine (P3.out _).mono ?_;rintro e w' ⟨rfl,rfl⟩)
    go_round
    case rel=>exact ⟨m+1,by omega,by omega,by go_num,HE.out⟩
    case measure=>simp [intOf];omega
  ·have HE:=Lib.hid (show m=q+n by have:=hk.out;rw [runP_stop (fun h=>absurd h hlt)] at this;exact this)
   have hmd:decide ((m:Int) < (s.size:Int))=false:=by simp;omega
   obtain rfl:=HE.out
   by_cases h40:2147483648 < z
   ·have HV:=Lib.hid (HV1.out h40)
    have hqs:(q:Int)≤(q:Int)+(n:Int):=by omega
    go_wp2_with (go_at_call 72;refine (QV.out _).mono ?_;rintro e w' ⟨rfl,rfl⟩)
    exact bodyPost_ret (v:=.tuple #[.agg #[.int .i64 0,.int .i64 0,.string ⟨#[]⟩],.int .i64 (q:Int),.int .i64 5]) (by simp [results,Tryz.results42,go_sem]) rfl ⟨by rw [HV.out];rfl,below1 _ _⟩
   ·have h40':decide (2147483648 < z)=false:=by simpa using h40
    have HV:=Lib.hid (HV2.out (by omega))
    clear h40
    go_wp2_with (go_at_call 72;refine (QV.out _).mono ?_;rintro e w' ⟨rfl,rfl⟩)
    exact bodyPost_ret (v:=.tuple #[.agg #[.int .i64 3,.int .i64 (q:Int),.string (s.extract q (q+n))],.int .i64 ((q+n:Nat):Int),.int .i64 0]) (by simp [results,Tryz.results42,go_sem]) rfl ⟨by rw [HV.out,HX.out],below1 _ _⟩
set_option maxHeartbeats 4000000 in
theorem rn_sym (h:q < s.size) (hwy:wordyB s[q]=false) (hdi:digB s[q]=false) :
  Calls Tryz.prog 42 #[.string s,.int .i64 (p:Int)] w fun e w'=>e=.returned (nextV (if symP (rest s q)=[] then ((0,0,[]),q,16) else ((4,q,symP (rest s q)),q+(symP (rest s q)).length,0)))∧Below w.heap.size w w':=by
 have h0:decide ((p:Int) < 0)=false:=by simp
 have h1:¬s.size < p:=by omega
 have h2:decide ((16384:Int) < (s.size:Int))=false:=by simp;omega
 have hq':(q:Int) < (s.size:Int):=by omega
 have he:((q:Int)==(s.size:Int))=false:=by simp;omega
 have hwy2:=hwy
 simp only [wordyB,Bool.or_eq_false_iff] at hwy2
 have Q1:=Lib.hid (fun W=>tr_low_at s[q] W hwy2.1)
 have Q2:=Lib.hid (fun W=>tr_upp_at s[q] W (show (uppB s[q]||undB s[q])=false by rw [hwy2.2.1,hwy2.2.2];rfl))
 have Q3:=Lib.hid (fun W=>tr_dig_at s[q] W hdi)
 have Q4:=Lib.hid (fun W=>tr_symbol_loop s q W (by omega) (by omega))
 have HX:=Lib.hid (symP_text s q)
 have hle:=symP_le (s:=s) (q:=q) (by omega)
 generalize symP (rest s q)=x at Q4 HX hle
 have hxl:(S x).size=x.length:=by simp [ByteArray.size]
 have h63:¬(9223372036854775807 < (q:Int)+(x.length:Int)):=by omega
 generalize hv:(if x=[] then (((0,0,[]),q,16):Tk×Nat×Int) else ((4,q,x),q+x.length,0))=v
 have HV1:Hid (x=[]→v=((0,0,[]),q,16)):=Lib.hid (fun h=>by rw [←hv,if_pos h])
 have HV2:Hid (¬x=[]→v=((4,q,x),q+x.length,0)):=Lib.hid (fun h=>by rw [←hv,if_neg h])
 clear hwy hwy2 hdi hv
 go_enter Tryz.func42,Tryz.ntmps42
 go_wp2_with (first|(go_at_call 68;refine (QS.out _).mono ?_;rintro e w' ⟨rfl,rfl⟩)|(go_at_call 69;refine (Q1.out _).mono ?_;rintro e w' ⟨rfl,rfl⟩)|(go_at_call 70;refine (Q2.out _).mono ?_;rintro e w' ⟨rfl,rfl⟩)|(go_at_call 71;refine (Q3.out _).mono ?_;rintro e w' ⟨rfl,rfl⟩))
 refine (Q4.out _).mono ?_
 rintro e w1 ⟨rfl,hb⟩
 obtain ⟨e0,e1,e2,hb1⟩:=box3 hb
 have f:∀j,w1.frozen? ⟨w.heap.size,j,none⟩=false:=fun j=>by
  rw [hb.frozen (p:=⟨w.heap.size,j,none⟩) (by simp),World.frozen?_alloc_at _ _ _ _ rfl]
 have f0:=f 0
 have f1:=f 1
 have f2:=f 2
 have HB:=Lib.hid hb1
 clear hb hb1 f
 by_cases hx:x=[]
 ·have HV:=Lib.hid (HV1.out hx)
  subst hx
  go_wp2_with fail
  exact bodyPost_ret (v:=.tuple #[.agg #[.int .i64 0,.int .i64 0,.string ⟨#[]⟩],.int .i64 (q:Int),.int .i64 16]) (by simp [results,Tryz.results42,go_sem,e0,e1,e2]) rfl ⟨by rw [HV.out];rfl,((HB.out.setCell (Nat.le_refl _) _).setCell (Nat.le_refl _) _).setCell (Nat.le_refl _) _⟩
 ·have HV:=Lib.hid (HV2.out hx)
  have hx0:0 < x.length:=by
   cases x with
   | nil=>exact absurd rfl hx
   | cons a r=>simp
  have hne:((q:Int)+(x.length:Int)==(q:Int))=false:=by simp;omega
  have eN:((q:Int)+(x.length:Int)).toNat=q+x.length:=by omega
  have hsz:(q:Int)+(x.length:Int)≤(s.size:Int):=by omega
  clear hx0
  go_wp2_with fail
  exact bodyPost_ret (v:=.tuple #[.agg #[.int .i64 4,.int .i64 (q:Int),.string (s.extract q (q+x.length))],.int .i64 ((q:Int)+(x.length:Int)),.int .i64 0]) (by simp [results,Tryz.results42,go_sem,e0,e1,e2]) rfl ⟨by rw [HV.out,HX.out];rfl,((HB.out.setCell (Nat.le_refl _) _).setCell (Nat.le_refl _) _).setCell (Nat.le_refl _) _⟩
end
theorem tr_next_in (s:ByteArray) (p:Nat) (w:World) (hs:s.size≤16384) (hp:p≤s.size) :
  Calls Tryz.prog 42 #[.string s,.int .i64 (p:Int)] w fun e w'=>e=.returned (nextV (tokAt s p))∧Below w.heap.size w w':=by
 obtain ⟨f1,f2,f3⟩:=skipP_facts hp
 have hg:=f3.symm
 generalize hqd:skipP s p=q at f1 f2 f3 hg
 have QS:=Lib.hid (fun W=>tr_skip_at s p W (by omega) hp hqd)
 rcases Nat.lt_or_ge q s.size with hq|hq
 ·have hc:=rest_cons hq
  cases hwy:wordyB s[q] with
  | true =>
   have htok:tokL (gap false (rest s p))=if 40 < runP inB s q then (0,[],7) else (if lowB s[q]=true then 1 else 2,(rest s q).takeWhile inB,0):=by
    rw [hg,hc,tok_word hwy,← hc];rfl
   have:=rn_word s p q w hs hp QS hq hwy
   by_cases h40:40 < runP inB s q
   ·rw [if_pos h40] at htok this
    rw [tokAt_err hqd htok (by decide)]
    exact this
   ·rw [if_neg h40] at htok this
    rw [tokAt_ok hqd htok]
    exact this
  | false =>
   cases hdi:digB s[q] with
   | true =>
    have htok:tokL (gap false (rest s p))=if 2147483648 < valD ((rest s q).takeWhile digB) then (0,[],5) else (3,(rest s q).takeWhile digB,0):=by
     rw [hg,hc,tok_dig hwy hdi]
    have:=rn_int s p q w hs hp QS hq hwy hdi
    by_cases h40:2147483648 < valD ((rest s q).takeWhile digB)
    ·rw [if_pos h40] at htok this
     rw [tokAt_err hqd htok (by decide)]
     exact this
    ·rw [if_neg h40] at htok this
     rw [tokAt_ok hqd htok]
     exact this
   | false =>
    have htok:tokL (gap false (rest s p))=if symP (rest s q)=[] then (0,[],16) else (4,symP (rest s q),0):=by
     rw [hg,hc,tok_sym hwy hdi]
    have:=rn_sym s p q w hs hp QS hq hwy hdi
    by_cases h0:symP (rest s q)=[]
    ·rw [if_pos h0] at htok this
     rw [tokAt_err hqd htok (by decide)]
     exact this
    ·rw [if_neg h0] at htok this
     rw [tokAt_ok hqd htok]
     exact this
 ·obtain rfl:q=s.size:=by omega
  have htok:tokL (gap false (rest s p))=(0,[],0):=by rw [hg,rest_end (Nat.le_refl _)];rfl
  rw [tokAt_ok hqd htok]
  exact rn_end s p s.size w hs hp QS rfl
set_option maxHeartbeats 1000000 in
theorem tr_next_at (s:ByteArray) (a:Int) (w:World) (hs:s.size≤100000) :
  Calls Tryz.prog 42 #[.string s,.int .i64 a] w fun e w'=>e=.returned (nextV (nextP s a))∧Below w.heap.size w w':=by
 by_cases h0:a < 0
 ·have HV:=Lib.hid (show nextP s a=((0,0,[]),0,2) by unfold nextP;rw [if_pos (.inl h0)])
  go_enter Tryz.func42,Tryz.ntmps42
  go_wp2
  exact bodyPost_ret (v:=.tuple #[.agg #[.int .i64 0,.int .i64 0,.string ⟨#[]⟩],.int .i64 0,.int .i64 2]) (by simp [results,Tryz.results42,go_sem]) rfl ⟨by rw [HV.out];rfl,below1 _ _⟩
 ·obtain ⟨q,rfl⟩:∃q:Nat,a=(q:Int):=⟨a.toNat,by omega⟩
  by_cases h1:(s.size:Int) < (q:Int)
  ·have HV:=Lib.hid (show nextP s (q:Int)=((0,0,[]),0,2) by unfold nextP;rw [if_pos (.inr h1)])
   have h1':s.size < q:=by omega
   clear h0 h1
   go_enter Tryz.func42,Tryz.ntmps42
   go_wp2
   exact bodyPost_ret (v:=.tuple #[.agg #[.int .i64 0,.int .i64 0,.string ⟨#[]⟩],.int .i64 0,.int .i64 2]) (by simp [results,Tryz.results42,go_sem]) rfl ⟨by rw [HV.out];rfl,below1 _ _⟩
  ·by_cases h2:16384 < s.size
   ·have HV:=Lib.hid (show nextP s (q:Int)=((0,0,[]),0,6) by unfold nextP;rw [if_neg (by omega),if_pos h2])
    have h1':¬s.size < q:=by omega
    have h2':(16384:Int) < (s.size:Int):=by omega
    clear h0 h1 h2
    go_enter Tryz.func42,Tryz.ntmps42
    go_wp2
    exact bodyPost_ret (v:=.tuple #[.agg #[.int .i64 0,.int .i64 0,.string ⟨#[]⟩],.int .i64 0,.int .i64 6]) (by simp [results,Tryz.results42,go_sem]) rfl ⟨by rw [HV.out];rfl,below1 _ _⟩
   ·have e:nextP s (q:Int)=tokAt s q:=by unfold nextP;rw [if_neg (by omega),if_neg h2];rfl
    rw [e]
    exact tr_next_in s q w (by omega) (by omega)
end Go.Proofs.YtaojnljppcnhjaaGreatDoor
namespace Go.Proofs.YtaojnljppcnhjaaGreatDoor
open Go.RowKit
set_option maxHeartbeats 2000000 in
theorem tr_scan_big (s:ByteArray) (w:World) (hs:s.size≤100000) (hbig:16384 < s.size) :
  Calls Tryz.prog 21 #[.string s] w (ScanR s w):=by
 have QN:=Lib.hid (fun W=>tr_next_at s 0 W hs)
 rw [show nextP s 0=((0,0,[]),0,6) by unfold nextP;rw [if_neg (by omega),if_pos hbig]] at QN
 have HV:=Lib.hid (show scanP s=([],0,6) by unfold scanP;rw [if_pos hbig])
 go_enter Tryz.func21,Tryz.ntmps21
 go_wp2_with fail
 go_loopw [6,13] (fun i c wr=>i=.int .i64 0∧c=.int .i64 0∧Hid (Below w.heap.size w wr)) (fun _ _ _=>0)
 case atStart=>exact ⟨rfl,rfl,Lib.hid (Below.refl _ _)⟩
 case round =>
  obtain ⟨rfl,rfl,HB⟩:=hrel
  go_wp2_with fail
  refine (QN.out _).mono ?_
  rintro e w2 ⟨rfl,hb2⟩
  have HB2:=Lib.hid (show Below w.heap.size w (w2.alloc (.cells #[.int .i64 0,.int .i64 0,.string (S [])] 67)) from (HB.out.trans (hb2.mono HB.out.size)).alloc (Nat.le_trans HB.out.size hb2.size) _)
  clear hb2
  go_wp2_with fail
  exact bodyPost_ret (v:=.tuple #[.slice none 0 0,.int .i64 0,.int .i64 6]) (by simp [results,Tryz.results21,go_sem]) rfl (ScanR.err HV.out HB2.out)
set_option maxHeartbeats 4000000 in
theorem tr_scan_in (s:ByteArray) (w:World) (hs:s.size≤16384) :
  Calls Tryz.prog 21 #[.string s] w (ScanR s w):=by
 have QN:=Lib.hid (fun (p:Nat) W (hp:p≤s.size)=>tr_next_in s p W hs hp)
 obtain ⟨i0,hi,hz0,hz1,hz2⟩:=info_parts token_info
 have HS:=Lib.hid (show fin [] (toksAt s (s.size+1) 0)=scanP s by rw [fin_nil];unfold scanP;rw [if_neg (by omega)])
 go_enter Tryz.func21,Tryz.ntmps21
 go_wp2_with fail
 go_loopw [5,6,13] (fun z i c wr=>∃(p n:Nat) (acc:List Tk) (x:Value),p≤s.size∧n≤s.size+1∧i=.int .i64 (p:Int)∧c=.int .i64 ((s.size+1 - n:Nat):Int)∧z=x∧Hid (Scanning s w x p n acc wr)) (fun _ _ c _=>s.size+1 - (intOf c).toNat)
 case atStart=>exact ⟨0,s.size+1,[],_,Nat.zero_le _,Nat.le_refl _,rfl,by rw [Nat.sub_self];rfl,rfl,Lib.hid ⟨RowK.nil _ _,HS.out,Nat.zero_le _,by omega,by simp,Below.refl _ _⟩⟩
 case round =>
  obtain ⟨p,n,acc,z,hp,hns,rfl,rfl,hz,HK⟩:=hrel
  have hz':=hz.symm
  subst hz'
  clear hz
  have Q:=Lib.hid (fun W=>QN.out p W hp)
  generalize hx:tokAt s p=x at Q
  obtain ⟨⟨k,at_,t⟩,m,er⟩:=x
  have HX:=Lib.hid hx
  clear hx
  obtain ⟨K1,K2,K3,K4,K5,K6⟩:=HK.out
  obtain ⟨n,rfl⟩:∃n',n=n'+1:=⟨n - 1,by omega⟩
  obtain ⟨c,hc⟩:∃c,s.size+1 - (n+1)=c:=⟨_,rfl⟩
  have hcn:c+n=s.size:=by omega
  rw [hc]
  have hcl:(c:Int) < (s.size:Int)+1:=by omega
  have hc63:¬(9223372036854775807 < (c:Int)+1):=by omega
  have hacl:acc.length≤16385:=by omega
  by_cases her:er=0
  ·subst her
   obtain ⟨t1,t2,t3,t4,t5,t6,_⟩:=tokAt_facts hp (by rw [HX.out])
   rw [HX.out] at t1 t2 t4 t5 t6
   have HT:Hid (k≠0→p < m):=Lib.hid (fun h=>by have:=t5 h;simp only at t1 t2 this;omega)
   have hm:m≤s.size:=t4
   go_wp2_with fail
   refine (Q.out _).mono ?_
   rintro e w2 ⟨rfl,hb2⟩
   have hbw2:=K6.trans (hb2.mono K6.size)
   have HK2:=Lib.hid (K1.below hb2)
   have HOwn:=Lib.hid (own_lt HK2.out)
   have hlo:=hbw2.size
   have HE:Hid (k=0→scanP s=(acc++[(k,at_,t)],0,0)):=Lib.hid (fun h=>by
    rw [←K2,fin_end acc (by rw [HX.out]) (by rw [HX.out];exact h),HX.out])
   have HN:Hid (k≠0→fin (acc++[(k,at_,t)]) (toksAt s n m)=scanP s):=Lib.hid (fun h=>by
    rw [←K2,fin_next acc (by rw [HX.out]) (by rw [HX.out];exact h),HX.out])
   clear t1 t2 t4 t5 t6 hb2 K1 K2 K6 HX Q HK
   by_cases hk:k=0
   ·subst hk
    go_wp2_with (at_builtin;refine wpList_append_lies _ rfl _ _ 46 rfl w.heap.size 67 i0 _ 3 32 Tryz.underlying46 hi hz0 hz1 hz2 rfl (by decide) _ acc.length (kcells acc) rfl (HK2.out.alloc2 _ _) ⟨w2.heap.size+1,0,none⟩ 1 1 (tokC (0,at_,t)) rfl rfl (knews2 w2 _ (0,at_,t) _) (kcells_one _) (by decide) (by unfold maxLen;omega) (by omega) (by simp;omega) _ rfl ?_;intro g cap w5 hown hg hat hglt;have d0:=far_cell hg (fun k hk=>(HOwn.out k hk).2);have HR5:=Lib.hid (RowK.next (u:=(0,at_,t)) hown);have HB5:=Lib.hid (show Below w.heap.size w w5 from ((hbw2.alloc hbw2.size _).alloc (by simp;omega) _).grown hg (by simp;omega) (fun k hk=>(HOwn.out k hk).1));clear hown hg hat hglt)
    exact bodyPost_ret (v:=.tuple #[.slice (some ⟨g,0,none⟩) (acc.length+1) cap,.int .i64 0,.int .i64 0]) (by simp [results,Tryz.results21,go_sem]) rfl (ScanR.ok (HE.out trivial) HR5.out (by simp) HB5.out)
   ·have hk':(k==0)=false:=by simpa using hk
    have HT2:=Lib.hid (HT.out hk)
    have HN2:=Lib.hid (HN.out hk)
    clear hk HT HN HE
    go_wp2_with (at_builtin;refine wpList_append_lies _ rfl _ _ 46 rfl w.heap.size 67 i0 _ 3 32 Tryz.underlying46 hi hz0 hz1 hz2 rfl (by decide) _ acc.length (kcells acc) rfl (HK2.out.alloc2 _ _) ⟨w2.heap.size+1,0,none⟩ 1 1 (tokC (k,at_,t)) rfl rfl (knews2 w2 _ (k,at_,t) _) (kcells_one _) (by decide) (by unfold maxLen;omega) (by omega) (by simp;omega) _ rfl ?_;intro g cap w5 hown hg hat hglt;have d0:=far_cell hg (fun k hk=>(HOwn.out k hk).2);have HR5:=Lib.hid (RowK.next (u:=(k,at_,t)) hown);have HB5:=Lib.hid (show Below w.heap.size w w5 from ((hbw2.alloc hbw2.size _).alloc (by simp;omega) _).grown hg (by simp;omega) (fun k hk=>(HOwn.out k hk).1));clear hown hg hat hglt)
    have hpm:=HT2.out
    go_roundw
    case rel=>exact ⟨m,n,acc++[(k,at_,t)],_,hm,by omega,rfl,by rw [show s.size+1 - n=c+1 by omega];rfl,rfl,Lib.hid ⟨HR5.out,HN2.out,hm,by omega,by rw [List.length_append];simp;omega,HB5.out⟩⟩
    case measure=>simp [intOf];omega
  ·have HV:=Lib.hid (show scanP s=([],m,er) by rw [←K2,fin_err acc (by rw [HX.out];exact her),HX.out])
   have her':(er != 0)=true:=by simpa using her
   go_wp2_with fail
   refine (Q.out _).mono ?_
   rintro e w2 ⟨rfl,hb2⟩
   have HB2:=Lib.hid (fun o=>(K6.trans (hb2.mono K6.size)).alloc (Nat.le_trans K6.size hb2.size) o)
   clear hb2 K1 K2 K6 HX HK Q her
   go_wp2_with fail
   exact bodyPost_ret (v:=.tuple #[.slice none 0 0,.int .i64 (m:Int),.int .i64 er]) (by simp [results,Tryz.results21,go_sem]) rfl (ScanR.err HV.out (HB2.out _))
theorem tr_scan_at (s:ByteArray) (w:World) (hs:s.size≤100000):Calls Tryz.prog 21 #[.string s] w (ScanR s w):=by
 by_cases h:16384 < s.size
 ·exact tr_scan_big s w hs h
 ·exact tr_scan_in s w (by omega)
end Go.Proofs.YtaojnljppcnhjaaGreatDoor
namespace Go.Proofs.YtaojnljppcnhjaaGreatDoor
open Go
def toksOf (l:List UInt8):Option (List Tok):=scanG (l.length+1) [] l
def SpreadP:List UInt8→List (List UInt8×Tok)→Prop
 | _,[]=>True
 | prev,(sep,k,t,f) :: r=>((k≠0∧∃l,tokL l=(k,t,0))∨(k=0∧t=[]))∧((f=false∧SepOk sep)∨(f=true∧sep=[]∧k=3∧prev=[45]))∧SpreadP t r
end Go.Proofs.YtaojnljppcnhjaaGreatDoor
