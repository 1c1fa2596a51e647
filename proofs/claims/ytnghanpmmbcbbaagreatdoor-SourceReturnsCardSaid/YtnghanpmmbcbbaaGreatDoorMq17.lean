/-
  TkSkip.
  TkNext.
  TkScan.
 SySpread.
 SnMap.
 SnCopy.
-/
import Derived.Test.YtnghanpmmbcbbaaGreatDoorMq16
import Derived.Lib.Bytealg
import Derived.Deep.QuietTactic
import Derived.BigQuiet
import Derived.WalkSpells
import Derived.Test.YtnghanpmmbcbbaaGreatDoorMq2
import Derived.Deep.AppendSrc
import Derived.Test.YtnghanpmmbcbbaaGreatDoorMq3
import Derived.Test.YtnghanpmmbcbbaaGreatDoorMq11
import Derived.Test.YtnghanpmmbcbbaaGreatDoorMq7
import Derived.Test.YtnghanpmmbcbbaaGreatDoorMq8
import Derived.Maps.OwnOps
import Derived.Maps.OwnSet
import Derived.Maps.Views
namespace Go.Proofs.YtnghanpmmbcbbaaGreatDoor
open Go.RowKit
theorem index_none:∀(l:List UInt8),Lib.indexByte l 10 = -1→gap true l=[]
 | [],_=>rfl
 | b :: l,h=>by
  unfold Lib.indexByte at h
  by_cases hb:b=10
  ·subst hb;simp at h
  ·have hb':(b==10)=false:=by simpa using hb
   have hge:=Lib.indexByte_ge l 10
   rw [hb'] at h
   simp only [Bool.false_eq_true,if_false] at h
   by_cases h1:Lib.indexByte l 10 = -1
   ·rw [gap,if_neg hb]
    exact index_none l h1
   ·rw [if_neg (by simpa using h1)] at h
    omega
theorem index_some:∀(l:List UInt8),Lib.indexByte l 10 ≠ -1→∃k:Nat,Lib.indexByte l 10=(k:Int)∧k < l.length∧gap true l=gap false (l.drop k)∧(l.headD 0≠10→0 < k)
 | [],h=>absurd rfl h
 | b :: l,h=>by
  by_cases hb:b=10
  ·subst hb
   refine ⟨0,rfl,by simp,by simp [gap,spcB],fun h=>absurd rfl h⟩
  ·have hb':(b==10)=false:=by simpa using hb
   have e:Lib.indexByte (b :: l) 10=if Lib.indexByte l 10 == -1 then -1 else Lib.indexByte l 10+1:=by
    rw [Lib.indexByte,hb'];rfl
   by_cases h1:Lib.indexByte l 10 = -1
   ·rw [e,h1] at h;exact absurd rfl h
   ·obtain ⟨k,hk,hl,hg,_⟩:=index_some l h1
    refine ⟨k+1,?_,by simp only [List.length_cons];omega,?_,fun _=>Nat.succ_pos k⟩
    ·rw [e,hk,if_neg (by simp)];omega
    ·rw [gap,if_neg hb,hg];rfl
set_option maxRecDepth 100000 in
theorem lite_index_at (s:ByteArray) (c:Int) (w:World) :
  Calls Tryz.prog 226 #[.string s,.int .u8 c] w fun e w'=>e=.returned (.int .i64 (Lib.indexByte s.data.toList c.toNat.toUInt8))∧w=w':=by
 go_enter Tryz.func226,Tryz.ntmps226
 go_wp2
 rw [run_callFunc_extern Tryz.func235 (by kernel_rfl) (by kernel_rfl) (by kernel_rfl) (e:=Extern.BytealgIndexByte.indexByte) (by kernel_rfl),Lib.run_indexByteString]
 simp only [Result.andThen]
 rw [Oper.upon_value]
 go_wp2
 go_ret
 exact ⟨rfl,rfl⟩
theorem index_at (s:ByteArray) (c:Int) (w:World) :
  Calls Tryz.prog 215 #[.string s,.int .u8 c] w fun e w'=>e=.returned (.int .i64 (Lib.indexByte s.data.toList c.toNat.toUInt8))∧w=w':=by
 go_enter Tryz.func215,Tryz.ntmps215
 go_wp2_with (go_at_call 226;refine (lite_index_at _ _ _).mono ?_;rintro e w' ⟨rfl,rfl⟩)
 go_ret
 exact ⟨rfl,rfl⟩
def LineEnd (s:ByteArray) (q:Nat) (w:World) (e:Ending) (w':World):Prop:=∃n:Nat,q < n∧n≤s.size∧gap false (rest s n)=gap false (rest s q)∧e=.returned (.int .i64 (n:Int))∧w=w'
theorem line_at (s:ByteArray) (q:Nat) (w:World) (hs:s.size≤100000) (hq:q < s.size) (hc:s[q]=35) :
  Calls Tryz.prog 193 #[.string s,.int .i64 (q:Int)] w (LineEnd s q w):=by
 have hq1:(q:Int)≤(s.size:Int):=by omega
 have hq0:(0:Int)≤(q:Int):=by omega
 have HG:=Lib.hid (gap_note_at hq hc)
 have HH:=Lib.hid (show (rest s q).headD 0≠10 by rw [rest_cons hq];simp [hc])
 have QI:=Lib.hid (fun W=>index_at (s.extract q s.size) 10 W)
 rw [rest_of_extract] at QI
 by_cases h1:Lib.indexByte (rest s q) 10 = -1
 ·have HE:=Lib.hid (show gap false (rest s s.size)=gap false (rest s q) by rw [HG.out,index_none _ h1,rest_end (Nat.le_refl _)];rfl)
  rw [show ((10:Int).toNat.toUInt8)=10 from rfl,h1] at QI
  clear hc h1
  go_enter Tryz.func193,Tryz.ntmps193
  go_wp2_with (go_at_call 215;refine (QI.out _).mono ?_;rintro e w' ⟨rfl,rfl⟩)
  go_ret
  exact ⟨s.size,hq,Nat.le_refl _,HE.out,rfl,rfl⟩
 ·obtain ⟨k,hk,hl,hg,h0⟩:=index_some _ h1
  rw [rest_len] at hl
  rw [show ((10:Int).toNat.toUInt8)=10 from rfl,hk] at QI
  have HK:=Lib.hid (show gap false (rest s (q+k))=gap false (rest s q) by rw [rest_drop,← hg,HG.out])
  have H0:=Lib.hid (h0 HH.out)
  have hk0:decide ((k:Int) < 0)=false:=by simp
  have hk1:¬(9223372036854775807 < (q:Int)+(k:Int)):=by omega
  clear hc h1 hk hg h0
  go_enter Tryz.func193,Tryz.ntmps193
  go_wp2_with (go_at_call 215;refine (QI.out _).mono ?_;rintro e w' ⟨rfl,rfl⟩)
  go_ret
  exact ⟨q+k,by have:=H0.out;omega,by omega,HK.out,by rw [Int.natCast_add];rfl,rfl⟩
set_option maxHeartbeats 1000000 in
theorem skip_at (s:ByteArray) (p:Nat) (w:World) (hs:s.size≤100000) (hp:p≤s.size) {n:Nat} (hn:skipP s p=n) :
  Calls Tryz.prog 171 #[.string s,.int .i64 (p:Int)] w fun e w'=>e=.returned (.int .i64 (n:Int))∧w=w':=by
 have QS:=Lib.hid tk_spc_at
 have QL:=Lib.hid (line_at s)
 go_enter Tryz.func171,Tryz.ntmps171
 go_wp2
 go_loop [1] (fun i=>∃q:Nat,q≤s.size∧i=.int .i64 (q:Int)∧Hid (skipP s q=n)) (fun i=>s.size - (intOf i).toNat)
 case atStart=>exact ⟨p,hp,rfl,hn⟩
 case round =>
  obtain ⟨q,hq,rfl,hk⟩:=hrel
  by_cases hlt:q < s.size
  ·have hlt':(q:Int) < (s.size:Int):=by omega
   obtain ⟨b1,hb1⟩:∃b,spcB s[q]=b:=⟨_,rfl⟩
   have Q1:=Lib.hid (fun W=>QS.out s[q] W hb1)
   have HB:=Lib.hid hb1
   clear hb1
   cases b1
   ·by_cases h35:s[q]=35
    ·have h35':((s[q].toNat:Int)==35)=true:=byte_eq (b:=35) h35
     have Q2:=Lib.hid (fun W=>QL.out q W hs hlt h35)
     clear h35
     go_wp2_with (first|(go_at_call 192;refine (Q1.out _).mono ?_;rintro e w' ⟨rfl,rfl⟩)|(go_at_call 193;refine (Q2.out _).mono ?_;rintro e w' ⟨m,hm1,hm2,hm3,rfl,rfl⟩))
     go_round
     case rel=>exact ⟨m,hm2,rfl,by rw [skipP_same hm3];exact hk.out⟩
     case measure=>simp [intOf];omega
    ·have h35':((s[q].toNat:Int)==35)=false:=byte_ne (b:=35) h35
     have HS:=Lib.hid (skipP_stop hq (gap_cons_stop hlt HB.out h35))
     clear h35
     go_wp2_with (go_at_call 192;refine (Q1.out _).mono ?_;rintro e w' ⟨rfl,rfl⟩)
     go_ret
     exact ⟨by rw [←hk.out,HS.out];rfl,rfl⟩
   ·have hq1:¬(9223372036854775807 < (q:Int)+1):=by omega
    go_wp2_with (go_at_call 192;refine (Q1.out _).mono ?_;rintro e w' ⟨rfl,rfl⟩)
    go_round
    case rel=>exact ⟨q+1,by omega,by go_num,by rw [←hk.out];exact (skipP_same (gap_cons_spc hlt HB.out)).symm⟩
    case measure=>simp [intOf];omega
  ·obtain rfl:q=s.size:=by omega
   have HS:=Lib.hid (skipP_stop hq (gap_at_end (Nat.le_refl s.size)))
   go_wp2
   go_ret
   exact ⟨by rw [←hk.out,HS.out];rfl,rfl⟩
end Go.Proofs.YtnghanpmmbcbbaaGreatDoor
namespace Go.Proofs.YtnghanpmmbcbbaaGreatDoor
open Go.RowKit
section
variable (s:ByteArray) (p q m:Nat) (k er:Int) (w:World) (hs:s.size≤16384) (hp:p≤s.size) (hqm:q≤m) (hm:m≤s.size)
 (QS:Hid (∀W,Calls Tryz.prog 171 #[.string s,.int .i64 (p:Int)] W fun e w'=>e=.returned (.int .i64 (q:Int))∧W=w'))
 (QB:Hid (∀W,Calls Tryz.prog 172 #[.string s,.int .i64 (q:Int)] W (Bound k m W)))
include hs hp hqm hm QS QB
set_option maxHeartbeats 1000000 in
theorem next_ok (QC:Hid (∀W,Calls Tryz.prog 173 #[.int .i64 k,.string (s.extract q m)] W fun e w'=>e=.returned (.int .i64 0)∧W=w')) :
  Calls Tryz.prog 136 #[.string s,.int .i64 (p:Int)] w fun e w'=>e=.returned (.tuple #[.agg #[.int .i64 k,.int .i64 (q:Int),.string (s.extract q m)],.int .i64 (m:Int),.int .i64 0])∧Below w.heap.size w w':=by
 have h0:decide ((p:Int) < 0)=false:=by simp
 have h1:¬s.size < p:=by omega
 have h2:decide ((16384:Int) < (s.size:Int))=false:=by simp;omega
 have hqm':(q:Int)≤(m:Int):=by omega
 have hm':(m:Int)≤(s.size:Int):=by omega
 go_enter Tryz.func136,Tryz.ntmps136
 go_wp2_with (first|(go_at_call 171;refine (QS.out _).mono ?_;rintro e w' ⟨rfl,rfl⟩)|(go_at_call 172;refine (QB.out _).mono ?_;rintro e w' ⟨rfl,rfl⟩)|(go_at_call 173;refine (QC.out _).mono ?_;rintro e w' ⟨rfl,rfl⟩))
 exact bodyPost_ret (v:=.tuple #[.agg #[.int .i64 k,.int .i64 (q:Int),.string (s.extract q m)],.int .i64 (m:Int),.int .i64 0]) (by simp [results,Tryz.results136,go_sem]) rfl ⟨rfl,(Below.refl _ _).alloc (Nat.le_refl _) _⟩
set_option maxHeartbeats 1000000 in
theorem next_err (her:(er==0)=false) (QC:Hid (∀W,Calls Tryz.prog 173 #[.int .i64 k,.string (s.extract q m)] W fun e w'=>e=.returned (.int .i64 er)∧W=w')) :
  Calls Tryz.prog 136 #[.string s,.int .i64 (p:Int)] w fun e w'=>e=.returned (.tuple #[.agg #[.int .i64 0,.int .i64 0,.string ⟨#[]⟩],.int .i64 (q:Int),.int .i64 er])∧Below w.heap.size w w':=by
 have h0:decide ((p:Int) < 0)=false:=by simp
 have h1:¬s.size < p:=by omega
 have h2:decide ((16384:Int) < (s.size:Int))=false:=by simp;omega
 have hqm':(q:Int)≤(m:Int):=by omega
 have hm':(m:Int)≤(s.size:Int):=by omega
 have her':(er != 0)=true:=by simp [bne,her]
 go_enter Tryz.func136,Tryz.ntmps136
 go_wp2_with (first|(go_at_call 171;refine (QS.out _).mono ?_;rintro e w' ⟨rfl,rfl⟩)|(go_at_call 172;refine (QB.out _).mono ?_;rintro e w' ⟨rfl,rfl⟩)|(go_at_call 173;refine (QC.out _).mono ?_;rintro e w' ⟨rfl,rfl⟩))
 exact bodyPost_ret (v:=.tuple #[.agg #[.int .i64 0,.int .i64 0,.string ⟨#[]⟩],.int .i64 (q:Int),.int .i64 er]) (by simp [results,Tryz.results136,go_sem]) rfl ⟨rfl,(Below.refl _ _).alloc (Nat.le_refl _) _⟩
end
theorem while_all (k:UInt8→Bool):∀(l:List UInt8),∀c∈l.takeWhile k,k c=true
 | [],c,h=>by simp at h
 | x :: l,c,h=>by
  cases hx:k x with
  | true =>
   rw [List.takeWhile_cons_of_pos hx] at h
   rcases List.mem_cons.1 h with rfl|h
   ·exact hx
   ·exact while_all k l c h
  | false=>rw [List.takeWhile_cons_of_neg (by rw [hx];decide)] at h;simp at h
theorem extract_none (s:ByteArray) (q:Nat):s.extract q q=S []:=S_of (by rw [extract_list,Nat.sub_self,List.take_zero])
theorem next_in (s:ByteArray) (p:Nat) (w:World) (hs:s.size≤16384) (hp:p≤s.size) :
  Calls Tryz.prog 136 #[.string s,.int .i64 (p:Int)] w fun e w'=>e=.returned (nextV (tokAt s p))∧Below w.heap.size w w':=by
 obtain ⟨f1,f2,f3⟩:=skipP_facts hp
 have hg:=f3.symm
 generalize hqd:skipP s p=q at f1 f2 f3 hg
 have QS:=Lib.hid (fun W=>skip_at s p W (by omega) hp hqd)
 have hs':s.size≤100000:=by omega
 rcases Nat.lt_or_ge q s.size with hq|hq
 ·have hc:=rest_cons hq
  cases hwy:wordyB s[q] with
  | true =>
   have ha:∀c∈(S ((rest s q).takeWhile inB)).data.toList,inB c=true:=fun c h=>while_all _ _ c h
   have hin:inB s[q]=true:=by
    simp only [wordyB,Bool.or_eq_true] at hwy
    simp only [inB,Bool.or_eq_true]
    rcases hwy with h|h|h
    ·exact .inl (.inl (.inl h))
    ·exact .inl (.inl (.inr h))
    ·exact .inr h
   have hsz:(S ((rest s q).takeWhile inB)).size=runP inB s q:=by simp [ByteArray.size,runP]
   have h1:1≤runP inB s q:=by rw [runP_next hq hin];omega
   have hle:=runP_le (k:=inB) (s:=s) (q:=q) (by omega)
   have hhd:(S ((rest s q).takeWhile inB)).data.toList.getD 0 0=s[q]:=by
    show ((rest s q).takeWhile inB).getD 0 0=s[q]
    rw [hc,List.takeWhile_cons_of_pos hin];rfl
   have htok:tokL (gap false (rest s p))=if 40 < runP inB s q then (0,[],7) else (if lowB s[q]=true then 1 else 2,(rest s q).takeWhile inB,0):=by
    rw [hg,hc,tok_word hwy,← hc];rfl
   cases hlo:lowB s[q] with
   | true =>
    rw [hlo,if_pos rfl] at htok
    have QB:=Lib.hid (fun W=>bound_low s q W hs' hq hlo)
    have QC:=fun W=>check_name (S ((rest s q).takeWhile inB)) W (by rw [hsz];omega) ha (by rw [hsz];exact h1) (by rw [hhd];exact hlo) rfl
    rw [hsz,← runP_text inB s q] at QC
    by_cases h40:40 < runP inB s q
    ·rw [if_pos h40] at htok QC
     rw [tokAt_err hqd htok (by decide)]
     exact next_err s p q _ 1 7 w hs hp (by omega) hle QS QB rfl (Lib.hid QC)
    ·rw [if_neg h40] at htok QC
     rw [tokAt_ok hqd htok]
     have:=next_ok s p q _ 1 w hs hp (by omega) hle QS QB (Lib.hid QC)
     rw [runP_text] at this
     exact this
   | false =>
    simp only [hlo,Bool.false_eq_true,if_false] at htok
    have hup:(uppB s[q]||undB s[q])=true:=by simpa [wordyB,hlo] using hwy
    have QB:=Lib.hid (fun W=>bound_var s q W hs' hq hlo hup)
    have QC:=fun W=>check_var (S ((rest s q).takeWhile inB)) W (by rw [hsz];omega) ha (by rw [hsz];exact h1) (by rw [hhd];exact hup) rfl
    rw [hsz,← runP_text inB s q] at QC
    by_cases h40:40 < runP inB s q
    ·rw [if_pos h40] at htok QC
     rw [tokAt_err hqd htok (by decide)]
     exact next_err s p q _ 2 7 w hs hp (by omega) hle QS QB rfl (Lib.hid QC)
    ·rw [if_neg h40] at htok QC
     rw [tokAt_ok hqd htok]
     have:=next_ok s p q _ 2 w hs hp (by omega) hle QS QB (Lib.hid QC)
     rw [runP_text] at this
     exact this
  | false =>
   cases hdi:digB s[q] with
   | true =>
    have hsz:(S ((rest s q).takeWhile digB)).size=runP digB s q:=by simp [ByteArray.size,runP]
    have hle:=runP_le (k:=digB) (s:=s) (q:=q) (by omega)
    have htok:tokL (gap false (rest s p))=if 2147483648 < valD ((rest s q).takeWhile digB) then (0,[],5) else (3,(rest s q).takeWhile digB,0):=by
     rw [hg,hc,tok_dig hwy hdi]
    have QB:=Lib.hid (fun W=>bound_dig s q W hs' hq hwy hdi)
    have QC:=fun W=>check_int (S ((rest s q).takeWhile digB)) W (by rw [hsz];omega) (fun c h=>while_all _ _ c h) rfl
    rw [←runP_text digB s q] at QC
    have hx:(s.extract q (q+runP digB s q)).data.toList=(rest s q).takeWhile digB:=by rw [runP_text]
    rw [hx] at QC
    by_cases h40:2147483648 < valD ((rest s q).takeWhile digB)
    ·rw [if_pos h40] at htok QC
     rw [tokAt_err hqd htok (by decide)]
     exact next_err s p q _ 3 5 w hs hp (by omega) hle QS QB rfl (Lib.hid QC)
    ·rw [if_neg h40] at htok QC
     rw [tokAt_ok hqd htok]
     have:=next_ok s p q _ 3 w hs hp (by omega) hle QS QB (Lib.hid QC)
     rw [runP_text] at this
     exact this
   | false =>
    have hle:=symP_le (s:=s) (q:=q) (by omega)
    have htok:tokL (gap false (rest s p))=if symP (rest s q)=[] then (0,[],16) else (4,symP (rest s q),0):=by
     rw [hg,hc,tok_sym hwy hdi]
    have QB:=Lib.hid (fun W=>bound_sym s q W hs' hq hwy hdi)
    by_cases h0:symP (rest s q)=[]
    ·rw [if_pos h0] at htok
     have QC:=Lib.hid check_none
     rw [show (ByteArray.mk #[])=s.extract q (q+(symP (rest s q)).length) by rw [symP_text,h0]] at QC
     rw [tokAt_err hqd htok (by decide)]
     exact next_err s p q _ 4 16 w hs hp (by omega) hle QS QB rfl QC
    ·rw [if_neg h0] at htok
     have QC:=Lib.hid (fun W=>check_sym (S (symP (rest s q))) W h0)
     rw [←symP_text] at QC
     rw [tokAt_ok hqd htok]
     have:=next_ok s p q _ 4 w hs hp (by omega) hle QS QB QC
     rw [symP_text] at this
     exact this
 ·obtain rfl:q=s.size:=by omega
  have htok:tokL (gap false (rest s p))=(0,[],0):=by rw [hg,rest_end (Nat.le_refl _)];rfl
  rw [tokAt_ok hqd htok]
  have:=next_ok s p s.size s.size 0 w hs hp (Nat.le_refl _) (Nat.le_refl _) QS (Lib.hid (bound_end s)) (Lib.hid (check_end _))
  rw [extract_none] at this
  exact this
set_option maxHeartbeats 1000000 in
theorem next_at (s:ByteArray) (a:Int) (w:World) (hs:s.size≤100000) :
  Calls Tryz.prog 136 #[.string s,.int .i64 a] w fun e w'=>e=.returned (nextV (nextP s a))∧Below w.heap.size w w':=by
 by_cases h0:a < 0
 ·have HV:=Lib.hid (show nextP s a=((0,0,[]),0,2) by unfold nextP;rw [if_pos (.inl h0)])
  go_enter Tryz.func136,Tryz.ntmps136
  go_wp2
  exact bodyPost_ret (v:=.tuple #[.agg #[.int .i64 0,.int .i64 0,.string ⟨#[]⟩],.int .i64 0,.int .i64 2]) (by simp [results,Tryz.results136,go_sem]) rfl ⟨by rw [HV.out];rfl,(Below.refl _ _).alloc (Nat.le_refl _) _⟩
 ·obtain ⟨q,rfl⟩:∃q:Nat,a=(q:Int):=⟨a.toNat,by omega⟩
  by_cases h1:(s.size:Int) < (q:Int)
  ·have HV:=Lib.hid (show nextP s (q:Int)=((0,0,[]),0,2) by unfold nextP;rw [if_pos (.inr h1)])
   have h1':s.size < q:=by omega
   clear h0 h1
   go_enter Tryz.func136,Tryz.ntmps136
   go_wp2
   exact bodyPost_ret (v:=.tuple #[.agg #[.int .i64 0,.int .i64 0,.string ⟨#[]⟩],.int .i64 0,.int .i64 2]) (by simp [results,Tryz.results136,go_sem]) rfl ⟨by rw [HV.out];rfl,(Below.refl _ _).alloc (Nat.le_refl _) _⟩
  ·by_cases h2:16384 < s.size
   ·have HV:=Lib.hid (show nextP s (q:Int)=((0,0,[]),0,6) by unfold nextP;rw [if_neg (by omega),if_pos h2])
    have h1':¬s.size < q:=by omega
    have h2':(16384:Int) < (s.size:Int):=by omega
    clear h0 h1 h2
    go_enter Tryz.func136,Tryz.ntmps136
    go_wp2
    exact bodyPost_ret (v:=.tuple #[.agg #[.int .i64 0,.int .i64 0,.string ⟨#[]⟩],.int .i64 0,.int .i64 6]) (by simp [results,Tryz.results136,go_sem]) rfl ⟨by rw [HV.out];rfl,(Below.refl _ _).alloc (Nat.le_refl _) _⟩
   ·have e:nextP s (q:Int)=tokAt s q:=by unfold nextP;rw [if_neg (by omega),if_neg h2];rfl
    rw [e]
    exact next_in s q w (by omega) (by omega)
end Go.Proofs.YtnghanpmmbcbbaaGreatDoor
namespace Go.Proofs.YtnghanpmmbcbbaaGreatDoor
open Go.RowKit
def ScanR (s:ByteArray) (w:World) (e:Ending) (w':World):Prop :=
 ∃A c,e=.returned (.tuple #[.slice A (scanP s).1.length c,.int .i64 ((scanP s).2.1:Int),.int .i64 (scanP s).2.2])∧TLst w' A (scanP s).1 c∧Below w.heap.size w w'
theorem RowK.alloc2 {lo:Nat} {w:World} {z:Value} {acc:List Tk} (h:RowK lo w z acc) (o o':Obj):((w.alloc o).alloc o').ownsRow lo 135 3 z acc.length (kcells acc):=World.ownsRow.alloc (World.ownsRow.alloc h _) _
theorem knews2 (w:World) (o:Obj) (u:Tk) (T:TypeId):∀j v,(tokC u)[j]?=some v→((w.alloc o).alloc (.cells #[.int .i64 u.1,.int .i64 (u.2.1:Int),.string (S u.2.2)] T)).cell? ((⟨w.heap.size+1,0,none⟩:Addr).add j)=some v:=by
 have:=knews1 (w.alloc o) u T
 rwa [World.size_alloc] at this
theorem far_cell {w w5:World} {v0 v1 v2:Value} {T:TypeId} {o:Obj} {row:Option Nat} (hg:((w.alloc (.cells #[v0,v1,v2] T)).alloc o).grownBy w5 row) (hr:∀k,row=some k→k < w.heap.size):w5.cell? ⟨w.heap.size,0,none⟩=some v0:=by
 rw [hg.cell_far _ (by simp;omega) (fun e=>Nat.lt_irrefl _ (hr _ e.symm)),(below1 (w.alloc (.cells #[v0,v1,v2] T)) o).cell (p:=⟨w.heap.size,0,none⟩) (by simp),World.cell?_alloc_at _ _ _ _ rfl]
 rfl
theorem ScanR.err {s:ByteArray} {w w':World} {q:Nat} {er:Int} (h:scanP s=([],q,er)) (hb:Below w.heap.size w w'):ScanR s w (.returned (.tuple #[.slice none 0 0,.int .i64 (q:Int),.int .i64 er])) w' :=
 ⟨none,0,by rw [h];rfl,by rw [h];exact TLst.nil _,hb⟩
theorem ScanR.ok {s:ByteArray} {w w':World} {lo n cap:Nat} {A:Option Addr} {l:List Tk} (h:scanP s=(l,0,0)) (hr:RowK lo w' (.slice A n cap) l) (hn:n=l.length) (hb:Below w.heap.size w w'):ScanR s w (.returned (.tuple #[.slice A n cap,.int .i64 0,.int .i64 0])) w' :=
 ⟨A,cap,by rw [h,hn];rfl,by rw [h];exact hr.lies,hb⟩
structure Scanning (s:ByteArray) (w:World) (z:Value) (p:Nat) (n:Nat) (acc:List Tk) (wr:World):Prop where
 row:RowK w.heap.size wr z acc
 all:fin acc (toksAt s n p)=scanP s
 le:p≤s.size
 time:s.size < p+n
 len:acc.length+n≤s.size+1
 below:Below w.heap.size w wr
set_option maxHeartbeats 2000000 in
theorem scan_big (s:ByteArray) (w:World) (hs:s.size≤100000) (hbig:16384 < s.size) :
  Calls Tryz.prog 93 #[.string s] w (ScanR s w):=by
 have QN:=Lib.hid (fun W=>next_at s 0 W hs)
 rw [show nextP s 0=((0,0,[]),0,6) by unfold nextP;rw [if_neg (by omega),if_pos hbig]] at QN
 have HV:=Lib.hid (show scanP s=([],0,6) by unfold scanP;rw [if_pos hbig])
 go_enter Tryz.func93,Tryz.ntmps93
 go_wp2_with fail
 go_loopw [6] (fun i wr=>i=.int .i64 0∧Hid (Below w.heap.size w wr)) (fun i _=>0)
 case atStart=>exact ⟨rfl,Lib.hid (Below.refl _ _)⟩
 case round =>
  obtain ⟨rfl,HB⟩:=hrel
  go_wp2_with fail
  refine (QN.out _).mono ?_
  rintro e w2 ⟨rfl,hb2⟩
  have HB2:=Lib.hid (show Below w.heap.size w (w2.alloc (.cells #[.int .i64 0,.int .i64 0,.string (S [])] 135)) from (HB.out.trans (hb2.mono HB.out.size)).alloc (Nat.le_trans HB.out.size hb2.size) _)
  clear hb2
  go_wp2_with fail
  exact bodyPost_ret (v:=.tuple #[.slice none 0 0,.int .i64 0,.int .i64 6]) (by simp [results,Tryz.results93,go_sem]) rfl (ScanR.err HV.out HB2.out)
set_option maxHeartbeats 4000000 in
theorem scan_inside (s:ByteArray) (w:World) (hs:s.size≤16384) :
  Calls Tryz.prog 93 #[.string s] w (ScanR s w):=by
 have QN:=Lib.hid (fun (p:Nat) W (hp:p≤s.size)=>next_in s p W hs hp)
 obtain ⟨i0,hi,hz0,hz1,hz2⟩:=info_parts token_info
 have HS:=Lib.hid (show fin [] (toksAt s (s.size+1) 0)=scanP s by rw [fin_nil];unfold scanP;rw [if_neg (by omega)])
 go_enter Tryz.func93,Tryz.ntmps93
 go_wp2_with fail
 go_loopw [5,6] (fun z i wr=>∃(p n:Nat) (acc:List Tk) (x:Value),p≤s.size∧i=.int .i64 (p:Int)∧z=x∧Hid (Scanning s w x p n acc wr)) (fun _ i _=>s.size+1 - (intOf i).toNat)
 case atStart=>exact ⟨0,s.size+1,[],_,Nat.zero_le _,rfl,rfl,Lib.hid ⟨RowK.nil _ _,HS.out,Nat.zero_le _,by omega,by simp,Below.refl _ _⟩⟩
 case round =>
  obtain ⟨p,n,acc,z,hp,rfl,hz,HK⟩:=hrel
  have hz':=hz.symm
  subst hz'
  clear hz
  have Q:=Lib.hid (fun W=>QN.out p W hp)
  generalize hx:tokAt s p=x at Q
  obtain ⟨⟨k,at_,t⟩,m,er⟩:=x
  have HX:=Lib.hid hx
  clear hx
  obtain ⟨K1,K2,K3,K4,K5,K6⟩:=HK.out
  obtain ⟨n,rfl⟩:∃n',n=n'+1:=⟨n - 1,by omega⟩
  have hacl:acc.length≤16385:=by omega
  by_cases her:er=0
  ·subst her
   obtain ⟨t1,t2,t3,t4,t5,t6,_⟩:=tokAt_facts hp (by rw [HX.out])
   rw [HX.out] at t1 t2 t4 t5 t6
   have HT:Hid (k≠0→p < m):=Lib.hid (fun h=>by have:=t5 h;simp only at t1 t2 this;omega)
   have hm:m≤s.size:=t4
   go_wp2_with fail
   refine (Q.out _).mono ?_
   rintro e w2 ⟨rfl,hb2⟩
   have hbw2:=K6.trans (hb2.mono K6.size)
   have HK2:=Lib.hid (K1.below hb2)
   have HOwn:=Lib.hid (own_lt HK2.out)
   have hlo:=hbw2.size
   have HE:Hid (k=0→scanP s=(acc++[(k,at_,t)],0,0)):=Lib.hid (fun h=>by
    rw [←K2,fin_end acc (by rw [HX.out]) (by rw [HX.out];exact h),HX.out])
   have HN:Hid (k≠0→fin (acc++[(k,at_,t)]) (toksAt s n m)=scanP s):=Lib.hid (fun h=>by
    rw [←K2,fin_next acc (by rw [HX.out]) (by rw [HX.out];exact h),HX.out])
   clear t1 t2 t4 t5 t6 hb2 K1 K2 K6 HX Q HK
   by_cases hk:k=0
   ·subst hk
    go_wp2_with (at_builtin;refine wpList_append_lies _ rfl _ _ 128 rfl w.heap.size 135 i0 _ 3 32 Tryz.underlying128 hi hz0 hz1 hz2 rfl (by decide) _ acc.length (kcells acc) rfl (HK2.out.alloc2 _ _) ⟨w2.heap.size+1,0,none⟩ 1 1 (tokC (0,at_,t)) rfl rfl (knews2 w2 _ (0,at_,t) _) (kcells_one _) (by decide) (by unfold maxLen;omega) (by omega) (by simp;omega) _ rfl ?_;intro g cap w5 hown hg hat hglt;have d0:=far_cell hg (fun k hk=>(HOwn.out k hk).2);have HR5:=Lib.hid (RowK.next (u:=(0,at_,t)) hown);have HB5:=Lib.hid (show Below w.heap.size w w5 from ((hbw2.alloc hbw2.size _).alloc (by simp;omega) _).grown hg (by simp;omega) (fun k hk=>(HOwn.out k hk).1));clear hown hg hat hglt)
    exact bodyPost_ret (v:=.tuple #[.slice (some ⟨g,0,none⟩) (acc.length+1) cap,.int .i64 0,.int .i64 0]) (by simp [results,Tryz.results93,go_sem]) rfl (ScanR.ok (HE.out trivial) HR5.out (by simp) HB5.out)
   ·have hk':(k==0)=false:=by simpa using hk
    have HT2:=Lib.hid (HT.out hk)
    have HN2:=Lib.hid (HN.out hk)
    clear hk HT HN HE
    go_wp2_with (at_builtin;refine wpList_append_lies _ rfl _ _ 128 rfl w.heap.size 135 i0 _ 3 32 Tryz.underlying128 hi hz0 hz1 hz2 rfl (by decide) _ acc.length (kcells acc) rfl (HK2.out.alloc2 _ _) ⟨w2.heap.size+1,0,none⟩ 1 1 (tokC (k,at_,t)) rfl rfl (knews2 w2 _ (k,at_,t) _) (kcells_one _) (by decide) (by unfold maxLen;omega) (by omega) (by simp;omega) _ rfl ?_;intro g cap w5 hown hg hat hglt;have d0:=far_cell hg (fun k hk=>(HOwn.out k hk).2);have HR5:=Lib.hid (RowK.next (u:=(k,at_,t)) hown);have HB5:=Lib.hid (show Below w.heap.size w w5 from ((hbw2.alloc hbw2.size _).alloc (by simp;omega) _).grown hg (by simp;omega) (fun k hk=>(HOwn.out k hk).1));clear hown hg hat hglt)
    have hpm:=HT2.out
    go_roundw
    case rel=>exact ⟨m,n,acc++[(k,at_,t)],_,hm,rfl,rfl,Lib.hid ⟨HR5.out,HN2.out,hm,by omega,by rw [List.length_append];simp;omega,HB5.out⟩⟩
    case measure=>simp [intOf];omega
  ·have HV:=Lib.hid (show scanP s=([],m,er) by rw [←K2,fin_err acc (by rw [HX.out];exact her),HX.out])
   have her':(er != 0)=true:=by simpa using her
   go_wp2_with fail
   refine (Q.out _).mono ?_
   rintro e w2 ⟨rfl,hb2⟩
   have HB2:=Lib.hid (fun o=>(K6.trans (hb2.mono K6.size)).alloc (Nat.le_trans K6.size hb2.size) o)
   clear hb2 K1 K2 K6 HX HK Q her
   go_wp2_with fail
   exact bodyPost_ret (v:=.tuple #[.slice none 0 0,.int .i64 (m:Int),.int .i64 er]) (by simp [results,Tryz.results93,go_sem]) rfl (ScanR.err HV.out (HB2.out _))
theorem scan_at (s:ByteArray) (w:World) (hs:s.size≤100000):Calls Tryz.prog 93 #[.string s] w (ScanR s w):=by
 by_cases h:16384 < s.size
 ·exact scan_big s w hs h
 ·exact scan_inside s w (by omega)
end Go.Proofs.YtnghanpmmbcbbaaGreatDoor
namespace Go.Proofs.YtnghanpmmbcbbaaGreatDoor
open Go
def toksOf (l:List UInt8):Option (List Tok):=scanG (l.length+1) [] l
theorem toksOf_scan (s:ByteArray) (hs:s.size≤16384):toksOf s.data.toList=if (scanP s).2.2≠0 then none else some (absT 0 [] (scanP s).1):=by
 unfold toksOf
 rw [show s.data.toList.length=s.size from Array.length_toList]
 exact scan_abs s hs
def SpreadP:List UInt8→List (List UInt8×Tok)→Prop
 | _,[]=>True
 | prev,(sep,k,t,f) :: r=>((k≠0∧∃l,tokL l=(k,t,0))∨(k=0∧t=[]))∧((f=false∧SepOk sep)∨(f=true∧sep=[]∧k=3∧prev=[45]))∧SpreadP t r
end Go.Proofs.YtnghanpmmbcbbaaGreatDoor
namespace Go.Proofs.YtnghanpmmbcbbaaGreatDoor
open Go.RowKit Go.Maps
theorem place_addV {l:List Int} {x v:Int} (hv:v∈l):placeS (addV l x) v=placeS l v:=by
 unfold addV
 split
 ·rfl
 ·unfold placeS
  rw [if_pos hv,if_pos (List.mem_append_left _ hv),List.idxOf_append,if_pos hv]
theorem place_addAll {v:Int}:∀(xs l:List Int),v∈l→placeS (addAll l xs) v=placeS l v
 | [],_,_=>rfl
 | x :: r,l,h=>by rw [addAll_cons,place_addAll r _ ((mem_addV _ _ _).2 (.inl h)),place_addV h]
theorem place_self {l:List Int} {x:Int} (hx:x∉l):placeS (l++[x]) x=(l.length:Int):=by
 unfold placeS
 rw [if_pos (by simp),List.idxOf_append,if_neg hx]
 simp
def IntMap (D:DataW Unit) (ns:List Int):Prop :=
 Tidy D∧Maps.size D=ns.length∧(∀n:Int,Maps.has D (.int .i64 n)=decide (n∈ns))∧∀n∈ns,D.atKey (.int .i64 n) (.lit (.int .i64 0))=.lit (.int .i64 (placeS ns n))
theorem IntMap.nil:IntMap (.map []) []:=⟨tidy_empty,rfl,fun s=>by simp [has_eq],fun s h=>by cases h⟩
theorem IntMap.put {D:DataW Unit} {ns:List Int} (h:IntMap D ns) {x:Int} (hx:x∉ns):IntMap (D.put (.int .i64 x) (.lit (.int .i64 (ns.length:Int)))) (ns++[x]):=by
 refine ⟨h.1.put (by simp [WideAt.IsKeyLit]) _,?_,fun n=>?_,fun n hm=>?_⟩
 ·rw [size_put h.1,h.2.2.1 x,h.2.1]
  simp [hx]
 ·by_cases e:n=x
  ·subst e
   rw [has_put_same h.1.isMap (by simp [WideAt.IsKeyLit])]
   simp
  ·rw [has_put_other (fun e2=>e (by injection e2)),h.2.2.1 n]
   simp [e]
 ·by_cases e:n=x
  ·subst e
   rw [atKey_put_same h.1.isMap (by simp [WideAt.IsKeyLit]),place_self hx]
  ·have hm2:n∈ns:=by simpa [e] using hm
   rw [atKey_put_other (fun e2=>e (by injection e2)),h.2.2.2 n hm2]
   unfold placeS
   rw [if_pos hm2,if_pos hm,List.idxOf_append,if_pos hm2]
def NumM (w:World) (b:Nat) (ns:List Int):Prop:=∃D,IntMap D ns∧w.ownsMap Tryz.prog 3 (plainElem Tryz.prog 3) b ns.length D
section
variable {w w':World} {b:Nat} {ns:List Int}
theorem NumM.of (h:NumM w b ns) (hb:w'.heap[b]?=w.heap[b]?):NumM w' b ns:=by
 obtain ⟨D,hD,es,clock,e1,e2⟩:=h
 exact ⟨D,hD,es,clock,by rw [hb];exact e1,e2⟩
theorem NumM.lt (h:NumM w b ns):b < w.heap.size:=by
 obtain ⟨D,hD,es,clock,e1,e2⟩:=h
 rcases Nat.lt_or_ge b w.heap.size with h|h
 ·exact h
 ·rw [Array.getElem?_eq_none h] at e1;cases e1
theorem NumM.below (h:NumM w b ns) (hb:Below w.heap.size w w'):NumM w' b ns:=h.of (hb.block b h.lt)
theorem NumM.set (h:NumM w b ns) {p:Addr} (hp:p.block≠b) (v:Value):NumM (w.setCell p v) b ns:=h.of (Below.heap_setCell _ _ _ _ (Ne.symm hp))
theorem NumM.set4 (h:NumM w b ns) {g q0 q1 q2 q3:Nat} (hg:g≠b) (u0 u1 u2 u3:Value):NumM ((((w.setCell ⟨g,q0,none⟩ u0).setCell ⟨g,q1,none⟩ u1).setCell ⟨g,q2,none⟩ u2).setCell ⟨g,q3,none⟩ u3) b ns:=h.of (heap_set4 _ (Ne.symm hg) _ _ _ _)
end
theorem mzero_int (w:World):(zeroValue 3).run Tryz.prog w=.ok (.int .i64 0) w:=by kernel_rfl
section
variable {R g lo j:Nat} {w w' wr:World} {l:List Tm} {f:Tm→Tm}
theorem Row4.keeps (h:Row4 w g l) (k:Keeps R w w') (hR:g≠R):Row4 w' g l :=
 ⟨Nat.lt_of_lt_of_le h.1 k.size,fun j=>(k.frozen (p:=⟨g,j,none⟩) h.1 hR).trans (h.2.1 j),fun i j u hi hu=>(k.cell (p:=⟨g,4*i+j,none⟩) h.1 hR).trans (h.2.2 i j u hi hu)⟩
theorem Putting.keeps (h:Putting f l g lo j wr) (k:Keeps R wr w') (hR:R < lo) (hg:g≠R):Putting f l g lo j w':=by
 obtain ⟨news,hn,hs,hr,hk⟩:=h
 exact ⟨news,hn,hs,hr.keeps k hg,fun x hx=>(hk x hx).keeps k (.inl hR)⟩
theorem Held.keeps {B:Nat} {v0 v1 v2 v3:Value} (h:Held B w v0 v1 v2 v3) (k:Keeps R w w') (hB:B≠R):Held B w' v0 v1 v2 v3 :=
 ⟨Nat.lt_of_lt_of_le h.lt k.size,(k.cell (p:=⟨B,0,none⟩) h.lt hB).trans h.c0,(k.cell (p:=⟨B,1,none⟩) h.lt hB).trans h.c1,(k.cell (p:=⟨B,2,none⟩) h.lt hB).trans h.c2,(k.cell (p:=⟨B,3,none⟩) h.lt hB).trans h.c3,fun j=>(k.frozen (p:=⟨B,j,none⟩) h.lt hB).trans (h.free j)⟩
theorem HeldL.keeps {B:Nat} {vs:List Value} (h:HeldL B w vs) (k:Keeps R w w') (hB:B≠R):HeldL B w' vs :=
 ⟨Nat.lt_of_lt_of_le h.lt k.size,fun j v hv=>(k.cell (p:=⟨B,j,none⟩) h.lt hB).trans (h.cell j v hv),fun j=>(k.frozen (p:=⟨B,j,none⟩) h.lt hB).trans (h.free j)⟩
theorem LP.keeps {P:World→Prop} (h:LP P lo w) (k:Keeps R w w') (hR:R < lo):LP P lo w':=fun W hW=>h W fun b h1 h2 h3=>(hW b h1 (Nat.lt_of_lt_of_le h2 k.size) h3).trans (k.block b h2 (by omega))
theorem putting_next_k {w2:World} {u x:Tm} (h:Putting f l g lo j wr) (hj:j < l.length) (hx:x=l.getD j default) (hlo:lo≤wr.heap.size) (hu:u.strip=(f x).strip) (hst:Lie Any wr.heap.size No w2 u) (hb:Keeps R wr w2) (hR:R < lo) (hgR:g≠R) (w3:World)
  (h3:w3=(((w2.setCell ⟨g,j*4,none⟩ (.int .i64 u.kind)).setCell ⟨g,j*4+1,none⟩ (.int .i64 u.num)).setCell ⟨g,j*4+2,none⟩ (.string u.name)).setCell ⟨g,j*4+3,none⟩ (.slice u.at_ u.args.length u.cap)) :
  Putting f l g lo (j+1) w3:=by
 have hg:=h.lt
 obtain ⟨news,hn,hs,hr,hk⟩:=h
 have hlen:(news++l.drop j).length=l.length:=by simp;omega
 have hr2:=hr.keeps hb hgR
 have hr3:=hr2.store (i:=j) (by omega) u
 rw [←h3] at hr3
 have hset:(news++l.drop j).set j u=(news++[u])++l.drop (j+1):=by
  rw [List.set_append_right _ _ (by omega),hn,Nat.sub_self,List.drop_eq_getElem_cons hj,List.set_cons_zero,List.append_assoc]
  rfl
 rw [hset] at hr3
 have hset4:∀y:Tm,Lie Any lo (Is g) w2 y→Lie Any lo (Is g) w3 y:=fun y hy=>by
  rw [h3]
  exact (((hy.set (p:=⟨g,j*4,none⟩) (.inr rfl) _).set (p:=⟨g,j*4+1,none⟩) (.inr rfl) _).set (p:=⟨g,j*4+2,none⟩) (.inr rfl) _).set (p:=⟨g,j*4+3,none⟩) (.inr rfl) _
 refine ⟨news++[u],by simp [hn],?_,hr3,fun y hy=>hset4 y ?_⟩
 ·rw [ttake_next hj,List.map_append,stripL_append,stripL_append,hs,← hx]
  simp [stripL,hu]
 ·rcases List.mem_append.1 hy with hy|hy
  ·exact (hk y hy).keeps hb (.inl hR)
  ·obtain rfl:y=u:=by simpa using hy
   exact (hst.new_is hg).low hlo
theorem Row4.store1 (h:Row4 w g l) {i:Nat} (hi:i < l.length) (u:Tm) (h0:u.kind=(l.getD i default).kind) (h1:u.num=(l.getD i default).num) (h2:u.name=(l.getD i default).name) :
  Row4 (w.setCell ⟨g,i*4+3,none⟩ (.slice u.at_ u.args.length u.cap)) g (l.set i u):=by
 refine ⟨by simpa using h.1,fun j=>by rw [World.frozen?_setCell];exact h.2.1 j,fun i' j v hi' hv=>?_⟩
 rw [List.length_set] at hi'
 have hj:j < 4:=by
  have:=(List.getElem?_eq_some_iff.1 hv).1
  simpa [Tm.cells] using this
 by_cases e:i'=i
 ·subst e
  have ev:(l.set i' u).getD i' default=u:=by simp [List.getD,hi']
  rw [ev] at hv
  by_cases e3:j=3
  ·subst e3
   obtain rfl:v=.slice u.at_ u.args.length u.cap:=by
    have:u.cells[3]?=some (.slice u.at_ u.args.length u.cap):=rfl
    rw [this] at hv;exact (Option.some.inj hv).symm
   rw [Nat.mul_comm 4]
   exact World.cell?_setCell_same' _ _ _ (h.some_cell hi 3 (by omega))
  ·rw [World.cell?_setCell_other _ _ _ _ (fun e2=>by injection e2 with _ e2 _;omega)]
   refine h.2.2 i' j v hi' ?_
   rw [←hv]
   match j,hj,e3 with
   | 0,_,_=>simp only [Tm.cells,h0];rfl
   | 1,_,_=>simp only [Tm.cells,h1];rfl
   | 2,_,_=>simp only [Tm.cells,h2];rfl
   | 3,_,e3=>exact absurd rfl e3
 ·have ev:(l.set i u).getD i' default=l.getD i' default:=by simp [List.getD,Ne.symm e]
  rw [ev] at hv
  rw [World.cell?_setCell_other _ _ _ _ (fun e2=>by injection e2 with _ e2 _;omega)]
  exact h.2.2 i' j v hi' hv
theorem putting_next1 {w2:World} {u x:Tm} (h:Putting f l g lo j wr) (hj:j < l.length) (hx:x=l.getD j default) (hlo:lo≤wr.heap.size) (h0:u.kind=x.kind) (h1:u.num=x.num) (h2:u.name=x.name) (hu:u.strip=(f x).strip) (hst:Lie Any wr.heap.size No w2 u) (hb:Below wr.heap.size wr w2) (w3:World)
  (h3:w3=w2.setCell ⟨g,j*4+3,none⟩ (.slice u.at_ u.args.length u.cap)):Putting f l g lo (j+1) w3:=by
 have hg:=h.lt
 obtain ⟨news,hn,hs,hr,hk⟩:=h
 have hgx:(news++l.drop j).getD j default=x:=by
  rw [hx]
  simp [List.getD,List.getElem?_append_right (show news.length≤j by omega),hn]
 have hr3:=(hr.below hb).store1 (i:=j) (by simp;omega) u (by rw [hgx];exact h0) (by rw [hgx];exact h1) (by rw [hgx];exact h2)
 rw [←h3] at hr3
 have hset:(news++l.drop j).set j u=(news++[u])++l.drop (j+1):=by
  rw [List.set_append_right _ _ (by omega),hn,Nat.sub_self,List.drop_eq_getElem_cons hj,List.set_cons_zero,List.append_assoc]
  rfl
 rw [hset] at hr3
 refine ⟨news++[u],by simp [hn],?_,hr3,fun y hy=>?_⟩
 ·rw [ttake_next hj,List.map_append,stripL_append,stripL_append,hs,← hx]
  simp [stripL,hu]
 ·rw [h3]
  refine Lie.set (X:=Is g) ?_ (p:=⟨g,j*4+3,none⟩) (.inr rfl) _
  rcases List.mem_append.1 hy with hy|hy
  ·exact (hk y hy).below hb
  ·obtain rfl:y=u:=by simpa using hy
   exact (hst.new_is hg).low hlo
end
set_option maxHeartbeats 2000000 in
set_option maxRecDepth 10000 in
theorem num_v_at (b:Nat) (ns:List Int) (v:Int) (hv:Fits v) (w:World) (h:NumM w b ns) (hn:ns.length≤1000000) :
  Calls Tryz.prog 161 #[.map (some b),.int .i64 v] w fun e w'=>e=.returned (.int .i64 (placeS (addV ns v) v))∧NumM w' b (addV ns v)∧Keeps b w w':=by
 have hkey:keyOf Tryz.prog 3 (.int .i64 v)=some (.int .i64 v):=keyOf_int_mk Tryz.underlying3 (fits_wf hv)
 have HN:=Lib.hid h
 obtain ⟨D,hD,hM⟩:=h
 have HM:=Lib.hid hM
 have HD:=Lib.hid hD
 have hlt:=(HN.out).lt
 obtain ⟨kn,hkn⟩:∃q,Maps.has D (.int .i64 v)=q:=⟨_,rfl⟩
 have HX:=Lib.hid (show kn=decide (v∈ns) by rw [←hkn];exact hD.2.2.1 v)
 by_cases hm:v∈ns
 ·obtain rfl:kn=true:=by rw [HX.out];simpa using hm
  have ha:addV ns v=ns:=by unfold addV;rw [if_pos hm]
  have HE:=Lib.hid (show ∀cL:Int,D.atKey (.int .i64 v) (.lit (.int .i64 0))=.lit (.int .i64 cL)→cL=placeS ns v from fun cL h1=>by
   have:=hD.2.2.2 v hm
   rw [h1] at this
   injection this with this
   injection this)
  rw [ha]
  clear hD hM hm ha
  go_enter Tryz.func161,Tryz.ntmps161
  go_wp2_with (at_lookup;refine wpList_lookup_own_ok_int _ rfl _ _ 79 rfl 3 3 .i64 keyed Tryz.underlying79 Tryz.underlying3 (mzero_int _) b ns.length D rfl HM.out _ _ rfl hkey ?_;intro cL hat hwc;rw [hkn];have HA:=Lib.hid hat;clear hat)
  go_ret
  exact ⟨by rw [HE.out cL HA.out];rfl,HN.out,Keeps.refl _ _⟩
 ·obtain rfl:kn=false:=by rw [HX.out];simpa using hm
  have ha:addV ns v=ns++[v]:=by unfold addV;rw [if_neg hm]
  have HP:=Lib.hid (place_self hm)
  have HPut:=Lib.hid (hD.put hm)
  have hsz:Maps.size D=ns.length:=hD.2.1
  have HI:=Lib.hid (show plainElem (H:=Unit) Tryz.prog 3 (.int .i64 (ns.length:Int))=some (.lit (.int .i64 (ns.length:Int)),[]) from plainElem_int Tryz.underlying3 (fits_wf (by unfold Fits;omega)))
  rw [ha]
  clear hD hM hm ha
  go_enter Tryz.func161,Tryz.ntmps161
  go_wp2_with (first
   | (at_lookup;refine wpList_lookup_own_ok_int _ rfl _ _ 79 rfl 3 3 .i64 keyed Tryz.underlying79 Tryz.underlying3 (mzero_int _) b ns.length D rfl HM.out _ _ rfl hkey ?_;intro cL hat hwc;rw [hkn];clear hat hwc)
   | (at_len;refine wpList_len_own _ rfl _ 79 rfl 3 3 Tryz.underlying79 _ b ns.length D rfl HM.out ?_;rw [hsz])
   | (at_mapUpdate;refine wpList_mapUpdate_own _ rfl _ _ _ 79 rfl 3 3 keyed Tryz.underlying79 _ b ns.length D rfl HM.out (by unfold maxLen;omega) _ _ (.int .i64 v) rfl rfl hkey (.lit (.int .i64 (ns.length:Int))) [] HI.out ?_;intro w1 hown1 hg1;have HO1:=Lib.hid hown1;have HG1:=Lib.hid hg1;clear hown1 hg1))
  go_ret
  refine ⟨by rw [HP.out];rfl,⟨_,HPut.out,by rw [List.length_append];exact HO1.out⟩,⟨HG1.out.os,HG1.out.tape,HG1.out.output,HG1.out.size,fun k hk hr=>HG1.out.block k hk (fun e=>hr (Option.some.inj e))⟩⟩
end Go.Proofs.YtnghanpmmbcbbaaGreatDoor
namespace Go.Proofs.YtnghanpmmbcbbaaGreatDoor
open Go.RowKit
set_option maxHeartbeats 4000000 in
theorem copies_at:∀(n:Nat) (A:Option Addr) (l:List Tm) (c:Nat) (w:World),nodesL l=n→n≤1000000→Lst w A l c →
  Calls Tryz.prog 162 #[.slice A l.length c] w (MadeL l w):=by
 intro n
 induction n using Nat.strongRecOn with
 | _ n ih =>
  intro A l c w hn hn2 hl
  by_cases h0:l.length=0
  ·obtain rfl:l=[]:=List.length_eq_zero_iff.1 h0
   have Q:=Lib.hid (clone_none_at A c w)
   clear ih hl h0 hn hn2
   show Calls Tryz.prog 162 #[.slice A 0 c] w _
   go_enter Tryz.func162,Tryz.ntmps162
   go_wp2_with fail
   refine (Q.out).mono ?_
   rintro e w1 ⟨A',cap,rfl,h1,h2,_,hb⟩
   have HC:=Lib.hid (show Lst w1 A' [] cap from ⟨h1,h2,fun h=>by simp at h⟩)
   clear h1 h2
   go_wp2_with fail
   go_loopw [9] (fun i wr=>i=.int .i64 0∧Below w.heap.size w wr) (fun _ _=>0)
   case atStart=>exact ⟨rfl,hb⟩
   case round =>
    obtain ⟨rfl,hbw⟩:=hrel
    go_wp2_with fail
    go_ret
    exact ⟨A',cap,[],rfl,rfl,rfl,fun W _=>⟨HC.out.1,HC.out.2.1,fun h=>by simp at h⟩,hbw⟩
  ·have hp:0 < l.length:=by omega
   obtain ⟨b0,o,rfl,hrow⟩:=hl.2.2 hp
   have hln:l.length≤1000000:=by have:=length_le_nodes l;omega
   have hlen:l.length≤9223372036854775807:=by omega
   have Q:=Lib.hid (clone_at l b0 o c w hp hrow hln)
   have QI:=Lib.hid (fun (j:Nat) (hj:j < l.length) W (hb:Below w.heap.size w W)=>ih (nodesL (l.getD j default).args) (by rw [←hn];exact nodes_in hj) (l.getD j default).at_ (l.getD j default).args (l.getD j default).cap W rfl (by have:=nodes_in hj;omega) ((hl.mem (getD_mem hj)).below hb).lst)
   have HFT:=Lib.hid (fun (j:Nat) (hj:j < l.length)=>((At_iff _ _).1 (hl.mem (getD_mem hj))).1)
   clear ih hrow hln h0 hl hn hn2
   go_enter Tryz.func162,Tryz.ntmps162
   go_wp2_with fail
   refine (Q.out).mono ?_
   rintro e w1 ⟨A',cap,rfl,h1,h2,h3,hb⟩
   obtain ⟨g,rfl,hg,hrow⟩:=h3 hp
   have HD:=Lib.hid (Putting.start (f:=id) (lo:=w.heap.size) hrow)
   have hcap:l.length≤cap:=h1
   have hcap2:cap≤9223372036854775807:=by unfold maxLen at h2;exact h2
   have HG:=Lib.hid hg
   clear hrow h3 h1 h2 hg
   go_wp2_with fail
   go_loopw [9] (fun i wr=>∃j:Nat,j≤l.length∧i=.int .i64 j∧Hid (Putting id l g w.heap.size j wr)∧Below w.heap.size w wr) (fun i _=>l.length - (intOf i).toNat)
   case atStart=>exact ⟨0,Nat.zero_le _,rfl,HD,hb⟩
   case round =>
    obtain ⟨j,hj,rfl,HF,hbw⟩:=hrel
    clear hb HD
    by_cases hlt:j < l.length
    ·obtain ⟨x,hx⟩:∃x,x=l.getD j default:=⟨_,rfl⟩
     have hcl:=HF.out.cells hlt
     have Q1:=Lib.hid (fun W (h:Below w.heap.size w W)=>QI.out j hlt W h)
     have HP:=Lib.hid (HFT.out j hlt)
     rw [←hx] at hcl Q1 HP
     have c0:=hcl 0 _ rfl
     have c1:=hcl 1 _ rfl
     have c2:=hcl 2 _ rfl
     have c3:=hcl 3 _ rfl
     simp only [Nat.add_zero] at c0
     have HX:=Lib.hid hx
     have hgs:g < wr.heap.size:=HF.out.lt
     clear hx hcl QI
     obtain ⟨k',n',s',A',c',a'⟩:=x
     simp only [Tm.kind,Tm.num,Tm.name,Tm.at_,Tm.args,Tm.cap] at c0 c1 c2 c3 Q1 HP
     go_wp2_with fail
     refine (Q1.out _ (hbw.alloc hbw.size _)).mono ?_
     rintro e w2 ⟨A2,p2,cur,rfl,hcl,hst,hL,hb2⟩
     have hw:Below wr.heap.size wr w2:=(below1 wr _).trans (hb2.mono (by simp))
     have HN:=Lib.hid (putting_next1 (u:=.mk k' n' s' A2 p2 cur) HF.out hlt HX.out hbw.size rfl rfl rfl (by simp only [Tm.strip,id];rw [hst]) (lie_row (w:=wr) (lo:=wr.heap.size+1) HP.out (fun W hW=>hL W fun b' h1 h2 h3=>hW b' (by simp at h1;omega) h2 h3) (by omega)) hw _ rfl)
     have D2:=Lib.hid (HF.out.below hw)
     have hbx:=hbw.trans (hw.mono hbw.size)
     have e0:=D2.out.cells hlt
     rw [←HX.out] at e0
     have q3:=e0 3 _ rfl
     simp only [Tm.at_,Tm.args,Tm.cap] at q3
     have f3:=D2.out.free (j*4+3)
     have hgz:=D2.out.lt
     simp only [Tm.at_,Tm.args,Tm.cap] at HN
     rw [hcl] at HN
     clear e0 hcl hst hL hb2 c0 c1 c2 c3 hw
     go_wp2_with fail
     go_roundw
     case rel=>exact ⟨j+1,by omega,by go_num,HN,hbx.setCell HG.out _⟩
     case measure=>simp [intOf];omega
    ·obtain rfl:j=l.length:=by omega
     clear QI
     obtain ⟨news,hn,hst,hL⟩:=HF.out.done (w':=wr) HG.out (Nat.le_refl _) (fun _ _ _=>rfl) cap hcap (by unfold maxLen;exact hcap2)
     have HL:=Lib.hid hL
     have HN:=Lib.hid hn
     have HS:=Lib.hid (show stripL news=stripL l by rw [List.map_id] at hst;exact hst)
     clear hn hst hL HF
     go_wp2_with fail
     go_ret
     exact ⟨_,cap,news,rfl,HN.out,HS.out,HL.out,hbw⟩
end Go.Proofs.YtnghanpmmbcbbaaGreatDoor
