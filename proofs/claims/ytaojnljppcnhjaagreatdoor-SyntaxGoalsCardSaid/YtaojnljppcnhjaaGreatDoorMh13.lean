/-
  TkSymB.
  TkSymbol.
  TkSpan.
 TkBounds.
 TkSkip.
 TkNext.
-/
import Derived.Test.YtaojnljppcnhjaaGreatDoorMh12
import Derived.WalkSpells
import Derived.Deep.QuietTactic
import Derived.BigQuiet
import Derived.Lib.Bytealg
namespace Go.Proofs.YtaojnljppcnhjaaGreatDoor
open Go.RowKit
def symB (l:List UInt8):Bool:=decide (l∈syms)
theorem sym_is0 (w:World):Calls Tryz.prog 138 #[.string ⟨#[64]⟩] w fun e w'=>e=.returned (.bool true)∧w=w':=by
 go_enter Tryz.func138,Tryz.ntmps138
 go_wp2
 go_ret
 exact ⟨rfl,rfl⟩
theorem sym_is1 (w:World):Calls Tryz.prog 138 #[.string ⟨#[44]⟩] w fun e w'=>e=.returned (.bool true)∧w=w':=by
 go_enter Tryz.func138,Tryz.ntmps138
 go_wp2
 go_ret
 exact ⟨rfl,rfl⟩
theorem sym_is2 (w:World):Calls Tryz.prog 138 #[.string ⟨#[46]⟩] w fun e w'=>e=.returned (.bool true)∧w=w':=by
 go_enter Tryz.func138,Tryz.ntmps138
 go_wp2
 go_ret
 exact ⟨rfl,rfl⟩
theorem sym_is3 (w:World):Calls Tryz.prog 138 #[.string ⟨#[40]⟩] w fun e w'=>e=.returned (.bool true)∧w=w':=by
 go_enter Tryz.func138,Tryz.ntmps138
 go_wp2
 go_ret
 exact ⟨rfl,rfl⟩
theorem sym_is4 (w:World):Calls Tryz.prog 138 #[.string ⟨#[41]⟩] w fun e w'=>e=.returned (.bool true)∧w=w':=by
 go_enter Tryz.func138,Tryz.ntmps138
 go_wp2
 go_ret
 exact ⟨rfl,rfl⟩
theorem sym_is5 (w:World):Calls Tryz.prog 138 #[.string ⟨#[124]⟩] w fun e w'=>e=.returned (.bool true)∧w=w':=by
 go_enter Tryz.func138,Tryz.ntmps138
 go_wp2
 go_ret
 exact ⟨rfl,rfl⟩
theorem sym_is6 (w:World):Calls Tryz.prog 138 #[.string ⟨#[47]⟩] w fun e w'=>e=.returned (.bool true)∧w=w':=by
 go_enter Tryz.func138,Tryz.ntmps138
 go_wp2
 go_ret
 exact ⟨rfl,rfl⟩
theorem sym_is7 (w:World):Calls Tryz.prog 138 #[.string ⟨#[92]⟩] w fun e w'=>e=.returned (.bool true)∧w=w':=by
 go_enter Tryz.func138,Tryz.ntmps138
 go_wp2
 go_ret
 exact ⟨rfl,rfl⟩
theorem sym_is8 (w:World):Calls Tryz.prog 138 #[.string ⟨#[43]⟩] w fun e w'=>e=.returned (.bool true)∧w=w':=by
 go_enter Tryz.func138,Tryz.ntmps138
 go_wp2
 go_ret
 exact ⟨rfl,rfl⟩
theorem sym_is9 (w:World):Calls Tryz.prog 138 #[.string ⟨#[45]⟩] w fun e w'=>e=.returned (.bool true)∧w=w':=by
 go_enter Tryz.func138,Tryz.ntmps138
 go_wp2
 go_ret
 exact ⟨rfl,rfl⟩
theorem sym_is10 (w:World):Calls Tryz.prog 138 #[.string ⟨#[42]⟩] w fun e w'=>e=.returned (.bool true)∧w=w':=by
 go_enter Tryz.func138,Tryz.ntmps138
 go_wp2
 go_ret
 exact ⟨rfl,rfl⟩
theorem sym_is11 (w:World):Calls Tryz.prog 138 #[.string ⟨#[37]⟩] w fun e w'=>e=.returned (.bool true)∧w=w':=by
 go_enter Tryz.func138,Tryz.ntmps138
 go_wp2
 go_ret
 exact ⟨rfl,rfl⟩
theorem sym_is12 (w:World):Calls Tryz.prog 138 #[.string ⟨#[61]⟩] w fun e w'=>e=.returned (.bool true)∧w=w':=by
 go_enter Tryz.func138,Tryz.ntmps138
 go_wp2
 go_ret
 exact ⟨rfl,rfl⟩
theorem sym_is13 (w:World):Calls Tryz.prog 138 #[.string ⟨#[61,61]⟩] w fun e w'=>e=.returned (.bool true)∧w=w':=by
 go_enter Tryz.func138,Tryz.ntmps138
 go_wp2
 go_ret
 exact ⟨rfl,rfl⟩
theorem sym_is14 (w:World):Calls Tryz.prog 138 #[.string ⟨#[92,61]⟩] w fun e w'=>e=.returned (.bool true)∧w=w':=by
 go_enter Tryz.func138,Tryz.ntmps138
 go_wp2
 go_ret
 exact ⟨rfl,rfl⟩
theorem sym_is15 (w:World):Calls Tryz.prog 138 #[.string ⟨#[60]⟩] w fun e w'=>e=.returned (.bool true)∧w=w':=by
 go_enter Tryz.func138,Tryz.ntmps138
 go_wp2
 go_ret
 exact ⟨rfl,rfl⟩
theorem sym_is16 (w:World):Calls Tryz.prog 138 #[.string ⟨#[61,60]⟩] w fun e w'=>e=.returned (.bool true)∧w=w':=by
 go_enter Tryz.func138,Tryz.ntmps138
 go_wp2
 go_ret
 exact ⟨rfl,rfl⟩
theorem sym_is17 (w:World):Calls Tryz.prog 138 #[.string ⟨#[62]⟩] w fun e w'=>e=.returned (.bool true)∧w=w':=by
 go_enter Tryz.func138,Tryz.ntmps138
 go_wp2
 go_ret
 exact ⟨rfl,rfl⟩
theorem sym_is18 (w:World):Calls Tryz.prog 138 #[.string ⟨#[62,61]⟩] w fun e w'=>e=.returned (.bool true)∧w=w':=by
 go_enter Tryz.func138,Tryz.ntmps138
 go_wp2
 go_ret
 exact ⟨rfl,rfl⟩
theorem sym_is19 (w:World):Calls Tryz.prog 138 #[.string ⟨#[61,58,61]⟩] w fun e w'=>e=.returned (.bool true)∧w=w':=by
 go_enter Tryz.func138,Tryz.ntmps138
 go_wp2
 go_ret
 exact ⟨rfl,rfl⟩
theorem sym_is20 (w:World):Calls Tryz.prog 138 #[.string ⟨#[61,92,61]⟩] w fun e w'=>e=.returned (.bool true)∧w=w':=by
 go_enter Tryz.func138,Tryz.ntmps138
 go_wp2
 go_ret
 exact ⟨rfl,rfl⟩
theorem sym_is21 (w:World):Calls Tryz.prog 138 #[.string ⟨#[60,61,62]⟩] w fun e w'=>e=.returned (.bool true)∧w=w':=by
 go_enter Tryz.func138,Tryz.ntmps138
 go_wp2
 go_ret
 exact ⟨rfl,rfl⟩
theorem sym_is22 (w:World):Calls Tryz.prog 138 #[.string ⟨#[61,61,62]⟩] w fun e w'=>e=.returned (.bool true)∧w=w':=by
 go_enter Tryz.func138,Tryz.ntmps138
 go_wp2
 go_ret
 exact ⟨rfl,rfl⟩
set_option maxHeartbeats 1000000 in
theorem sym_not (s:ByteArray) (w:World) (h0:s.data.toList≠[64]) (h1:s.data.toList≠[44]) (h2:s.data.toList≠[46]) (h3:s.data.toList≠[40]) (h4:s.data.toList≠[41]) (h5:s.data.toList≠[124]) (h6:s.data.toList≠[47]) (h7:s.data.toList≠[92]) (h8:s.data.toList≠[43]) (h9:s.data.toList≠[45]) (h10:s.data.toList≠[42]) (h11:s.data.toList≠[37]) (h12:s.data.toList≠[61]) (h13:s.data.toList≠[61,61]) (h14:s.data.toList≠[92,61]) (h15:s.data.toList≠[60]) (h16:s.data.toList≠[61,60]) (h17:s.data.toList≠[62]) (h18:s.data.toList≠[62,61]) (h19:s.data.toList≠[61,58,61]) (h20:s.data.toList≠[61,92,61]) (h21:s.data.toList≠[60,61,62]) (h22:s.data.toList≠[61,61,62]):Calls Tryz.prog 138 #[.string s] w fun e w'=>e=.returned (.bool false)∧w=w':=by
 have n0:=raw_ne h0
 have n1:=raw_ne h1
 have n2:=raw_ne h2
 have n3:=raw_ne h3
 have n4:=raw_ne h4
 have n5:=raw_ne h5
 have n6:=raw_ne h6
 have n7:=raw_ne h7
 have n8:=raw_ne h8
 have n9:=raw_ne h9
 have n10:=raw_ne h10
 have n11:=raw_ne h11
 have n12:=raw_ne h12
 have n13:=raw_ne h13
 have n14:=raw_ne h14
 have n15:=raw_ne h15
 have n16:=raw_ne h16
 have n17:=raw_ne h17
 have n18:=raw_ne h18
 have n19:=raw_ne h19
 have n20:=raw_ne h20
 have n21:=raw_ne h21
 have n22:=raw_ne h22
 clear h0 h1 h2 h3 h4 h5 h6 h7 h8 h9 h10 h11 h12 h13 h14 h15 h16 h17 h18 h19 h20 h21 h22
 go_enter Tryz.func138,Tryz.ntmps138
 go_wp2
 go_ret
 exact ⟨rfl,rfl⟩
theorem symb_at (s:ByteArray) (w:World) {r:Bool} (hr:symB s.data.toList=r) :
  Calls Tryz.prog 138 #[.string s] w fun e w'=>e=.returned (.bool r)∧w=w':=by
 by_cases h0:s.data.toList=[64]
 ·obtain rfl:=str_of h0
  obtain rfl:true=r:=by rw [←hr];decide
  exact sym_is0 w
 by_cases h1:s.data.toList=[44]
 ·obtain rfl:=str_of h1
  obtain rfl:true=r:=by rw [←hr];decide
  exact sym_is1 w
 by_cases h2:s.data.toList=[46]
 ·obtain rfl:=str_of h2
  obtain rfl:true=r:=by rw [←hr];decide
  exact sym_is2 w
 by_cases h3:s.data.toList=[40]
 ·obtain rfl:=str_of h3
  obtain rfl:true=r:=by rw [←hr];decide
  exact sym_is3 w
 by_cases h4:s.data.toList=[41]
 ·obtain rfl:=str_of h4
  obtain rfl:true=r:=by rw [←hr];decide
  exact sym_is4 w
 by_cases h5:s.data.toList=[124]
 ·obtain rfl:=str_of h5
  obtain rfl:true=r:=by rw [←hr];decide
  exact sym_is5 w
 by_cases h6:s.data.toList=[47]
 ·obtain rfl:=str_of h6
  obtain rfl:true=r:=by rw [←hr];decide
  exact sym_is6 w
 by_cases h7:s.data.toList=[92]
 ·obtain rfl:=str_of h7
  obtain rfl:true=r:=by rw [←hr];decide
  exact sym_is7 w
 by_cases h8:s.data.toList=[43]
 ·obtain rfl:=str_of h8
  obtain rfl:true=r:=by rw [←hr];decide
  exact sym_is8 w
 by_cases h9:s.data.toList=[45]
 ·obtain rfl:=str_of h9
  obtain rfl:true=r:=by rw [←hr];decide
  exact sym_is9 w
 by_cases h10:s.data.toList=[42]
 ·obtain rfl:=str_of h10
  obtain rfl:true=r:=by rw [←hr];decide
  exact sym_is10 w
 by_cases h11:s.data.toList=[37]
 ·obtain rfl:=str_of h11
  obtain rfl:true=r:=by rw [←hr];decide
  exact sym_is11 w
 by_cases h12:s.data.toList=[61]
 ·obtain rfl:=str_of h12
  obtain rfl:true=r:=by rw [←hr];decide
  exact sym_is12 w
 by_cases h13:s.data.toList=[61,61]
 ·obtain rfl:=str_of h13
  obtain rfl:true=r:=by rw [←hr];decide
  exact sym_is13 w
 by_cases h14:s.data.toList=[92,61]
 ·obtain rfl:=str_of h14
  obtain rfl:true=r:=by rw [←hr];decide
  exact sym_is14 w
 by_cases h15:s.data.toList=[60]
 ·obtain rfl:=str_of h15
  obtain rfl:true=r:=by rw [←hr];decide
  exact sym_is15 w
 by_cases h16:s.data.toList=[61,60]
 ·obtain rfl:=str_of h16
  obtain rfl:true=r:=by rw [←hr];decide
  exact sym_is16 w
 by_cases h17:s.data.toList=[62]
 ·obtain rfl:=str_of h17
  obtain rfl:true=r:=by rw [←hr];decide
  exact sym_is17 w
 by_cases h18:s.data.toList=[62,61]
 ·obtain rfl:=str_of h18
  obtain rfl:true=r:=by rw [←hr];decide
  exact sym_is18 w
 by_cases h19:s.data.toList=[61,58,61]
 ·obtain rfl:=str_of h19
  obtain rfl:true=r:=by rw [←hr];decide
  exact sym_is19 w
 by_cases h20:s.data.toList=[61,92,61]
 ·obtain rfl:=str_of h20
  obtain rfl:true=r:=by rw [←hr];decide
  exact sym_is20 w
 by_cases h21:s.data.toList=[60,61,62]
 ·obtain rfl:=str_of h21
  obtain rfl:true=r:=by rw [←hr];decide
  exact sym_is21 w
 by_cases h22:s.data.toList=[61,61,62]
 ·obtain rfl:=str_of h22
  obtain rfl:true=r:=by rw [←hr];decide
  exact sym_is22 w
 obtain rfl:false=r:=by
  rw [←hr]
  simp only [symB,syms,List.mem_cons,List.not_mem_nil,or_false,h0,h1,h2,h3,h4,h5,h6,h7,h8,h9,h10,h11,h12,h13,h14,h15,h16,h17,h18,h19,h20,h21,h22,decide_false]
 exact sym_not s w h0 h1 h2 h3 h4 h5 h6 h7 h8 h9 h10 h11 h12 h13 h14 h15 h16 h17 h18 h19 h20 h21 h22
end Go.Proofs.YtaojnljppcnhjaaGreatDoor
namespace Go.Proofs.YtaojnljppcnhjaaGreatDoor
open Go.RowKit
theorem sym_len:∀y∈syms,1≤y.length∧y.length≤3:=by decide
def NoneUp (l:List UInt8) (k:Nat):Prop:=∀j,k < j→j≤3→j≤l.length→l.take j∉syms
theorem sym_none {l:List UInt8} (h:NoneUp l 0):symP l=[]:=by
 obtain ⟨h1,h2,_⟩:=symP_facts l
 rcases h1 with h1|h1
 ·exact h1
 ·obtain ⟨h3,h4⟩:=sym_len _ h1
  exact absurd (by rw [←List.prefix_iff_eq_take.1 h2];exact h1) (h _ h3 h4 h2.length_le)
theorem sym_found {l:List UInt8} {k:Nat} (h:NoneUp l k) (hk:k≤l.length) (hm:l.take k∈syms):symP l=l.take k:=by
 refine symP_unique hm (List.take_prefix _ _) fun y hy hp=>?_
 rw [List.length_take,Nat.min_eq_left hk]
 rcases Nat.lt_or_ge k y.length with h1|h1
 ·exact absurd (by rw [←List.prefix_iff_eq_take.1 hp];exact hy) (h _ h1 (sym_len y hy).2 hp.length_le)
 ·exact h1
theorem none_next {l:List UInt8} {k:Nat} (h:NoneUp l k) (hk:l.take k∉syms):NoneUp l (k - 1):=fun j h1 h2 h3=>by
 by_cases e:j=k
 ·rw [e];exact hk
 ·exact h j (by omega) h2 h3
set_option maxHeartbeats 1000000 in
theorem symbol_loop (s:ByteArray) (q:Nat) (w:World) (hs:s.size≤100000) (hq:q≤s.size) :
  Calls Tryz.prog 123 #[.string s,.int .i64 (q:Int)] w fun e w'=>e=.returned (.string (S (symP (rest s q))))∧w=w':=by
 have QB:=Lib.hid symb_at
 have h1:¬s.size < q:=by omega
 have hl:=rest_len s q
 have HS:Hid (∀k:Nat,(s.extract q (q+k)).data.toList=(rest s q).take k):=Lib.hid fun k=>by rw [extract_list,Nat.add_sub_cancel_left]
 by_cases h3:(s.size:Int) - (q:Int) < 3
 all_goals
  go_enter Tryz.func123,Tryz.ntmps123
  go_wp2
  go_loop [5] (fun i=>∃k:Nat,k≤3∧q+k≤s.size∧i=.int .i64 (k:Int)∧Hid (NoneUp (rest s q) k)) (fun i=>(intOf i).toNat)
  case atStart=>first|exact ⟨3,Nat.le_refl _,by omega,rfl,fun j h1 h2 _=>by omega⟩|exact ⟨s.size - q,by omega,by omega,(by rw [show ((s.size - q:Nat):Int)=(s.size:Int) - (q:Int) by omega]),fun j h1 _ h2=>by omega⟩
  case round =>
   obtain ⟨k,hk3,hkq,rfl,hk⟩:=hrel
   by_cases h0:k=0
   ·subst h0
    have HV:=Lib.hid (sym_none hk.out)
    go_wp2
    go_ret
    exact ⟨by rw [HV.out];rfl,rfl⟩
   ·have h0':0 < k:=by omega
    have h63:¬(9223372036854775807 < (q:Int)+(k:Int)):=by omega
    have hqk:(q:Int)≤(q:Int)+(k:Int):=by omega
    have hsz:(q:Int)+(k:Int)≤(s.size:Int):=by omega
    have hX:=HS.out k
    have eN:((q:Int)+(k:Int)).toNat=q+k:=by omega
    obtain ⟨b,hb⟩:∃b,symB (s.extract q (q+k)).data.toList=b:=⟨_,rfl⟩
    have Q1:=Lib.hid (fun W=>QB.out (s.extract q (q+k)) W hb)
    rw [hX] at hb
    have HB:=Lib.hid hb
    have HX:=Lib.hid hX
    clear hb hX
    cases b
    ·have HN:=Lib.hid (none_next hk.out (by simpa [symB] using HB.out))
     go_wp2_with (go_at_call 138;refine (Q1.out _).mono ?_;rintro e w' ⟨rfl,rfl⟩)
     go_round
     case rel=>exact ⟨k - 1,by omega,by omega,by go_num,HN.out⟩
     case measure=>simp [intOf];omega
    ·have HN:=Lib.hid (sym_found hk.out (by omega) (by simpa [symB] using HB.out))
     go_wp2_with (go_at_call 138;refine (Q1.out _).mono ?_;rintro e w' ⟨rfl,rfl⟩)
     go_ret
     exact ⟨by rw [HN.out,← S_of HX.out];rfl,rfl⟩
end Go.Proofs.YtaojnljppcnhjaaGreatDoor
namespace Go.Proofs.YtaojnljppcnhjaaGreatDoor
open Go.RowKit
set_option maxHeartbeats 1000000 in
theorem span_word (s:ByteArray) (p:Nat) (w:World) (hs:s.size≤100000) (hp:p≤s.size) {n:Nat} (hn:p+runP inB s p=n) :
  Calls Tryz.prog 119 #[.string s,.int .i64 (p:Int),.func (.func 120) #[] #[]] w fun e w'=>e=.returned (.int .i64 (n:Int))∧w=w':=by
 have QF:=Lib.hid tk_word_at
 go_enter Tryz.func119,Tryz.ntmps119
 go_wp2
 go_loop [1] (fun i=>∃q:Nat,q≤s.size∧i=.int .i64 (q:Int)∧Hid (q+runP inB s q=n)) (fun i=>s.size - (intOf i).toNat)
 case atStart=>exact ⟨p,hp,rfl,hn⟩
 case round =>
  obtain ⟨q,hq,rfl,hk⟩:=hrel
  by_cases hlt:q < s.size
  ·have hlt':(q:Int) < (s.size:Int):=by omega
   obtain ⟨b1,hb1⟩:∃b,inB s[q]=b:=⟨_,rfl⟩
   have Q1:=Lib.hid (fun W=>QF.out s[q] W hb1)
   have HB:=Lib.hid hb1
   clear hb1
   cases b1
   ·have HE:=Lib.hid (show q=n by have:=hk.out;rw [runP_stop (fun _=>HB.out)] at this;exact this)
    go_wp2_with (go_at_call 120;refine (Q1.out _).mono ?_;rintro e w' ⟨rfl,rfl⟩)
    go_ret
    exact ⟨by rw [←HE.out];rfl,rfl⟩
   ·have HE:=Lib.hid (show (q+1)+runP inB s (q+1)=n by have:=hk.out;rw [runP_next hlt HB.out] at this;omega)
    have hq1:¬(9223372036854775807 < (q:Int)+1):=by omega
    go_wp2_with (go_at_call 120;refine (Q1.out _).mono ?_;rintro e w' ⟨rfl,rfl⟩)
    go_round
    case rel=>exact ⟨q+1,by omega,by go_num,HE.out⟩
    case measure=>simp [intOf];omega
  ·have HE:=Lib.hid (show q=n by have:=hk.out;rw [runP_stop (fun h=>absurd h hlt)] at this;exact this)
   go_wp2
   go_ret
   exact ⟨by rw [←HE.out];rfl,rfl⟩
set_option maxHeartbeats 1000000 in
theorem span_dig (s:ByteArray) (p:Nat) (w:World) (hs:s.size≤100000) (hp:p≤s.size) {n:Nat} (hn:p+runP digB s p=n) :
  Calls Tryz.prog 119 #[.string s,.int .i64 (p:Int),.func (.func 122) #[] #[]] w fun e w'=>e=.returned (.int .i64 (n:Int))∧w=w':=by
 have QF:=Lib.hid tk_dig_at
 go_enter Tryz.func119,Tryz.ntmps119
 go_wp2
 go_loop [1] (fun i=>∃q:Nat,q≤s.size∧i=.int .i64 (q:Int)∧Hid (q+runP digB s q=n)) (fun i=>s.size - (intOf i).toNat)
 case atStart=>exact ⟨p,hp,rfl,hn⟩
 case round =>
  obtain ⟨q,hq,rfl,hk⟩:=hrel
  by_cases hlt:q < s.size
  ·have hlt':(q:Int) < (s.size:Int):=by omega
   obtain ⟨b1,hb1⟩:∃b,digB s[q]=b:=⟨_,rfl⟩
   have Q1:=Lib.hid (fun W=>QF.out s[q] W hb1)
   have HB:=Lib.hid hb1
   clear hb1
   cases b1
   ·have HE:=Lib.hid (show q=n by have:=hk.out;rw [runP_stop (fun _=>HB.out)] at this;exact this)
    go_wp2_with (go_at_call 122;refine (Q1.out _).mono ?_;rintro e w' ⟨rfl,rfl⟩)
    go_ret
    exact ⟨by rw [←HE.out];rfl,rfl⟩
   ·have HE:=Lib.hid (show (q+1)+runP digB s (q+1)=n by have:=hk.out;rw [runP_next hlt HB.out] at this;omega)
    have hq1:¬(9223372036854775807 < (q:Int)+1):=by omega
    go_wp2_with (go_at_call 122;refine (Q1.out _).mono ?_;rintro e w' ⟨rfl,rfl⟩)
    go_round
    case rel=>exact ⟨q+1,by omega,by go_num,HE.out⟩
    case measure=>simp [intOf];omega
  ·have HE:=Lib.hid (show q=n by have:=hk.out;rw [runP_stop (fun h=>absurd h hlt)] at this;exact this)
   go_wp2
   go_ret
   exact ⟨by rw [←HE.out];rfl,rfl⟩
theorem valD_top:∀(l:List UInt8),l.foldl (fun (n:Int) c=>min (n*10+(c.toNat - 48:Int)) 2147483649) 2147483649=2147483649
 | []=>rfl
 | c :: l=>by
  rw [List.foldl_cons,Int.min_eq_right (by omega)]
  exact valD_top l
theorem valD_snoc (l:List UInt8) (c:UInt8):valD (l++[c])=min (valD l*10+(c.toNat - 48:Int)) 2147483649:=by simp [valD]
theorem valD_past {l m:List UInt8} (h:2147483648 < valD l):2147483648 < valD (l++m):=by
 have h1:valD l≤2147483649:=by
  rcases List.eq_nil_or_concat l with rfl|⟨k,c,rfl⟩
  ·decide
  ·rw [List.concat_eq_append,valD_snoc];exact Int.min_le_right _ _
 have h2:valD l=2147483649:=by omega
 unfold valD at h2 ⊢
 rw [List.foldl_append,h2,valD_top]
 omega
theorem valD_step {s:ByteArray} {k:Nat} {v:Int} (h:k < s.size) (hv:valD (s.data.toList.take k)=v):valD (s.data.toList.take (k+1))=min (v*10+(s[k].toNat - 48:Int)) 2147483649:=by
 rw [take_next h,valD_snoc,hv]
theorem take_all (s:ByteArray):s.data.toList.take s.size=s.data.toList:=List.take_of_length_le (by rw [len_str];exact Nat.le_refl _)
theorem valD_over {s:ByteArray} {k:Nat} (h:2147483648 < valD (s.data.toList.take k)):2147483648 < valD s.data.toList:=by
 rw [←List.take_append_drop k s.data.toList]
 exact valD_past h
theorem dig_range {c:UInt8} (h:digB c=true):48≤c.toNat∧c.toNat≤57:=by simpa [digB] using h
set_option maxHeartbeats 1000000 in
theorem range_at (s:ByteArray) (w:World) (hs:s.size≤100000) (hd:∀k (h:k < s.size),digB s[k]=true) {r:Bool} (hr:decide (valD s.data.toList≤2147483648)=r) :
  Calls Tryz.prog 126 #[.string s] w fun e w'=>e=.returned (.bool r)∧w=w':=by
 have HD:=Lib.hid hd
 have HR:=Lib.hid hr
 clear hd hr
 go_enter Tryz.func126,Tryz.ntmps126
 go_wp2
 go_loop [7,3] (fun i v=>∃(k:Nat) (x:Int),k≤s.size∧i=.int .i64 (k:Int)∧v=.int .i64 x∧0≤x∧x≤2147483648∧Hid (valD (s.data.toList.take k)=x)) (fun i _=>s.size - (intOf i).toNat)
 case atStart=>exact ⟨0,0,Nat.zero_le _,rfl,rfl,by decide,by decide,Lib.hid rfl⟩
 case round =>
  obtain ⟨k,x,hk,rfl,rfl,hx0,hx1,hv⟩:=hrel
  by_cases hlt:k < s.size
  ·have hlt':(k:Int) < (s.size:Int):=by omega
   obtain ⟨d1,d2⟩:=dig_range (HD.out k hlt)
   have hm:valD (s.data.toList.take (k+1))=min (x*10+(s[k].toNat - 48:Int)) 2147483649:=valD_step hlt hv.out
   by_cases hbig:2147483648 < 10*x+((s[k].toNat:Int) - 48)
   ·have HV:=Lib.hid (show r=false by
     rw [←HR.out]
     have:=valD_over (s:=s) (k:=k+1) (by rw [hm];omega)
     simp;omega)
    clear hm
    go_wp2
    go_ret
    exact ⟨ret_bool HV.out.symm,rfl⟩
   ·have HV:=Lib.hid (show valD (s.data.toList.take (k+1))=10*x+((s[k].toNat:Int) - 48) by rw [hm];omega)
    clear hm
    have hle:10*x+((s[k].toNat:Int) - 48)≤2147483648:=by omega
    go_wp2
    go_round
    case rel=>exact ⟨k+1,_,by omega,by go_num,rfl,by omega,hle,HV⟩
    case measure=>simp [intOf];omega
  ·obtain rfl:k=s.size:=by omega
   have HV:=Lib.hid (show r=true by rw [←HR.out,← take_all s,hv.out];simpa using hx1)
   go_wp2
   go_ret
   exact ⟨ret_bool HV.out.symm,rfl⟩
end Go.Proofs.YtaojnljppcnhjaaGreatDoor
namespace Go.Proofs.YtaojnljppcnhjaaGreatDoor
open Go.RowKit
def Bound (k:Int) (m:Nat) (w:World) (e:Ending) (w':World):Prop:=e=.returned (.tuple #[.int .i64 k,.int .i64 (m:Int)])∧w=w'
theorem bound_end (s:ByteArray) (w:World):Calls Tryz.prog 98 #[.string s,.int .i64 (s.size:Int)] w (Bound 0 s.size w):=by
 go_enter Tryz.func98,Tryz.ntmps98
 go_wp2
 exact bodyPost_ret (v:=.tuple #[.int .i64 0,.int .i64 ((s.size:Int))]) (by simp [results,Tryz.results98,go_sem]) rfl ⟨by first|rfl|(rw [Int.natCast_add]),rfl⟩
section
variable (s:ByteArray) (q:Nat) (w:World) (hs:s.size≤100000) (hq:q < s.size)
include hs
theorem bound_low (h:lowB s[q]=true):Calls Tryz.prog 98 #[.string s,.int .i64 (q:Int)] w (Bound 1 (q+runP inB s q) w):=by
 have hq':(q:Int) < (s.size:Int):=by omega
 have he:((q:Int)==(s.size:Int))=false:=by simp;omega
 have Q1:=Lib.hid (fun W=>tk_low_at s[q] W h)
 have Q2:=Lib.hid (fun W=>span_word s q W hs (by omega) rfl)
 clear h
 go_enter Tryz.func98,Tryz.ntmps98
 go_wp2_with (first|(go_at_call 118;refine (Q1.out _).mono ?_;rintro e w' ⟨rfl,rfl⟩)|(go_at_call 119;refine (Q2.out _).mono ?_;rintro e w' ⟨rfl,rfl⟩))
 exact bodyPost_ret (v:=.tuple #[.int .i64 1,.int .i64 (((q+runP inB s q:Nat):Int))]) (by simp [results,Tryz.results98,go_sem]) rfl ⟨by first|rfl|(rw [Int.natCast_add]),rfl⟩
theorem bound_var (h:lowB s[q]=false) (h2:(uppB s[q]||undB s[q])=true):Calls Tryz.prog 98 #[.string s,.int .i64 (q:Int)] w (Bound 2 (q+runP inB s q) w):=by
 have hq':(q:Int) < (s.size:Int):=by omega
 have he:((q:Int)==(s.size:Int))=false:=by simp;omega
 have Q1:=Lib.hid (fun W=>tk_low_at s[q] W h)
 have Q2:=Lib.hid (fun W=>span_word s q W hs (by omega) rfl)
 obtain ⟨b,hb⟩:∃b,uppB s[q]=b:=⟨_,rfl⟩
 have Q3:=Lib.hid (fun W=>tk_upp_at s[q] W hb)
 cases b
 ·have hu:((s[q].toNat:Int)==95)=true:=by
   rw [hb,Bool.false_or] at h2
   have:s[q].toNat=95:=by simpa [undB] using h2
   simp;omega
  clear h h2 hb
  go_enter Tryz.func98,Tryz.ntmps98
  go_wp2_with (first|(go_at_call 118;refine (Q1.out _).mono ?_;rintro e w' ⟨rfl,rfl⟩)|(go_at_call 121;refine (Q3.out _).mono ?_;rintro e w' ⟨rfl,rfl⟩)|(go_at_call 119;refine (Q2.out _).mono ?_;rintro e w' ⟨rfl,rfl⟩))
  exact bodyPost_ret (v:=.tuple #[.int .i64 2,.int .i64 (((q+runP inB s q:Nat):Int))]) (by simp [results,Tryz.results98,go_sem]) rfl ⟨by first|rfl|(rw [Int.natCast_add]),rfl⟩
 ·clear h h2 hb
  go_enter Tryz.func98,Tryz.ntmps98
  go_wp2_with (first|(go_at_call 118;refine (Q1.out _).mono ?_;rintro e w' ⟨rfl,rfl⟩)|(go_at_call 121;refine (Q3.out _).mono ?_;rintro e w' ⟨rfl,rfl⟩)|(go_at_call 119;refine (Q2.out _).mono ?_;rintro e w' ⟨rfl,rfl⟩))
  exact bodyPost_ret (v:=.tuple #[.int .i64 2,.int .i64 (((q+runP inB s q:Nat):Int))]) (by simp [results,Tryz.results98,go_sem]) rfl ⟨by first|rfl|(rw [Int.natCast_add]),rfl⟩
theorem bound_dig (h:wordyB s[q]=false) (h2:digB s[q]=true):Calls Tryz.prog 98 #[.string s,.int .i64 (q:Int)] w (Bound 3 (q+runP digB s q) w):=by
 have hq':(q:Int) < (s.size:Int):=by omega
 have he:((q:Int)==(s.size:Int))=false:=by simp;omega
 simp only [wordyB,Bool.or_eq_false_iff] at h
 obtain ⟨h3,h4,h5⟩:=h
 have hu:((s[q].toNat:Int)==95)=false:=by
  have:¬s[q].toNat=95:=by simpa [undB] using h5
  simp;omega
 have Q1:=Lib.hid (fun W=>tk_low_at s[q] W h3)
 have Q3:=Lib.hid (fun W=>tk_upp_at s[q] W h4)
 have Q4:=Lib.hid (fun W=>tk_dig_at s[q] W h2)
 have Q2:=Lib.hid (fun W=>span_dig s q W hs (by omega) rfl)
 clear h2 h3 h4 h5
 go_enter Tryz.func98,Tryz.ntmps98
 go_wp2_with (first|(go_at_call 118;refine (Q1.out _).mono ?_;rintro e w' ⟨rfl,rfl⟩)|(go_at_call 121;refine (Q3.out _).mono ?_;rintro e w' ⟨rfl,rfl⟩)|(go_at_call 122;refine (Q4.out _).mono ?_;rintro e w' ⟨rfl,rfl⟩)|(go_at_call 119;refine (Q2.out _).mono ?_;rintro e w' ⟨rfl,rfl⟩))
 exact bodyPost_ret (v:=.tuple #[.int .i64 3,.int .i64 (((q+runP digB s q:Nat):Int))]) (by simp [results,Tryz.results98,go_sem]) rfl ⟨by first|rfl|(rw [Int.natCast_add]),rfl⟩
theorem bound_sym (h:wordyB s[q]=false) (h2:digB s[q]=false):Calls Tryz.prog 98 #[.string s,.int .i64 (q:Int)] w (Bound 4 (q+(symP (rest s q)).length) w):=by
 have hq':(q:Int) < (s.size:Int):=by omega
 have he:((q:Int)==(s.size:Int))=false:=by simp;omega
 simp only [wordyB,Bool.or_eq_false_iff] at h
 obtain ⟨h3,h4,h5⟩:=h
 have hu:((s[q].toNat:Int)==95)=false:=by
  have:¬s[q].toNat=95:=by simpa [undB] using h5
  simp;omega
 have Q1:=Lib.hid (fun W=>tk_low_at s[q] W h3)
 have Q3:=Lib.hid (fun W=>tk_upp_at s[q] W h4)
 have Q4:=Lib.hid (fun W=>tk_dig_at s[q] W h2)
 have Q2:=Lib.hid (fun W=>symbol_loop s q W hs (by omega))
 have hl:=symP_le (s:=s) (q:=q) (by omega)
 obtain ⟨x,hx⟩:∃x,symP (rest s q)=x:=⟨_,rfl⟩
 rw [hx] at Q2 hl ⊢
 have h63:¬(9223372036854775807 < (q:Int)+(x.length:Int)):=by omega
 have hsz:(S x).size=x.length:=by simp [ByteArray.size]
 clear h2 h3 h4 h5
 go_enter Tryz.func98,Tryz.ntmps98
 go_wp2_with (first|(go_at_call 118;refine (Q1.out _).mono ?_;rintro e w' ⟨rfl,rfl⟩)|(go_at_call 121;refine (Q3.out _).mono ?_;rintro e w' ⟨rfl,rfl⟩)|(go_at_call 122;refine (Q4.out _).mono ?_;rintro e w' ⟨rfl,rfl⟩)|(go_at_call 123;refine (Q2.out _).mono ?_;rintro e w' ⟨rfl,rfl⟩))
 exact bodyPost_ret (v:=.tuple #[.int .i64 4,.int .i64 ((q:Int)+(x.length:Int))]) (by simp [results,Tryz.results98,go_sem]) rfl ⟨by first|rfl|(rw [Int.natCast_add]),rfl⟩
end
theorem check_end (x:ByteArray) (w:World):Calls Tryz.prog 99 #[.int .i64 0,.string x] w fun e w'=>e=.returned (.int .i64 0)∧w=w':=by
 go_enter Tryz.func99,Tryz.ntmps99
 go_wp2
 go_ret
 exact ⟨rfl,rfl⟩
theorem check_name (x:ByteArray) (w:World) (hs:x.size≤100000) (ha:∀c∈x.data.toList,inB c=true) (h1:1≤x.size) (hl:lowB (x.data.toList.getD 0 0)=true) {r:Int} (hr:(if 40 < x.size then 7 else 0)=r) :
  Calls Tryz.prog 99 #[.int .i64 1,.string x] w fun e w'=>e=.returned (.int .i64 r)∧w=w':=by
 subst hr
 by_cases h40:40 < x.size
 ·rw [if_pos h40]
  have Q1:=Lib.hid (fun W=>right_at x W (by omega) (r:=false) (by unfold rightB;rw [word_long h40];rfl))
  have Q2:=Lib.hid (fun W=>res_at x W (r:=false) (by
   simp only [resB,reserved,List.mem_cons,List.not_mem_nil,or_false,decide_eq_false_iff_not]
   rw [←len_str] at h40
   intro h
   rcases h with h|h|h|h|h|h<;>rw [h] at h40<;>simp at h40))
  clear ha hl
  go_enter Tryz.func99,Tryz.ntmps99
  go_wp2_with (first|(go_at_call 124;refine (Q1.out _).mono ?_;rintro e w' ⟨rfl,rfl⟩)|(go_at_call 102;refine (Q2.out _).mono ?_;rintro e w' ⟨rfl,rfl⟩))
  go_ret
  exact ⟨rfl,rfl⟩
 ·rw [if_neg h40]
  obtain ⟨b,hb⟩:∃b,resB x.data.toList=b:=⟨_,rfl⟩
  have hw:wordB x.data.toList=true:=(wordB_iff _).2 ⟨by rw [len_str];exact h1,by rw [len_str];omega,ha⟩
  have Q1:=Lib.hid (fun W=>right_at x W (by omega) (r := !b) (by unfold rightB;rw [hw,hl,hb];rfl))
  have Q2:=Lib.hid (fun W=>res_at x W hb)
  clear ha hl hb hw
  cases b
  ·go_enter Tryz.func99,Tryz.ntmps99
   go_wp2_with (first|(go_at_call 124;refine (Q1.out _).mono ?_;rintro e w' ⟨rfl,rfl⟩)|(go_at_call 102;refine (Q2.out _).mono ?_;rintro e w' ⟨rfl,rfl⟩))
   go_ret
   exact ⟨rfl,rfl⟩
  ·go_enter Tryz.func99,Tryz.ntmps99
   go_wp2_with (first|(go_at_call 124;refine (Q1.out _).mono ?_;rintro e w' ⟨rfl,rfl⟩)|(go_at_call 102;refine (Q2.out _).mono ?_;rintro e w' ⟨rfl,rfl⟩))
   go_ret
   exact ⟨rfl,rfl⟩
theorem check_var (x:ByteArray) (w:World) (hs:x.size≤100000) (ha:∀c∈x.data.toList,inB c=true) (h1:1≤x.size) (hl:(uppB (x.data.toList.getD 0 0)||undB (x.data.toList.getD 0 0))=true) {r:Int} (hr:(if 40 < x.size then 7 else 0)=r) :
  Calls Tryz.prog 99 #[.int .i64 2,.string x] w fun e w'=>e=.returned (.int .i64 r)∧w=w':=by
 subst hr
 by_cases h40:40 < x.size
 ·rw [if_pos h40]
  have Q1:=Lib.hid (fun W=>var_at x W (by omega) (r:=false) (by unfold varB;rw [word_long h40];rfl))
  clear ha hl
  go_enter Tryz.func99,Tryz.ntmps99
  go_wp2_with (go_at_call 125;refine (Q1.out _).mono ?_;rintro e w' ⟨rfl,rfl⟩)
  go_ret
  exact ⟨rfl,rfl⟩
 ·rw [if_neg h40]
  have hw:wordB x.data.toList=true:=(wordB_iff _).2 ⟨by rw [len_str];exact h1,by rw [len_str];omega,ha⟩
  have Q1:=Lib.hid (fun W=>var_at x W (by omega) (r:=true) (by unfold varB;rw [hw,hl];rfl))
  clear ha hl hw
  go_enter Tryz.func99,Tryz.ntmps99
  go_wp2_with (go_at_call 125;refine (Q1.out _).mono ?_;rintro e w' ⟨rfl,rfl⟩)
  go_ret
  exact ⟨rfl,rfl⟩
theorem check_int (x:ByteArray) (w:World) (hs:x.size≤100000) (ha:∀c∈x.data.toList,digB c=true) {r:Int} (hr:(if 2147483648 < valD x.data.toList then 5 else 0)=r) :
  Calls Tryz.prog 99 #[.int .i64 3,.string x] w fun e w'=>e=.returned (.int .i64 r)∧w=w':=by
 subst hr
 have hd:∀k (h:k < x.size),digB x[k]=true:=fun k h=>ha _ (by
  have hl:k < x.data.toList.length:=by rw [len_str];exact h
  exact List.getElem_mem hl)
 by_cases h40:2147483648 < valD x.data.toList
 ·rw [if_pos h40]
  have Q1:=Lib.hid (fun W=>range_at x W hs hd (r:=false) (by simpa using h40))
  clear ha hd h40
  go_enter Tryz.func99,Tryz.ntmps99
  go_wp2_with (go_at_call 126;refine (Q1.out _).mono ?_;rintro e w' ⟨rfl,rfl⟩)
  go_ret
  exact ⟨rfl,rfl⟩
 ·rw [if_neg h40]
  have Q1:=Lib.hid (fun W=>range_at x W hs hd (r:=true) (by simpa using h40))
  clear ha hd h40
  go_enter Tryz.func99,Tryz.ntmps99
  go_wp2_with (go_at_call 126;refine (Q1.out _).mono ?_;rintro e w' ⟨rfl,rfl⟩)
  go_ret
  exact ⟨rfl,rfl⟩
theorem check_none (w:World):Calls Tryz.prog 99 #[.int .i64 4,.string ⟨#[]⟩] w fun e w'=>e=.returned (.int .i64 16)∧w=w':=by
 go_enter Tryz.func99,Tryz.ntmps99
 go_wp2
 go_ret
 exact ⟨rfl,rfl⟩
theorem check_sym (x:ByteArray) (w:World) (h:x.data.toList≠[]):Calls Tryz.prog 99 #[.int .i64 4,.string x] w fun e w'=>e=.returned (.int .i64 0)∧w=w':=by
 have hx:x.toList.isEmpty=false:=by rw [raw_list];simpa using h
 clear h
 go_enter Tryz.func99,Tryz.ntmps99
 go_wp2
 go_ret
 exact ⟨rfl,rfl⟩
end Go.Proofs.YtaojnljppcnhjaaGreatDoor
namespace Go.Proofs.YtaojnljppcnhjaaGreatDoor
open Go.RowKit
theorem index_none:∀(l:List UInt8),Lib.indexByte l 10 = -1→gap true l=[]
 | [],_=>rfl
 | b :: l,h=>by
  unfold Lib.indexByte at h
  by_cases hb:b=10
  ·subst hb;simp at h
  ·have hb':(b==10)=false:=by simpa using hb
   have hge:=Lib.indexByte_ge l 10
   rw [hb'] at h
   simp only [Bool.false_eq_true,if_false] at h
   by_cases h1:Lib.indexByte l 10 = -1
   ·rw [gap,if_neg hb]
    exact index_none l h1
   ·rw [if_neg (by simpa using h1)] at h
    omega
theorem index_some:∀(l:List UInt8),Lib.indexByte l 10 ≠ -1→∃k:Nat,Lib.indexByte l 10=(k:Int)∧k < l.length∧gap true l=gap false (l.drop k)∧(l.headD 0≠10→0 < k)
 | [],h=>absurd rfl h
 | b :: l,h=>by
  by_cases hb:b=10
  ·subst hb
   refine ⟨0,rfl,by simp,by simp [gap,spcB],fun h=>absurd rfl h⟩
  ·have hb':(b==10)=false:=by simpa using hb
   have e:Lib.indexByte (b :: l) 10=if Lib.indexByte l 10 == -1 then -1 else Lib.indexByte l 10+1:=by
    rw [Lib.indexByte,hb'];rfl
   by_cases h1:Lib.indexByte l 10 = -1
   ·rw [e,h1] at h;exact absurd rfl h
   ·obtain ⟨k,hk,hl,hg,_⟩:=index_some l h1
    refine ⟨k+1,?_,by simp only [List.length_cons];omega,?_,fun _=>Nat.succ_pos k⟩
    ·rw [e,hk,if_neg (by simp)];omega
    ·rw [gap,if_neg hb,hg];rfl
set_option maxRecDepth 100000 in
theorem lite_index_at (s:ByteArray) (c:Int) (w:World) :
  Calls Tryz.prog 149 #[.string s,.int .u8 c] w fun e w'=>e=.returned (.int .i64 (Lib.indexByte s.data.toList c.toNat.toUInt8))∧w=w':=by
 go_enter Tryz.func149,Tryz.ntmps149
 go_wp2
 rw [run_callFunc_extern Tryz.func160 (by kernel_rfl) (by kernel_rfl) (by kernel_rfl) (e:=Extern.BytealgIndexByte.indexByte) (by kernel_rfl),Lib.run_indexByteString]
 simp only [Result.andThen]
 rw [Oper.upon_value]
 go_wp2
 go_ret
 exact ⟨rfl,rfl⟩
theorem index_at (s:ByteArray) (c:Int) (w:World) :
  Calls Tryz.prog 137 #[.string s,.int .u8 c] w fun e w'=>e=.returned (.int .i64 (Lib.indexByte s.data.toList c.toNat.toUInt8))∧w=w':=by
 go_enter Tryz.func137,Tryz.ntmps137
 go_wp2_with (go_at_call 149;refine (lite_index_at _ _ _).mono ?_;rintro e w' ⟨rfl,rfl⟩)
 go_ret
 exact ⟨rfl,rfl⟩
def LineEnd (s:ByteArray) (q:Nat) (w:World) (e:Ending) (w':World):Prop:=∃n:Nat,q < n∧n≤s.size∧gap false (rest s n)=gap false (rest s q)∧e=.returned (.int .i64 (n:Int))∧w=w'
theorem line_at (s:ByteArray) (q:Nat) (w:World) (hs:s.size≤100000) (hq:q < s.size) (hc:s[q]=35) :
  Calls Tryz.prog 117 #[.string s,.int .i64 (q:Int)] w (LineEnd s q w):=by
 have hq1:(q:Int)≤(s.size:Int):=by omega
 have hq0:(0:Int)≤(q:Int):=by omega
 have HG:=Lib.hid (gap_note_at hq hc)
 have HH:=Lib.hid (show (rest s q).headD 0≠10 by rw [rest_cons hq];simp [hc])
 have QI:=Lib.hid (fun W=>index_at (s.extract q s.size) 10 W)
 rw [rest_of_extract] at QI
 by_cases h1:Lib.indexByte (rest s q) 10 = -1
 ·have HE:=Lib.hid (show gap false (rest s s.size)=gap false (rest s q) by rw [HG.out,index_none _ h1,rest_end (Nat.le_refl _)];rfl)
  rw [show ((10:Int).toNat.toUInt8)=10 from rfl,h1] at QI
  clear hc h1
  go_enter Tryz.func117,Tryz.ntmps117
  go_wp2_with (go_at_call 137;refine (QI.out _).mono ?_;rintro e w' ⟨rfl,rfl⟩)
  go_ret
  exact ⟨s.size,hq,Nat.le_refl _,HE.out,rfl,rfl⟩
 ·obtain ⟨k,hk,hl,hg,h0⟩:=index_some _ h1
  rw [rest_len] at hl
  rw [show ((10:Int).toNat.toUInt8)=10 from rfl,hk] at QI
  have HK:=Lib.hid (show gap false (rest s (q+k))=gap false (rest s q) by rw [rest_drop,← hg,HG.out])
  have H0:=Lib.hid (h0 HH.out)
  have hk0:decide ((k:Int) < 0)=false:=by simp
  have hk1:¬(9223372036854775807 < (q:Int)+(k:Int)):=by omega
  clear hc h1 hk hg h0
  go_enter Tryz.func117,Tryz.ntmps117
  go_wp2_with (go_at_call 137;refine (QI.out _).mono ?_;rintro e w' ⟨rfl,rfl⟩)
  go_ret
  exact ⟨q+k,by have:=H0.out;omega,by omega,HK.out,by rw [Int.natCast_add];rfl,rfl⟩
set_option maxHeartbeats 1000000 in
theorem skip_at (s:ByteArray) (p:Nat) (w:World) (hs:s.size≤100000) (hp:p≤s.size) {n:Nat} (hn:skipP s p=n) :
  Calls Tryz.prog 97 #[.string s,.int .i64 (p:Int)] w fun e w'=>e=.returned (.int .i64 (n:Int))∧w=w':=by
 have QS:=Lib.hid tk_spc_at
 have QL:=Lib.hid (line_at s)
 go_enter Tryz.func97,Tryz.ntmps97
 go_wp2
 go_loop [1] (fun i=>∃q:Nat,q≤s.size∧i=.int .i64 (q:Int)∧Hid (skipP s q=n)) (fun i=>s.size - (intOf i).toNat)
 case atStart=>exact ⟨p,hp,rfl,hn⟩
 case round =>
  obtain ⟨q,hq,rfl,hk⟩:=hrel
  by_cases hlt:q < s.size
  ·have hlt':(q:Int) < (s.size:Int):=by omega
   obtain ⟨b1,hb1⟩:∃b,spcB s[q]=b:=⟨_,rfl⟩
   have Q1:=Lib.hid (fun W=>QS.out s[q] W hb1)
   have HB:=Lib.hid hb1
   clear hb1
   cases b1
   ·by_cases h35:s[q]=35
    ·have h35':((s[q].toNat:Int)==35)=true:=byte_eq (b:=35) h35
     have Q2:=Lib.hid (fun W=>QL.out q W hs hlt h35)
     clear h35
     go_wp2_with (first|(go_at_call 116;refine (Q1.out _).mono ?_;rintro e w' ⟨rfl,rfl⟩)|(go_at_call 117;refine (Q2.out _).mono ?_;rintro e w' ⟨m,hm1,hm2,hm3,rfl,rfl⟩))
     go_round
     case rel=>exact ⟨m,hm2,rfl,by rw [skipP_same hm3];exact hk.out⟩
     case measure=>simp [intOf];omega
    ·have h35':((s[q].toNat:Int)==35)=false:=byte_ne (b:=35) h35
     have HS:=Lib.hid (skipP_stop hq (gap_cons_stop hlt HB.out h35))
     clear h35
     go_wp2_with (go_at_call 116;refine (Q1.out _).mono ?_;rintro e w' ⟨rfl,rfl⟩)
     go_ret
     exact ⟨by rw [←hk.out,HS.out];rfl,rfl⟩
   ·have hq1:¬(9223372036854775807 < (q:Int)+1):=by omega
    go_wp2_with (go_at_call 116;refine (Q1.out _).mono ?_;rintro e w' ⟨rfl,rfl⟩)
    go_round
    case rel=>exact ⟨q+1,by omega,by go_num,by rw [←hk.out];exact (skipP_same (gap_cons_spc hlt HB.out)).symm⟩
    case measure=>simp [intOf];omega
  ·obtain rfl:q=s.size:=by omega
   have HS:=Lib.hid (skipP_stop hq (gap_at_end (Nat.le_refl s.size)))
   go_wp2
   go_ret
   exact ⟨by rw [←hk.out,HS.out];rfl,rfl⟩
end Go.Proofs.YtaojnljppcnhjaaGreatDoor
namespace Go.Proofs.YtaojnljppcnhjaaGreatDoor
open Go.RowKit
section
variable (s:ByteArray) (p q m:Nat) (k er:Int) (w:World) (hs:s.size≤16384) (hp:p≤s.size) (hqm:q≤m) (hm:m≤s.size)
 (QS:Hid (∀W,Calls Tryz.prog 97 #[.string s,.int .i64 (p:Int)] W fun e w'=>e=.returned (.int .i64 (q:Int))∧W=w'))
 (QB:Hid (∀W,Calls Tryz.prog 98 #[.string s,.int .i64 (q:Int)] W (Bound k m W)))
include hs hp hqm hm QS QB
set_option maxHeartbeats 1000000 in
theorem next_ok (QC:Hid (∀W,Calls Tryz.prog 99 #[.int .i64 k,.string (s.extract q m)] W fun e w'=>e=.returned (.int .i64 0)∧W=w')) :
  Calls Tryz.prog 74 #[.string s,.int .i64 (p:Int)] w fun e w'=>e=.returned (.tuple #[.agg #[.int .i64 k,.int .i64 (q:Int),.string (s.extract q m)],.int .i64 (m:Int),.int .i64 0])∧Below w.heap.size w w':=by
 have h0:decide ((p:Int) < 0)=false:=by simp
 have h1:¬s.size < p:=by omega
 have h2:decide ((16384:Int) < (s.size:Int))=false:=by simp;omega
 have hqm':(q:Int)≤(m:Int):=by omega
 have hm':(m:Int)≤(s.size:Int):=by omega
 go_enter Tryz.func74,Tryz.ntmps74
 go_wp2_with (first|(go_at_call 97;refine (QS.out _).mono ?_;rintro e w' ⟨rfl,rfl⟩)|(go_at_call 98;refine (QB.out _).mono ?_;rintro e w' ⟨rfl,rfl⟩)|(go_at_call 99;refine (QC.out _).mono ?_;rintro e w' ⟨rfl,rfl⟩))
 exact bodyPost_ret (v:=.tuple #[.agg #[.int .i64 k,.int .i64 (q:Int),.string (s.extract q m)],.int .i64 (m:Int),.int .i64 0]) (by simp [results,Tryz.results74,go_sem]) rfl ⟨rfl,(Below.refl _ _).alloc (Nat.le_refl _) _⟩
set_option maxHeartbeats 1000000 in
theorem next_err (her:(er==0)=false) (QC:Hid (∀W,Calls Tryz.prog 99 #[.int .i64 k,.string (s.extract q m)] W fun e w'=>e=.returned (.int .i64 er)∧W=w')) :
  Calls Tryz.prog 74 #[.string s,.int .i64 (p:Int)] w fun e w'=>e=.returned (.tuple #[.agg #[.int .i64 0,.int .i64 0,.string ⟨#[]⟩],.int .i64 (q:Int),.int .i64 er])∧Below w.heap.size w w':=by
 have h0:decide ((p:Int) < 0)=false:=by simp
 have h1:¬s.size < p:=by omega
 have h2:decide ((16384:Int) < (s.size:Int))=false:=by simp;omega
 have hqm':(q:Int)≤(m:Int):=by omega
 have hm':(m:Int)≤(s.size:Int):=by omega
 have her':(er != 0)=true:=by simp [bne,her]
 go_enter Tryz.func74,Tryz.ntmps74
 go_wp2_with (first|(go_at_call 97;refine (QS.out _).mono ?_;rintro e w' ⟨rfl,rfl⟩)|(go_at_call 98;refine (QB.out _).mono ?_;rintro e w' ⟨rfl,rfl⟩)|(go_at_call 99;refine (QC.out _).mono ?_;rintro e w' ⟨rfl,rfl⟩))
 exact bodyPost_ret (v:=.tuple #[.agg #[.int .i64 0,.int .i64 0,.string ⟨#[]⟩],.int .i64 (q:Int),.int .i64 er]) (by simp [results,Tryz.results74,go_sem]) rfl ⟨rfl,(Below.refl _ _).alloc (Nat.le_refl _) _⟩
end
theorem while_all (k:UInt8→Bool):∀(l:List UInt8),∀c∈l.takeWhile k,k c=true
 | [],c,h=>by simp at h
 | x :: l,c,h=>by
  cases hx:k x with
  | true =>
   rw [List.takeWhile_cons_of_pos hx] at h
   rcases List.mem_cons.1 h with rfl|h
   ·exact hx
   ·exact while_all k l c h
  | false=>rw [List.takeWhile_cons_of_neg (by rw [hx];decide)] at h;simp at h
theorem extract_none (s:ByteArray) (q:Nat):s.extract q q=S []:=S_of (by rw [extract_list,Nat.sub_self,List.take_zero])
theorem next_in (s:ByteArray) (p:Nat) (w:World) (hs:s.size≤16384) (hp:p≤s.size) :
  Calls Tryz.prog 74 #[.string s,.int .i64 (p:Int)] w fun e w'=>e=.returned (nextV (tokAt s p))∧Below w.heap.size w w':=by
 obtain ⟨f1,f2,f3⟩:=skipP_facts hp
 have hg:=f3.symm
 generalize hqd:skipP s p=q at f1 f2 f3 hg
 have QS:=Lib.hid (fun W=>skip_at s p W (by omega) hp hqd)
 have hs':s.size≤100000:=by omega
 rcases Nat.lt_or_ge q s.size with hq|hq
 ·have hc:=rest_cons hq
  cases hwy:wordyB s[q] with
  | true =>
   have ha:∀c∈(S ((rest s q).takeWhile inB)).data.toList,inB c=true:=fun c h=>while_all _ _ c h
   have hin:inB s[q]=true:=by
    simp only [wordyB,Bool.or_eq_true] at hwy
    simp only [inB,Bool.or_eq_true]
    rcases hwy with h|h|h
    ·exact .inl (.inl (.inl h))
    ·exact .inl (.inl (.inr h))
    ·exact .inr h
   have hsz:(S ((rest s q).takeWhile inB)).size=runP inB s q:=by simp [ByteArray.size,runP]
   have h1:1≤runP inB s q:=by rw [runP_next hq hin];omega
   have hle:=runP_le (k:=inB) (s:=s) (q:=q) (by omega)
   have hhd:(S ((rest s q).takeWhile inB)).data.toList.getD 0 0=s[q]:=by
    show ((rest s q).takeWhile inB).getD 0 0=s[q]
    rw [hc,List.takeWhile_cons_of_pos hin];rfl
   have htok:tokL (gap false (rest s p))=if 40 < runP inB s q then (0,[],7) else (if lowB s[q]=true then 1 else 2,(rest s q).takeWhile inB,0):=by
    rw [hg,hc,tok_word hwy,← hc];rfl
   cases hlo:lowB s[q] with
   | true =>
    rw [hlo,if_pos rfl] at htok
    have QB:=Lib.hid (fun W=>bound_low s q W hs' hq hlo)
    have QC:=fun W=>check_name (S ((rest s q).takeWhile inB)) W (by rw [hsz];omega) ha (by rw [hsz];exact h1) (by rw [hhd];exact hlo) rfl
    rw [hsz,← runP_text inB s q] at QC
    by_cases h40:40 < runP inB s q
    ·rw [if_pos h40] at htok QC
     rw [tokAt_err hqd htok (by decide)]
     exact next_err s p q _ 1 7 w hs hp (by omega) hle QS QB rfl (Lib.hid QC)
    ·rw [if_neg h40] at htok QC
     rw [tokAt_ok hqd htok]
     have:=next_ok s p q _ 1 w hs hp (by omega) hle QS QB (Lib.hid QC)
     rw [runP_text] at this
     exact this
   | false =>
    simp only [hlo,Bool.false_eq_true,if_false] at htok
    have hup:(uppB s[q]||undB s[q])=true:=by simpa [wordyB,hlo] using hwy
    have QB:=Lib.hid (fun W=>bound_var s q W hs' hq hlo hup)
    have QC:=fun W=>check_var (S ((rest s q).takeWhile inB)) W (by rw [hsz];omega) ha (by rw [hsz];exact h1) (by rw [hhd];exact hup) rfl
    rw [hsz,← runP_text inB s q] at QC
    by_cases h40:40 < runP inB s q
    ·rw [if_pos h40] at htok QC
     rw [tokAt_err hqd htok (by decide)]
     exact next_err s p q _ 2 7 w hs hp (by omega) hle QS QB rfl (Lib.hid QC)
    ·rw [if_neg h40] at htok QC
     rw [tokAt_ok hqd htok]
     have:=next_ok s p q _ 2 w hs hp (by omega) hle QS QB (Lib.hid QC)
     rw [runP_text] at this
     exact this
  | false =>
   cases hdi:digB s[q] with
   | true =>
    have hsz:(S ((rest s q).takeWhile digB)).size=runP digB s q:=by simp [ByteArray.size,runP]
    have hle:=runP_le (k:=digB) (s:=s) (q:=q) (by omega)
    have htok:tokL (gap false (rest s p))=if 2147483648 < valD ((rest s q).takeWhile digB) then (0,[],5) else (3,(rest s q).takeWhile digB,0):=by
     rw [hg,hc,tok_dig hwy hdi]
    have QB:=Lib.hid (fun W=>bound_dig s q W hs' hq hwy hdi)
    have QC:=fun W=>check_int (S ((rest s q).takeWhile digB)) W (by rw [hsz];omega) (fun c h=>while_all _ _ c h) rfl
    rw [←runP_text digB s q] at QC
    have hx:(s.extract q (q+runP digB s q)).data.toList=(rest s q).takeWhile digB:=by rw [runP_text]
    rw [hx] at QC
    by_cases h40:2147483648 < valD ((rest s q).takeWhile digB)
    ·rw [if_pos h40] at htok QC
     rw [tokAt_err hqd htok (by decide)]
     exact next_err s p q _ 3 5 w hs hp (by omega) hle QS QB rfl (Lib.hid QC)
    ·rw [if_neg h40] at htok QC
     rw [tokAt_ok hqd htok]
     have:=next_ok s p q _ 3 w hs hp (by omega) hle QS QB (Lib.hid QC)
     rw [runP_text] at this
     exact this
   | false =>
    have hle:=symP_le (s:=s) (q:=q) (by omega)
    have htok:tokL (gap false (rest s p))=if symP (rest s q)=[] then (0,[],16) else (4,symP (rest s q),0):=by
     rw [hg,hc,tok_sym hwy hdi]
    have QB:=Lib.hid (fun W=>bound_sym s q W hs' hq hwy hdi)
    by_cases h0:symP (rest s q)=[]
    ·rw [if_pos h0] at htok
     have QC:=Lib.hid check_none
     rw [show (ByteArray.mk #[])=s.extract q (q+(symP (rest s q)).length) by rw [symP_text,h0]] at QC
     rw [tokAt_err hqd htok (by decide)]
     exact next_err s p q _ 4 16 w hs hp (by omega) hle QS QB rfl QC
    ·rw [if_neg h0] at htok
     have QC:=Lib.hid (fun W=>check_sym (S (symP (rest s q))) W h0)
     rw [←symP_text] at QC
     rw [tokAt_ok hqd htok]
     have:=next_ok s p q _ 4 w hs hp (by omega) hle QS QB QC
     rw [symP_text] at this
     exact this
 ·obtain rfl:q=s.size:=by omega
  have htok:tokL (gap false (rest s p))=(0,[],0):=by rw [hg,rest_end (Nat.le_refl _)];rfl
  rw [tokAt_ok hqd htok]
  have:=next_ok s p s.size s.size 0 w hs hp (Nat.le_refl _) (Nat.le_refl _) QS (Lib.hid (bound_end s)) (Lib.hid (check_end _))
  rw [extract_none] at this
  exact this
set_option maxHeartbeats 1000000 in
theorem next_at (s:ByteArray) (a:Int) (w:World) (hs:s.size≤100000) :
  Calls Tryz.prog 74 #[.string s,.int .i64 a] w fun e w'=>e=.returned (nextV (nextP s a))∧Below w.heap.size w w':=by
 by_cases h0:a < 0
 ·have HV:=Lib.hid (show nextP s a=((0,0,[]),0,2) by unfold nextP;rw [if_pos (.inl h0)])
  go_enter Tryz.func74,Tryz.ntmps74
  go_wp2
  exact bodyPost_ret (v:=.tuple #[.agg #[.int .i64 0,.int .i64 0,.string ⟨#[]⟩],.int .i64 0,.int .i64 2]) (by simp [results,Tryz.results74,go_sem]) rfl ⟨by rw [HV.out];rfl,(Below.refl _ _).alloc (Nat.le_refl _) _⟩
 ·obtain ⟨q,rfl⟩:∃q:Nat,a=(q:Int):=⟨a.toNat,by omega⟩
  by_cases h1:(s.size:Int) < (q:Int)
  ·have HV:=Lib.hid (show nextP s (q:Int)=((0,0,[]),0,2) by unfold nextP;rw [if_pos (.inr h1)])
   have h1':s.size < q:=by omega
   clear h0 h1
   go_enter Tryz.func74,Tryz.ntmps74
   go_wp2
   exact bodyPost_ret (v:=.tuple #[.agg #[.int .i64 0,.int .i64 0,.string ⟨#[]⟩],.int .i64 0,.int .i64 2]) (by simp [results,Tryz.results74,go_sem]) rfl ⟨by rw [HV.out];rfl,(Below.refl _ _).alloc (Nat.le_refl _) _⟩
  ·by_cases h2:16384 < s.size
   ·have HV:=Lib.hid (show nextP s (q:Int)=((0,0,[]),0,6) by unfold nextP;rw [if_neg (by omega),if_pos h2])
    have h1':¬s.size < q:=by omega
    have h2':(16384:Int) < (s.size:Int):=by omega
    clear h0 h1 h2
    go_enter Tryz.func74,Tryz.ntmps74
    go_wp2
    exact bodyPost_ret (v:=.tuple #[.agg #[.int .i64 0,.int .i64 0,.string ⟨#[]⟩],.int .i64 0,.int .i64 6]) (by simp [results,Tryz.results74,go_sem]) rfl ⟨by rw [HV.out];rfl,(Below.refl _ _).alloc (Nat.le_refl _) _⟩
   ·have e:nextP s (q:Int)=tokAt s q:=by unfold nextP;rw [if_neg (by omega),if_neg h2];rfl
    rw [e]
    exact next_in s q w (by omega) (by omega)
end Go.Proofs.YtaojnljppcnhjaaGreatDoor
