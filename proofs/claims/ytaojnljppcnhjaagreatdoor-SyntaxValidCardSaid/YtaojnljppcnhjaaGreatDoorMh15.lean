/-
  TrTokens.
  SySpread.
-/
import Derived.Test.YtaojnljppcnhjaaGreatDoorMh14
import Derived.Test.YtaojnljppcnhjaaGreatDoorMh12
import Derived.Test.YtaojnljppcnhjaaGreatDoorMh4
namespace Go.Proofs.YtaojnljppcnhjaaGreatDoor
open Go.RowKit
set_option maxHeartbeats 2000000 in
theorem tr_scan_big (s:ByteArray) (w:World) (hs:s.size≤100000) (hbig:16384 < s.size) :
  Calls Tryz.prog 21 #[.string s] w (ScanR s w):=by
 have QN:=Lib.hid (fun W=>tr_next_at s 0 W hs)
 rw [show nextP s 0=((0,0,[]),0,6) by unfold nextP;rw [if_neg (by omega),if_pos hbig]] at QN
 have HV:=Lib.hid (show scanP s=([],0,6) by unfold scanP;rw [if_pos hbig])
 go_enter Tryz.func21,Tryz.ntmps21
 go_wp2_with fail
 go_loopw [6,13] (fun i c wr=>i=.int .i64 0∧c=.int .i64 0∧Hid (Below w.heap.size w wr)) (fun _ _ _=>0)
 case atStart=>exact ⟨rfl,rfl,Lib.hid (Below.refl _ _)⟩
 case round =>
  obtain ⟨rfl,rfl,HB⟩:=hrel
  go_wp2_with fail
  refine (QN.out _).mono ?_
  rintro e w2 ⟨rfl,hb2⟩
  have HB2:=Lib.hid (show Below w.heap.size w (w2.alloc (.cells #[.int .i64 0,.int .i64 0,.string (S [])] 67)) from (HB.out.trans (hb2.mono HB.out.size)).alloc (Nat.le_trans HB.out.size hb2.size) _)
  clear hb2
  go_wp2_with fail
  exact bodyPost_ret (v:=.tuple #[.slice none 0 0,.int .i64 0,.int .i64 6]) (by simp [results,Tryz.results21,go_sem]) rfl (ScanR.err HV.out HB2.out)
set_option maxHeartbeats 4000000 in
theorem tr_scan_in (s:ByteArray) (w:World) (hs:s.size≤16384) :
  Calls Tryz.prog 21 #[.string s] w (ScanR s w):=by
 have QN:=Lib.hid (fun (p:Nat) W (hp:p≤s.size)=>tr_next_in s p W hs hp)
 obtain ⟨i0,hi,hz0,hz1,hz2⟩:=info_parts token_info
 have HS:=Lib.hid (show fin [] (toksAt s (s.size+1) 0)=scanP s by rw [fin_nil];unfold scanP;rw [if_neg (by omega)])
 go_enter Tryz.func21,Tryz.ntmps21
 go_wp2_with fail
 go_loopw [5,6,13] (fun z i c wr=>∃(p n:Nat) (acc:List Tk) (x:Value),p≤s.size∧n≤s.size+1∧i=.int .i64 (p:Int)∧c=.int .i64 ((s.size+1 - n:Nat):Int)∧z=x∧Hid (Scanning s w x p n acc wr)) (fun _ _ c _=>s.size+1 - (intOf c).toNat)
 case atStart=>exact ⟨0,s.size+1,[],_,Nat.zero_le _,Nat.le_refl _,rfl,by rw [Nat.sub_self];rfl,rfl,Lib.hid ⟨RowK.nil _ _,HS.out,Nat.zero_le _,by omega,by simp,Below.refl _ _⟩⟩
 case round =>
  obtain ⟨p,n,acc,z,hp,hns,rfl,rfl,hz,HK⟩:=hrel
  have hz':=hz.symm
  subst hz'
  clear hz
  have Q:=Lib.hid (fun W=>QN.out p W hp)
  generalize hx:tokAt s p=x at Q
  obtain ⟨⟨k,at_,t⟩,m,er⟩:=x
  have HX:=Lib.hid hx
  clear hx
  obtain ⟨K1,K2,K3,K4,K5,K6⟩:=HK.out
  obtain ⟨n,rfl⟩:∃n',n=n'+1:=⟨n - 1,by omega⟩
  obtain ⟨c,hc⟩:∃c,s.size+1 - (n+1)=c:=⟨_,rfl⟩
  have hcn:c+n=s.size:=by omega
  rw [hc]
  have hcl:(c:Int) < (s.size:Int)+1:=by omega
  have hc63:¬(9223372036854775807 < (c:Int)+1):=by omega
  have hacl:acc.length≤16385:=by omega
  by_cases her:er=0
  ·subst her
   obtain ⟨t1,t2,t3,t4,t5,t6,_⟩:=tokAt_facts hp (by rw [HX.out])
   rw [HX.out] at t1 t2 t4 t5 t6
   have HT:Hid (k≠0→p < m):=Lib.hid (fun h=>by have:=t5 h;simp only at t1 t2 this;omega)
   have hm:m≤s.size:=t4
   go_wp2_with fail
   refine (Q.out _).mono ?_
   rintro e w2 ⟨rfl,hb2⟩
   have hbw2:=K6.trans (hb2.mono K6.size)
   have HK2:=Lib.hid (K1.below hb2)
   have HOwn:=Lib.hid (own_lt HK2.out)
   have hlo:=hbw2.size
   have HE:Hid (k=0→scanP s=(acc++[(k,at_,t)],0,0)):=Lib.hid (fun h=>by
    rw [←K2,fin_end acc (by rw [HX.out]) (by rw [HX.out];exact h),HX.out])
   have HN:Hid (k≠0→fin (acc++[(k,at_,t)]) (toksAt s n m)=scanP s):=Lib.hid (fun h=>by
    rw [←K2,fin_next acc (by rw [HX.out]) (by rw [HX.out];exact h),HX.out])
   clear t1 t2 t4 t5 t6 hb2 K1 K2 K6 HX Q HK
   by_cases hk:k=0
   ·subst hk
    go_wp2_with (at_builtin;refine wpList_append_lies _ rfl _ _ 46 rfl w.heap.size 67 i0 _ 3 32 Tryz.underlying46 hi hz0 hz1 hz2 rfl (by decide) _ acc.length (kcells acc) rfl (HK2.out.alloc2 _ _) ⟨w2.heap.size+1,0,none⟩ 1 1 (tokC (0,at_,t)) rfl rfl (knews2 w2 _ (0,at_,t) _) (kcells_one _) (by decide) (by unfold maxLen;omega) (by omega) (by simp;omega) _ rfl ?_;intro g cap w5 hown hg hat hglt;have d0:=far_cell hg (fun k hk=>(HOwn.out k hk).2);have HR5:=Lib.hid (RowK.next (u:=(0,at_,t)) hown);have HB5:=Lib.hid (show Below w.heap.size w w5 from ((hbw2.alloc hbw2.size _).alloc (by simp;omega) _).grown hg (by simp;omega) (fun k hk=>(HOwn.out k hk).1));clear hown hg hat hglt)
    exact bodyPost_ret (v:=.tuple #[.slice (some ⟨g,0,none⟩) (acc.length+1) cap,.int .i64 0,.int .i64 0]) (by simp [results,Tryz.results21,go_sem]) rfl (ScanR.ok (HE.out trivial) HR5.out (by simp) HB5.out)
   ·have hk':(k==0)=false:=by simpa using hk
    have HT2:=Lib.hid (HT.out hk)
    have HN2:=Lib.hid (HN.out hk)
    clear hk HT HN HE
    go_wp2_with (at_builtin;refine wpList_append_lies _ rfl _ _ 46 rfl w.heap.size 67 i0 _ 3 32 Tryz.underlying46 hi hz0 hz1 hz2 rfl (by decide) _ acc.length (kcells acc) rfl (HK2.out.alloc2 _ _) ⟨w2.heap.size+1,0,none⟩ 1 1 (tokC (k,at_,t)) rfl rfl (knews2 w2 _ (k,at_,t) _) (kcells_one _) (by decide) (by unfold maxLen;omega) (by omega) (by simp;omega) _ rfl ?_;intro g cap w5 hown hg hat hglt;have d0:=far_cell hg (fun k hk=>(HOwn.out k hk).2);have HR5:=Lib.hid (RowK.next (u:=(k,at_,t)) hown);have HB5:=Lib.hid (show Below w.heap.size w w5 from ((hbw2.alloc hbw2.size _).alloc (by simp;omega) _).grown hg (by simp;omega) (fun k hk=>(HOwn.out k hk).1));clear hown hg hat hglt)
    have hpm:=HT2.out
    go_roundw
    case rel=>exact ⟨m,n,acc++[(k,at_,t)],_,hm,by omega,rfl,by rw [show s.size+1 - n=c+1 by omega];rfl,rfl,Lib.hid ⟨HR5.out,HN2.out,hm,by omega,by rw [List.length_append];simp;omega,HB5.out⟩⟩
    case measure=>simp [intOf];omega
  ·have HV:=Lib.hid (show scanP s=([],m,er) by rw [←K2,fin_err acc (by rw [HX.out];exact her),HX.out])
   have her':(er != 0)=true:=by simpa using her
   go_wp2_with fail
   refine (Q.out _).mono ?_
   rintro e w2 ⟨rfl,hb2⟩
   have HB2:=Lib.hid (fun o=>(K6.trans (hb2.mono K6.size)).alloc (Nat.le_trans K6.size hb2.size) o)
   clear hb2 K1 K2 K6 HX HK Q her
   go_wp2_with fail
   exact bodyPost_ret (v:=.tuple #[.slice none 0 0,.int .i64 (m:Int),.int .i64 er]) (by simp [results,Tryz.results21,go_sem]) rfl (ScanR.err HV.out (HB2.out _))
theorem tr_scan_at (s:ByteArray) (w:World) (hs:s.size≤100000):Calls Tryz.prog 21 #[.string s] w (ScanR s w):=by
 by_cases h:16384 < s.size
 ·exact tr_scan_big s w hs h
 ·exact tr_scan_in s w (by omega)
end Go.Proofs.YtaojnljppcnhjaaGreatDoor
namespace Go.Proofs.YtaojnljppcnhjaaGreatDoor
open Go
def toksOf (l:List UInt8):Option (List Tok):=scanG (l.length+1) [] l
theorem toksOf_scan (s:ByteArray) (hs:s.size≤16384):toksOf s.data.toList=if (scanP s).2.2≠0 then none else some (absT 0 [] (scanP s).1):=by
 unfold toksOf
 rw [show s.data.toList.length=s.size from Array.length_toList]
 exact scan_abs s hs
def SpreadP:List UInt8→List (List UInt8×Tok)→Prop
 | _,[]=>True
 | prev,(sep,k,t,f) :: r=>((k≠0∧∃l,tokL l=(k,t,0))∨(k=0∧t=[]))∧((f=false∧SepOk sep)∨(f=true∧sep=[]∧k=3∧prev=[45]))∧SpreadP t r
theorem spreadP_snoc:∀(r:List (List UInt8×Tok)) (prev:List UInt8) (x:List UInt8×Tok),SpreadP prev r→SpreadP ((r.getLast?.map fun y=>y.2.2.1).getD prev) [x]→SpreadP prev (r++[x])
 | [],_,_,_,h=>h
 | (sep,k,t,f) :: r,prev,x,h,hx=>by
  refine ⟨h.1,h.2.1,spreadP_snoc r t x h.2.2 ?_⟩
  cases r with
  | nil=>exact hx
  | cons y r =>
   simp only [List.getLast?_cons,Option.map_some,Option.getD_some] at hx ⊢
   exact hx
theorem spread_full:∀(r:List (List UInt8×Tok)) (prev sep:List UInt8),(∀x∈r,x.2.1≠0)→SpreadP prev (r++[(sep,0,[],false)])→Spread prev (r++[(sep,0,[],false)])
 | [],prev,sep,_,h=>by
  refine ⟨?_,rfl,rfl,rfl⟩
  rcases h.2.1 with h|h
  ·exact h.2
  ·exact absurd h.1 (by decide)
 | [(sep1,k,t,f)],prev,sep,hk,h=>by
  have h0:=hk (sep1,k,t,f) (by simp)
  obtain ⟨h1,h2,h3⟩:=h
  refine ⟨h0,?_,h2,spread_full [] t sep (by simp) h3⟩
  rcases h1 with h1|h1
  ·exact h1.2
  ·exact absurd h1.1 h0
 | (sep1,k,t,f) :: y :: r,prev,sep,hk,h=>by
  have h0:=hk (sep1,k,t,f) (by simp)
  obtain ⟨h1,h2,h3⟩:=h
  refine ⟨h0,?_,h2,spread_full (y :: r) t sep (fun x hx=>hk x (List.mem_cons_of_mem _ hx)) h3⟩
  rcases h1 with h1|h1
  ·exact h1.2
  ·exact absurd h1.1 h0
theorem spread_toks {k:Int} {t:List UInt8} {r:List (List UInt8×Tok)} {A:List Tok} (hA:(k,t,false) :: r.map Prod.snd=A++EndT) (hn:NoEnd A) (ht:(k≠0∧∃l,tokL l=(k,t,0))∨(k=0∧t=[])) (hr:SpreadP t r):toksOf (t++spreadT r)=some (A++EndT):=by
 unfold toksOf
 cases A with
 | nil =>
  simp only [List.nil_append,EndT,List.cons.injEq,Prod.mk.injEq] at hA
  obtain ⟨⟨rfl,rfl,_⟩,hr0⟩:=hA
  have:r=[]:=by simpa using hr0
  subst this
  rfl
 | cons a A =>
  simp only [List.cons_append,List.cons.injEq] at hA
  obtain ⟨rfl,hr0⟩:=hA
  have hk:k≠0:=hn (k,t,false) (by simp)
  have htl:∃l,tokL l=(k,t,0):=by
   rcases ht with h|h
   ·exact h.2
   ·exact absurd h.1 hk
  have hlast:∃q sep,r=q++[(sep,0,[],false)]∧q.map Prod.snd=A:=by
   have hl:r.length=A.length+1:=by
    have:=congrArg List.length hr0
    simpa using this
   rcases List.eq_nil_or_concat r with rfl|⟨q,z,rfl⟩
   ·simp at hl
   ·rw [List.concat_eq_append] at hr0 ⊢
    rw [List.map_append] at hr0
    have h1:=List.append_inj' hr0 (by simp)
    obtain ⟨sep,z2⟩:=z
    have h2:z2=(0,[],false):=by simpa using h1.2
    subst h2
    exact ⟨q,sep,rfl,h1.1⟩
  obtain ⟨q,sep,rfl,hq⟩:=hlast
  have hqk:∀x∈q,x.2.1≠0:=fun x hx=>hn x.2 (by
   rw [←hq]
   exact List.mem_cons_of_mem _ (List.mem_map_of_mem hx))
  rw [scan_spread_first hk htl (spread_full q t sep hqk hr) (Nat.lt_succ_self _),hr0]
  rfl
theorem lines_toks {l m:List UInt8} {A B:List Tok} (hl:toksOf l=some (A++EndT)) (hm:toksOf m=some (B++EndT)):toksOf (l++10 :: m)=some (A++(B++EndT)) :=
 scan_lines (l.length+1) [] l m A (B++EndT) (Nat.lt_succ_self _) hl hm _ (Nat.lt_succ_self _)
theorem toksOf_ended {l:List UInt8} {T:List Tok} (h:toksOf l=some T):∃A,T=A++EndT∧NoEnd A∧∀x∈A,∃y,tokL y=(x.1,x.2.1,0):=by
 obtain ⟨A,e,hA⟩:=scanG_ended _ _ _ _ (Nat.lt_succ_self _) h
 exact ⟨A,e,fun x hx=>(hA x hx).1,fun x hx=>(hA x hx).2.1⟩
theorem appended {F:Nat} {l m:List UInt8} {T U:List Tok} {d:List (List UInt8×Int)} {rs:List Rs} {q:Rs} {r r2:List Tok} {ns n2:List (List UInt8)}
  (hl:toksOf l=some T) (hm:toksOf m=some U) (hp:programS (exprS F) T=.ok (d,rs) r ns) (hq:onlyS (ruleS (exprS F) U)=.ok q r2 n2) (hn:rs.length < 40) :
  ∃V,toksOf (l++10 :: m)=some V∧programS (exprS F) V=.ok (d,rs++[q]) EndT []:=by
 obtain ⟨A,rfl,hA,_⟩:=toksOf_ended hl
 obtain ⟨B,rfl,hB,_⟩:=toksOf_ended hm
 have h1:=only_end (expr_suf F) (expr_ext F) hB hq
 exact ⟨_,lines_toks hl hm,program_app (expr_ext F) (expr_suf F) hp hA h1 hB hn⟩
end Go.Proofs.YtaojnljppcnhjaaGreatDoor
