/-
  RzPlainA.
-/
import Derived.Test.YtaojnljppcnhjaaGreatDoorMh24
namespace Go.Proofs.YtaojnljppcnhjaaGreatDoor
open Go.RowKit
section
variable {R:Nat} {A:Option Addr} {c:Nat} {l:List Tk}
set_option maxHeartbeats 4000000 in
set_option maxRecDepth 100000 in
theorem plainz_true (hg:GoodT l) {n:Nat} {ex:Rd1 Tm} (hE:ExprZ R A c l n ex) (i:Nat) (z:Value) (ns:List (List UInt8)) (at_:Nat) (w:World) (h:Pr w R A c l i z ns at_ 0) (hn:(leftT l i).length≤n) (hns:ns.length+(leftT l i).length≤100000)
  (hk:(l.getD i default).1=1) (hx:(l.getD i default).2.2=[116,114,117,101]) :
  Calls Tryz.prog 61 #[.pointer (some ⟨R,0,none⟩)] w (ElZ elGl Gl.val sG (goalS ex) R A c l i z ns w):=by
 have HG:=Lib.hid hg
 have HI:=Lib.hid h.ilt
 obtain ⟨t,ht⟩:∃t,l.getD i default=t:=⟨_,rfl⟩
 obtain ⟨k,p,x⟩:=t
 have HX:=Lib.hid (show x.length≤16384 by have:=hg.texts i h.ilt;rw [ht] at this;exact this)
 have HC:=Lib.hid (show leftT l i=(k,x,markT l i) :: leftT l (i+1) by rw [left_cons h.ilt,ht])
 have Q:=Lib.hid (r_tok_of (h.alloc (.cells #[.int .i64 0,.string ⟨#[]⟩,.slice none 0 0] 54)) ht)
 have H:=Lib.hid h
 have HT:=Lib.hid ht
 have hR:=h.lt
 have hTR:w.heap.size≠R:=by omega
 have HZ0:=Lib.hid h.znew
 have HB0:=Lib.hid (BoxL.new w [.int .i64 0,.string ⟨#[]⟩,.slice none 0 0] 54)
 have HA0:=Lib.hid (show Kp R z z w (w.alloc (.cells #[.int .i64 0,.string ⟨#[]⟩,.slice none 0 0] 54)) from (Kp.refl R z w).alloc _)
 have HNN:=Lib.hid (And.intro hn hns)
 have QE:=Lib.hid hE
 have hk1:k=1:=by rw [ht] at hk;exact hk
 subst hk1
 have hx':x=[116,114,117,101]:=by rw [ht] at hx;exact hx
 have hne:x≠[]:=by rw [hx'];decide
 have QR:=Lib.hid (fun W=>ref_res_at (S x) W (r:=true) (by rw [hx'];rfl))
 have QN:=Lib.hid (fun W (hW:Pr W R A c l i z ns at_ 0)=>z_next_at HG.out hW (by rw [HT.out];exact hne))
 subst hx'
 clear h ht hg hE hk hn hns hne hx
 go_enter Tryz.func61,Tryz.ntmps61
 go_wp2_with (first
  | (go_at_call 27;(with_reducible refine Q.out.mono ?_);rintro en w2 ⟨rfl,hb2⟩;have hb3:=hb2.alloc hb2.size (.cells #[.int .i64 1,.int .i64 (p:Int),.string (S [116,114,117,101])] 67);have hsz:w.heap.size+1≤w2.heap.size:=(by have:=hb2.size;simpa using this);have hne2:¬w2.heap.size=R:=(by omega);have hnw:¬w2.heap.size=w.heap.size:=(by omega);have HP2:=Lib.hid ((H.out.alloc _).below hb3);have HB2:=Lib.hid (HB0.out.below hb3);have HT2:=Lib.hid (BoxL.new w2 [.int .i64 1,.int .i64 (p:Int),.string (S [116,114,117,101])] 67);have HK2:=Lib.hid (HA0.out.trans (Below.kp hb3 R z));have HZ2:=Lib.hid (show z.ownBlock≠some w2.heap.size from fun e=>by have:=(H.out.zlt _ e).2;omega);clear hb2 hb3)
  | (go_at_call 77;(with_reducible refine (QR.out _).mono ?_);rintro en wr ⟨rfl,rfl⟩)
  | (go_at_call 48;(with_reducible refine (QN.out _ (HP2.out.alloc (.cells #[.int .i64 0,.string ⟨#[]⟩,.slice none 0 0] 54))).mono ?_);rintro en w3 ⟨rfl,hk3,hp3⟩;have HP3:=Lib.hid hp3;obtain ⟨c0,c1,c2,f0,f1,f2⟩:=((HB2.out.alloc _).kz hk3 hTR HZ0.out).get3;have HK3:=Lib.hid ((HK2.out.alloc _).trans hk3);clear hk3 hp3))
 refine bodyPost_ret (v:=.tuple #[.agg #[.int .i64 1,.string ⟨#[]⟩,.slice none 0 0],.bool true]) (by simp [results,Tryz.results61,go_sem,c0,c1,c2]) rfl ?_
 obtain ⟨e1,e2⟩:=endz3 hR HK3.out HP3.out HZ0.out (.int .i64 1) (.string ⟨#[]⟩) (.slice none 0 0)
 refine ⟨⟨1,⟨#[]⟩,none,0,[]⟩,true,rfl,.inl ⟨rfl,z,ns,i+1,at_,e1,e2,?_,Nat.lt_succ_self _,by simp only [left_length];omega,sitz_goal0 _ _ _ (by unfold Fits;omega)⟩⟩
 rw [HC.out]
 rfl
set_option maxHeartbeats 4000000 in
set_option maxRecDepth 100000 in
theorem plainz_fail (hg:GoodT l) {n:Nat} {ex:Rd1 Tm} (hE:ExprZ R A c l n ex) (i:Nat) (z:Value) (ns:List (List UInt8)) (at_:Nat) (w:World) (h:Pr w R A c l i z ns at_ 0) (hn:(leftT l i).length≤n) (hns:ns.length+(leftT l i).length≤100000)
  (hk:(l.getD i default).1=1) (hx:(l.getD i default).2.2=[102,97,105,108]) :
  Calls Tryz.prog 61 #[.pointer (some ⟨R,0,none⟩)] w (ElZ elGl Gl.val sG (goalS ex) R A c l i z ns w):=by
 have HG:=Lib.hid hg
 have HI:=Lib.hid h.ilt
 obtain ⟨t,ht⟩:∃t,l.getD i default=t:=⟨_,rfl⟩
 obtain ⟨k,p,x⟩:=t
 have HX:=Lib.hid (show x.length≤16384 by have:=hg.texts i h.ilt;rw [ht] at this;exact this)
 have HC:=Lib.hid (show leftT l i=(k,x,markT l i) :: leftT l (i+1) by rw [left_cons h.ilt,ht])
 have Q:=Lib.hid (r_tok_of (h.alloc (.cells #[.int .i64 0,.string ⟨#[]⟩,.slice none 0 0] 54)) ht)
 have H:=Lib.hid h
 have HT:=Lib.hid ht
 have hR:=h.lt
 have hTR:w.heap.size≠R:=by omega
 have HZ0:=Lib.hid h.znew
 have HB0:=Lib.hid (BoxL.new w [.int .i64 0,.string ⟨#[]⟩,.slice none 0 0] 54)
 have HA0:=Lib.hid (show Kp R z z w (w.alloc (.cells #[.int .i64 0,.string ⟨#[]⟩,.slice none 0 0] 54)) from (Kp.refl R z w).alloc _)
 have HNN:=Lib.hid (And.intro hn hns)
 have QE:=Lib.hid hE
 have hk1:k=1:=by rw [ht] at hk;exact hk
 subst hk1
 have hx':x=[102,97,105,108]:=by rw [ht] at hx;exact hx
 have hne:x≠[]:=by rw [hx'];decide
 have QR:=Lib.hid (fun W=>ref_res_at (S x) W (r:=true) (by rw [hx'];rfl))
 have QN:=Lib.hid (fun W (hW:Pr W R A c l i z ns at_ 0)=>z_next_at HG.out hW (by rw [HT.out];exact hne))
 subst hx'
 clear h ht hg hE hk hn hns hne hx
 go_enter Tryz.func61,Tryz.ntmps61
 go_wp2_with (first
  | (go_at_call 27;(with_reducible refine Q.out.mono ?_);rintro en w2 ⟨rfl,hb2⟩;have hb3:=hb2.alloc hb2.size (.cells #[.int .i64 1,.int .i64 (p:Int),.string (S [102,97,105,108])] 67);have hsz:w.heap.size+1≤w2.heap.size:=(by have:=hb2.size;simpa using this);have hne2:¬w2.heap.size=R:=(by omega);have hnw:¬w2.heap.size=w.heap.size:=(by omega);have HP2:=Lib.hid ((H.out.alloc _).below hb3);have HB2:=Lib.hid (HB0.out.below hb3);have HT2:=Lib.hid (BoxL.new w2 [.int .i64 1,.int .i64 (p:Int),.string (S [102,97,105,108])] 67);have HK2:=Lib.hid (HA0.out.trans (Below.kp hb3 R z));have HZ2:=Lib.hid (show z.ownBlock≠some w2.heap.size from fun e=>by have:=(H.out.zlt _ e).2;omega);clear hb2 hb3)
  | (go_at_call 77;(with_reducible refine (QR.out _).mono ?_);rintro en wr ⟨rfl,rfl⟩)
  | (go_at_call 48;(with_reducible refine (QN.out _ (HP2.out.alloc (.cells #[.int .i64 0,.string ⟨#[]⟩,.slice none 0 0] 54))).mono ?_);rintro en w3 ⟨rfl,hk3,hp3⟩;have HP3:=Lib.hid hp3;obtain ⟨c0,c1,c2,f0,f1,f2⟩:=((HB2.out.alloc _).kz hk3 hTR HZ0.out).get3;have HK3:=Lib.hid ((HK2.out.alloc _).trans hk3);clear hk3 hp3))
 refine bodyPost_ret (v:=.tuple #[.agg #[.int .i64 2,.string ⟨#[]⟩,.slice none 0 0],.bool true]) (by simp [results,Tryz.results61,go_sem,c0,c1,c2]) rfl ?_
 obtain ⟨e1,e2⟩:=endz3 hR HK3.out HP3.out HZ0.out (.int .i64 2) (.string ⟨#[]⟩) (.slice none 0 0)
 refine ⟨⟨2,⟨#[]⟩,none,0,[]⟩,true,rfl,.inl ⟨rfl,z,ns,i+1,at_,e1,e2,?_,Nat.lt_succ_self _,by simp only [left_length];omega,sitz_goal0 _ _ _ (by unfold Fits;omega)⟩⟩
 rw [HC.out]
 rfl
set_option maxHeartbeats 4000000 in
set_option maxRecDepth 100000 in
theorem plainz_word (hg:GoodT l) {n:Nat} {ex:Rd1 Tm} (hE:ExprZ R A c l n ex) (i:Nat) (z:Value) (ns:List (List UInt8)) (at_:Nat) (w:World) (h:Pr w R A c l i z ns at_ 0) (hn:(leftT l i).length≤n) (hns:ns.length+(leftT l i).length≤100000)
  (hk:(l.getD i default).1=1) (hx:resB (l.getD i default).2.2=true) (n1:(l.getD i default).2.2≠[116,114,117,101]) (n2:(l.getD i default).2.2≠[102,97,105,108]) (n3:(l.getD i default).2.2≠[105,110,116]) (n4:(l.getD i default).2.2≠[103,114,111,117,110,100]) :
  Calls Tryz.prog 61 #[.pointer (some ⟨R,0,none⟩)] w (ElZ elGl Gl.val sG (goalS ex) R A c l i z ns w):=by
 have HG:=Lib.hid hg
 have HI:=Lib.hid h.ilt
 obtain ⟨t,ht⟩:∃t,l.getD i default=t:=⟨_,rfl⟩
 obtain ⟨k,p,x⟩:=t
 have HX:=Lib.hid (show x.length≤16384 by have:=hg.texts i h.ilt;rw [ht] at this;exact this)
 have HC:=Lib.hid (show leftT l i=(k,x,markT l i) :: leftT l (i+1) by rw [left_cons h.ilt,ht])
 have Q:=Lib.hid (r_tok_of (h.alloc (.cells #[.int .i64 0,.string ⟨#[]⟩,.slice none 0 0] 54)) ht)
 have H:=Lib.hid h
 have HT:=Lib.hid ht
 have hR:=h.lt
 have hTR:w.heap.size≠R:=by omega
 have HZ0:=Lib.hid h.znew
 have HB0:=Lib.hid (BoxL.new w [.int .i64 0,.string ⟨#[]⟩,.slice none 0 0] 54)
 have HA0:=Lib.hid (show Kp R z z w (w.alloc (.cells #[.int .i64 0,.string ⟨#[]⟩,.slice none 0 0] 54)) from (Kp.refl R z w).alloc _)
 have HNN:=Lib.hid (And.intro hn hns)
 have QE:=Lib.hid hE
 have hk1:k=1:=by rw [ht] at hk;exact hk
 subst hk1
 have hx':resB x=true:=by rw [ht] at hx;exact hx
 rw [ht] at n1 n2 n3 n4
 have n1:x≠[116,114,117,101]:=n1
 have n2:x≠[102,97,105,108]:=n2
 have n3:x≠[105,110,116]:=n3
 have n4:x≠[103,114,111,117,110,100]:=n4
 have m1:(x==[116,114,117,101])=false:=by simpa using n1
 have m2:(x==[102,97,105,108])=false:=by simpa using n2
 have m3:(x==[105,110,116])=false:=by simpa using n3
 have m4:(x==[103,114,111,117,110,100])=false:=by simpa using n4
 have QR:=Lib.hid (fun W=>ref_res_at (S x) W (r:=true) hx')
 have QF:=Lib.hid (fun W (hW:Pr W R A c l i z ns at_ 0)=>r_fail_at hW p 7)
 have HV:=Lib.hid (show goalS ex (leftT l i) ns=.err (leftT l i).length 7 by
  rw [HC.out]
  simp only [goalS,hx',if_true,and_self,if_neg n1,if_neg n2,n3,n4,or_self,if_false])
 clear h ht hg hE hk hn hns hx hx' n1 n2 n3 n4
 go_enter Tryz.func61,Tryz.ntmps61
 go_wp2_with (first
  | (go_at_call 27;(with_reducible refine Q.out.mono ?_);rintro en w2 ⟨rfl,hb2⟩;have hb3:=hb2.alloc hb2.size (.cells #[.int .i64 1,.int .i64 (p:Int),.string (S x)] 67);have hsz:w.heap.size+1≤w2.heap.size:=(by have:=hb2.size;simpa using this);have hne2:¬w2.heap.size=R:=(by omega);have hnw:¬w2.heap.size=w.heap.size:=(by omega);have HP2:=Lib.hid ((H.out.alloc _).below hb3);have HB2:=Lib.hid (HB0.out.below hb3);have HT2:=Lib.hid (BoxL.new w2 [.int .i64 1,.int .i64 (p:Int),.string (S x)] 67);have HK2:=Lib.hid (HA0.out.trans (Below.kp hb3 R z));have HZ2:=Lib.hid (show z.ownBlock≠some w2.heap.size from fun e=>by have:=(H.out.zlt _ e).2;omega);clear hb2 hb3)
  | (go_at_call 77;(with_reducible refine (QR.out _).mono ?_);rintro en wr ⟨rfl,rfl⟩)
  | (go_at_call 31;(with_reducible refine (QF.out _ (HP2.out.alloc (.cells #[.int .i64 0,.string ⟨#[]⟩,.slice none 0 0] 54))).mono ?_);rintro en w3 ⟨rfl,hk3,hp3⟩;have HP3:=Lib.hid hp3;obtain ⟨c0,c1,c2,f0,f1,f2⟩:=((HB2.out.alloc _).kz hk3 hTR HZ0.out).get3;have HK3:=Lib.hid ((HK2.out.alloc _).trans hk3);clear hk3 hp3))
 refine bodyPost_ret (v:=.tuple #[.agg #[.int .i64 0,.string ⟨#[]⟩,.slice none 0 0],.bool false]) (by simp [results,Tryz.results61,go_sem,c0,c1,c2]) rfl ?_
 obtain ⟨e1,e2⟩:=endz3 hR HK3.out HP3.out HZ0.out (.int .i64 0) (.string ⟨#[]⟩) (.slice none 0 0)
 exact ⟨⟨0,⟨#[]⟩,none,0,[]⟩,false,rfl,.inr ⟨rfl,z,ns,i,(leftT l i).length,7,e1,by rw [off_here HI.out,HT.out];exact e2,by decide,HV.out⟩⟩
set_option maxHeartbeats 4000000 in
set_option maxRecDepth 100000 in
theorem plainz_int (hg:GoodT l) {n:Nat} {ex:Rd1 Tm} (hE:ExprZ R A c l n ex) (i:Nat) (z:Value) (ns:List (List UInt8)) (at_:Nat) (w:World) (h:Pr w R A c l i z ns at_ 0) (hn:(leftT l i).length≤n) (hns:ns.length+(leftT l i).length≤100000)
  (hk:(l.getD i default).1=1) (hx:(l.getD i default).2.2=[105,110,116]) :
  Calls Tryz.prog 61 #[.pointer (some ⟨R,0,none⟩)] w (ElZ elGl Gl.val sG (goalS ex) R A c l i z ns w):=by
 have HG:=Lib.hid hg
 have HI:=Lib.hid h.ilt
 obtain ⟨t,ht⟩:∃t,l.getD i default=t:=⟨_,rfl⟩
 obtain ⟨k,p,x⟩:=t
 have HX:=Lib.hid (show x.length≤16384 by have:=hg.texts i h.ilt;rw [ht] at this;exact this)
 have HC:=Lib.hid (show leftT l i=(k,x,markT l i) :: leftT l (i+1) by rw [left_cons h.ilt,ht])
 have Q:=Lib.hid (r_tok_of (h.alloc (.cells #[.int .i64 0,.string ⟨#[]⟩,.slice none 0 0] 54)) ht)
 have H:=Lib.hid h
 have HT:=Lib.hid ht
 have hR:=h.lt
 have hTR:w.heap.size≠R:=by omega
 have HZ0:=Lib.hid h.znew
 have HB0:=Lib.hid (BoxL.new w [.int .i64 0,.string ⟨#[]⟩,.slice none 0 0] 54)
 have HA0:=Lib.hid (show Kp R z z w (w.alloc (.cells #[.int .i64 0,.string ⟨#[]⟩,.slice none 0 0] 54)) from (Kp.refl R z w).alloc _)
 have HNN:=Lib.hid (And.intro hn hns)
 have QE:=Lib.hid hE
 have hk1:k=1:=by rw [ht] at hk;exact hk
 subst hk1
 have hx':x=[105,110,116]:=by rw [ht] at hx;exact hx
 have hne:x≠[]:=by rw [hx'];decide
 have hn1:i+1 < l.length:=good_next hg h.ilt (by rw [ht];exact hne)
 have HN1:=Lib.hid hn1
 have QR:=Lib.hid (fun W=>ref_res_at (S x) W (r:=true) (by rw [hx'];rfl))
 have QN:=Lib.hid (fun W (hW:Pr W R A c l i z ns at_ 0)=>z_next_at HG.out hW (by rw [HT.out];exact hne))
 have HV := Lib.hid (show goalS ex (leftT l i) ns = if isS [40] (leftT l (i + 1)) then (match ex (leftT l (i + 1)).tail ns with
         | .ok y r2 ns2 => wantS [41] (11, [], [y]) r2 ns2
         | .err l e => .err l e) else .err (leftT l (i + 1)).length 16 by rw [HC.out]; exact goalS_check ex (by rw [hx']; simp) _ _ _)
 obtain ⟨b1,hb1⟩:∃b,((l.getD (i+1) default).2.2==[40])=b:=⟨_,rfl⟩
 have X1:=Lib.hid (isS_text hg hn1 [40] (by decide) hb1)
 have QW:=Lib.hid (fun W (hW:Pr W R A c l (i+1) z ns at_ 0)=>z_want_at HG.out hW [40] (by decide) hb1)
 subst hx'
 clear h ht hg hE hk hn hns hne hx hn1 hb1
 go_enter Tryz.func61,Tryz.ntmps61
 go_wp2_with (first
  | (go_at_call 27;(with_reducible refine Q.out.mono ?_);rintro en w2 ⟨rfl,hb2⟩;have hb3:=hb2.alloc hb2.size (.cells #[.int .i64 1,.int .i64 (p:Int),.string (S [105,110,116])] 67);have hsz:w.heap.size+1≤w2.heap.size:=(by have:=hb2.size;simpa using this);have hne2:¬w2.heap.size=R:=(by omega);have hnw:¬w2.heap.size=w.heap.size:=(by omega);have HP2:=Lib.hid ((H.out.alloc _).below hb3);have HB2:=Lib.hid (HB0.out.below hb3);have HT2:=Lib.hid (BoxL.new w2 [.int .i64 1,.int .i64 (p:Int),.string (S [105,110,116])] 67);have HK2:=Lib.hid (HA0.out.trans (Below.kp hb3 R z));have HZ2:=Lib.hid (show z.ownBlock≠some w2.heap.size from fun e=>by have:=(H.out.zlt _ e).2;omega);clear hb2 hb3)
  | (go_at_call 77;(with_reducible refine (QR.out _).mono ?_);rintro en wr ⟨rfl,rfl⟩))
 have hs3:(w2.alloc (.cells #[.int .i64 1,.int .i64 (p:Int),.string (S [105,110,116])] 67)).heap.size=w2.heap.size+1:=(by simp)
 have HG3:=Lib.hid (hs3 ▸ BoxL.new (w2.alloc (.cells #[.int .i64 1,.int .i64 (p:Int),.string (S [105,110,116])] 67)) [.int .i64 11,.string ⟨#[]⟩,.slice none 0 0] 54:BoxL ((w2.alloc (.cells #[.int .i64 1,.int .i64 (p:Int),.string (S [105,110,116])] 67)).alloc (.cells #[.int .i64 11,.string ⟨#[]⟩,.slice none 0 0] 54)) (w2.heap.size+1) [.int .i64 11,.string ⟨#[]⟩,.slice none 0 0])
 have HP3:=Lib.hid (HP2.out.alloc (.cells #[.int .i64 11,.string ⟨#[]⟩,.slice none 0 0] 54))
 have HB3:=Lib.hid (HB2.out.alloc (.cells #[.int .i64 11,.string ⟨#[]⟩,.slice none 0 0] 54))
 have HT3:=Lib.hid (HT2.out.alloc (.cells #[.int .i64 11,.string ⟨#[]⟩,.slice none 0 0] 54))
 have HK3:=Lib.hid (HK2.out.alloc (.cells #[.int .i64 11,.string ⟨#[]⟩,.slice none 0 0] 54))
 have hRG:R < w2.heap.size+1:=by omega
 have HZ3:=Lib.hid (show z.ownBlock≠some (w2.heap.size+1) from fun e=>by have:=(H.out.zlt _ e).2;omega)
 refine (QN.out _ HP3.out).mono ?_
 rintro en w4 ⟨rfl,hk4,hp4⟩
 have HP5:=Lib.hid hp4
 have hs5:w2.heap.size+2≤w4.heap.size:=by have:=hk4.size;simpa using this
 have HB5:=Lib.hid (HB3.out.kz hk4 hTR HZ0.out)
 have HG5:=Lib.hid (HG3.out.kz hk4 (by omega) HZ3.out)
 have HK5:=Lib.hid (HK3.out.trans hk4)
 clear hk4 hp4 hs3
 go_wp2_with fail
 refine (QW.out _ HP5.out).mono ?_
 rintro en w6 ⟨rfl,hk6,ho6⟩
 have hs6:w4.heap.size≤w6.heap.size:=hk6.size
 have HB6:=Lib.hid (HB5.out.kz hk6 hTR HZ0.out)
 have HG6:=Lib.hid (show BoxL w6 (w2.heap.size+1) [.int .i64 11,.string ⟨#[]⟩,.slice none 0 0] from HG5.out.kz hk6 (by omega) HZ3.out)
 have HK6:=Lib.hid (HK5.out.trans hk6)
 clear hk6
 rcases ho6 with ⟨rfl,a6,hp6⟩|⟨rfl,hp6⟩
 ·have HP6:=Lib.hid hp6
  clear hp6
  go_wp2_with fail
  refine (QE.out (i+2) z ns a6 _ HP6.out (by have h1:=HNN.out.1;simp only [left_length] at h1 ⊢;omega) (by have h1:=HNN.out.2;simp only [left_length] at h1 ⊢;omega)).mono ?_
  rintro e w7 ⟨u,b,he,ho⟩
  have he2:e=.returned (.tuple #[.agg #[.int .i64 u.kind,.int .i64 u.num,.string u.name,.slice u.at_ u.args.length u.cap],.bool b]):=he
  clear he
  subst he2
  rcases ho with ⟨rfl,z7,ns7,j,a7,hk7,hp7,hf,hij,hl7,hs⟩|⟨rfl,z7,ns7,j,m,e7,hk7,hp7,he7,hf⟩
  ·have hs7:w6.heap.size≤w7.heap.size:=hk7.size
   have hnz7:z7.ownBlock≠some (w2.heap.size+1):=hk7.off HG6.out.lt HZ3.out
   have hnw7:z7.ownBlock≠some w.heap.size:=hk7.off HB6.out.lt HZ0.out
   have hb7:Below w7.heap.size w7 ((w7.alloc (.cells #[.int .i64 u.kind,.int .i64 u.num,.string u.name,.slice u.at_ u.args.length u.cap] 56)).alloc (.cells #[.int .i64 u.kind,.int .i64 u.num,.string u.name,.slice u.at_ u.args.length u.cap] 56)):=((Below.refl w7.heap.size w7).alloc (Nat.le_refl _) (.cells #[.int .i64 u.kind,.int .i64 u.num,.string u.name,.slice u.at_ u.args.length u.cap] 56)).alloc (by simp) (.cells #[.int .i64 u.kind,.int .i64 u.num,.string u.name,.slice u.at_ u.args.length u.cap] 56)
   have HB8:=Lib.hid (((HB6.out.kz hk7 hTR HZ0.out).below hb7).put (p:=⟨w2.heap.size+1,2,none⟩) (by show w2.heap.size+1≠w.heap.size;omega) (.slice (some ⟨w7.heap.size+1,0,none⟩) 1 1))
   have HG8:=Lib.hid (((HG6.out.kz hk7 (by omega) HZ3.out).below hb7).set (j:=2) (by simp) (.slice (some ⟨w7.heap.size+1,0,none⟩) 1 1))
   have HK8:=Lib.hid (((HK6.out.trans hk7).trans (Below.kp hb7 R z7)).put (p:=⟨w2.heap.size+1,2,none⟩) (by show w.heap.size≤w2.heap.size+1;omega) (.slice (some ⟨w7.heap.size+1,0,none⟩) 1 1))
   have HP8:=Lib.hid ((hp7.below hb7).store (p:=⟨w2.heap.size+1,2,none⟩) hRG hnz7 (.slice (some ⟨w7.heap.size+1,0,none⟩) 1 1))
   have HZ8:=Lib.hid hnw7
   obtain ⟨d0,d1,d2,g0,g1,g2⟩:=((HG6.out.kz hk7 (by omega) HZ3.out).below hb7).get3
   obtain ⟨c0,c1,c2,f0,f1,f2⟩:=((HB6.out.kz hk7 hTR HZ0.out).below hb7).get3
   have d2':=fun o o2=>(((HG6.out.kz hk7 (by omega) HZ3.out).alloc o).alloc o2).get3.2.2.1
   have g2':=fun o o2=>(((HG6.out.kz hk7 (by omega) HZ3.out).alloc o).alloc o2).get3.2.2.2.2.2
   have hrow:=row1_lst (w7.alloc (.cells #[.int .i64 u.kind,.int .i64 u.num,.string u.name,.slice u.at_ u.args.length u.cap] 56)) u ((hs.at_ u (List.mem_singleton.2 rfl)).below ((Below.refl w7.heap.size w7).alloc (Nat.le_refl _) (.cells #[.int .i64 u.kind,.int .i64 u.num,.string u.name,.slice u.at_ u.args.length u.cap] 56)))
   rw [show (w7.alloc (.cells #[.int .i64 u.kind,.int .i64 u.num,.string u.name,.slice u.at_ u.args.length u.cap] 56)).heap.size=w7.heap.size+1 by simp] at hrow
   have HS8:=Lib.hid ((sitz_goal (op:=11) (s:=⟨#[]⟩) (hs.low (show w.heap.size+1≤w6.heap.size by omega)) hb7 hrow (by omega) (by simp) (fun e=>by have:=(hp7.zlt _ e).2;omega) (by unfold Fits;omega) (Nat.zero_le _)).put (p:=⟨w2.heap.size+1,2,none⟩) (fun hx=>by
    rw [gl_blk] at hx
    rcases List.mem_append.1 hx with hx|hx
    ·have hx2:w2.heap.size+1=w7.heap.size+1:=by simpa [blkA,blkO] using hx
     omega
    ·have:=(hs.bd _ hx).1;simp only at this;omega) (.slice (some ⟨w7.heap.size+1,0,none⟩) 1 1))
   have HF:=Lib.hid (And.intro hf (And.intro hij hl7))
   obtain ⟨b3,hb3⟩:∃b3,((l.getD j default).2.2==[41])=b3:=⟨_,rfl⟩
   have X3:=Lib.hid (isS_text HG.out hp7.ilt [41] (by decide) hb3)
   have QV:=Lib.hid (fun W (hW:Pr W R A c l j z7 ns7 a7 0)=>z_want_at HG.out hW [41] (by decide) hb3)
   have HZG:=Lib.hid hnz7
   clear hk7 hp7 hf hij hl7 hs hb7 hrow hnz7 hnw7 hb3
   go_wp2_with fail
   obtain ⟨d0,d1,d2,g0,g1,g2⟩:=HG8.out.get3
   go_region_with (go_at_call 50;refine (QV.out _ (by first|exact HP8.out|exact HP8.out.drew)).mono ?_;rintro en w9 ⟨rfl,hk9,ho9⟩;have hk8:Kp R z7 z7 (((w7.alloc (.cells #[.int .i64 u.kind,.int .i64 u.num,.string u.name,.slice u.at_ u.args.length u.cap] 56)).alloc (.cells #[.int .i64 u.kind,.int .i64 u.num,.string u.name,.slice u.at_ u.args.length u.cap] 56)).setCell ⟨w2.heap.size+1,2,none⟩ (.slice (some ⟨w7.heap.size+1,0,none⟩) 1 1)) w9:=(by first|exact hk9|exact ⟨hk9.os,hk9.tape,hk9.output,hk9.size,hk9.block,hk9.own⟩);have HK9:=Lib.hid (HK8.out.trans hk8);have HO9:=Lib.hid ho9;have HS9:=Lib.hid (HS8.out.kp hk8 (by omega));obtain ⟨c0,c1,c2,f0,f1,f2⟩:=(HB8.out.kz hk8 hTR HZ8.out).get3;obtain ⟨q0,q1,q2,r0,r1,r2⟩:=(HG8.out.kz hk8 (by omega) HZG.out).get3;clear hk9 ho9 hk8)
   all_goals
    go_wp2_with fail
    refine bodyPost_ret (v:=.tuple #[.agg #[.int .i64 11,.string ⟨#[]⟩,.slice (some ⟨w7.heap.size+1,0,none⟩) 1 1],.bool b3]) (by simp [results,Tryz.results61,go_sem,c0,c1,c2]) rfl ?_
    refine ⟨⟨11,⟨#[]⟩,some ⟨w7.heap.size+1,0,none⟩,1,[u]⟩,b3,rfl,?_⟩
    rcases HO9.out with ⟨rfl,a9,hp9⟩|⟨rfl,hp9⟩
    ·obtain ⟨e1,e2⟩:=endz3 hR HK9.out hp9 HZ8.out (.int .i64 11) (.string ⟨#[]⟩) (.slice (some ⟨w7.heap.size+1,0,none⟩) 1 1)
     have hl:=HF.out.2.2
     have hS:=HS9.out.end3 (Nat.lt_succ_self _) (.int .i64 11) (.string ⟨#[]⟩) (.slice (some ⟨w7.heap.size+1,0,none⟩) 1 1)
     refine .inl ⟨rfl,z7,ns7,j+1,a9,(by first|exact e1|exact e1.drew),(by first|exact e2|exact e2.drew),?_,by have:=HF.out.2.1;omega,by simp only [left_length] at hl ⊢;omega,(by first|exact hS|exact ⟨hS.at_,hS.bd,hS.out⟩)⟩
     rw [HV.out,X1.out,if_pos rfl,left_tail,HF.out.1]
     simp only [wantS,X3.out,if_true,left_tail]
     rfl
    ·obtain ⟨e1,e2⟩:=endz3 hR HK9.out hp9 HZ8.out (.int .i64 11) (.string ⟨#[]⟩) (.slice (some ⟨w7.heap.size+1,0,none⟩) 1 1)
     refine .inr ⟨rfl,z7,ns7,j,(leftT l j).length,16,(by first|exact e1|exact e1.drew),(by first|exact e2|exact e2.drew),by decide,?_⟩
     rw [HV.out,X1.out,if_pos rfl,left_tail,HF.out.1]
     simp only [wantS,X3.out]
     rfl
  ·have hs7:w6.heap.size≤w7.heap.size:=hk7.size
   have hnz7:z7.ownBlock≠some (w2.heap.size+1):=hk7.off HG6.out.lt HZ3.out
   have hnw7:z7.ownBlock≠some w.heap.size:=hk7.off HB6.out.lt HZ0.out
   have hb7:Below w7.heap.size w7 ((w7.alloc (.cells #[.int .i64 u.kind,.int .i64 u.num,.string u.name,.slice u.at_ u.args.length u.cap] 56)).alloc (.cells #[.int .i64 u.kind,.int .i64 u.num,.string u.name,.slice u.at_ u.args.length u.cap] 56)):=((Below.refl w7.heap.size w7).alloc (Nat.le_refl _) (.cells #[.int .i64 u.kind,.int .i64 u.num,.string u.name,.slice u.at_ u.args.length u.cap] 56)).alloc (by simp) (.cells #[.int .i64 u.kind,.int .i64 u.num,.string u.name,.slice u.at_ u.args.length u.cap] 56)
   have HB8:=Lib.hid (((HB6.out.kz hk7 hTR HZ0.out).below hb7).put (p:=⟨w2.heap.size+1,2,none⟩) (by show w2.heap.size+1≠w.heap.size;omega) (.slice (some ⟨w7.heap.size+1,0,none⟩) 1 1))
   have HG8:=Lib.hid (((HG6.out.kz hk7 (by omega) HZ3.out).below hb7).set (j:=2) (by simp) (.slice (some ⟨w7.heap.size+1,0,none⟩) 1 1))
   have HK8:=Lib.hid (((HK6.out.trans hk7).trans (Below.kp hb7 R z7)).put (p:=⟨w2.heap.size+1,2,none⟩) (by show w.heap.size≤w2.heap.size+1;omega) (.slice (some ⟨w7.heap.size+1,0,none⟩) 1 1))
   have HP8:=Lib.hid ((hp7.below hb7).store (p:=⟨w2.heap.size+1,2,none⟩) hRG hnz7 (.slice (some ⟨w7.heap.size+1,0,none⟩) 1 1))
   have HZ8:=Lib.hid hnw7
   obtain ⟨d0,d1,d2,g0,g1,g2⟩:=((HG6.out.kz hk7 (by omega) HZ3.out).below hb7).get3
   obtain ⟨c0,c1,c2,f0,f1,f2⟩:=((HB6.out.kz hk7 hTR HZ0.out).below hb7).get3
   have d2':=fun o o2=>(((HG6.out.kz hk7 (by omega) HZ3.out).alloc o).alloc o2).get3.2.2.1
   have g2':=fun o o2=>(((HG6.out.kz hk7 (by omega) HZ3.out).alloc o).alloc o2).get3.2.2.2.2.2
   have HF:=Lib.hid (And.intro hf he7)
   clear hk7 hp7 hf hb7 hnz7 hnw7 he7
   go_wp2_with fail
   obtain ⟨d0,d1,d2,g0,g1,g2⟩:=HG8.out.get3
   obtain ⟨c0,c1,c2,f0,f1,f2⟩:=HB8.out.get3
   go_region
   go_wp2_with fail
   refine bodyPost_ret (v:=.tuple #[.agg #[.int .i64 11,.string ⟨#[]⟩,.slice (some ⟨w7.heap.size+1,0,none⟩) 1 1],.bool false]) (by simp [results,Tryz.results61,go_sem,c0,c1,c2]) rfl ?_
   obtain ⟨e1,e2⟩:=endz3 hR HK8.out HP8.out HZ8.out (.int .i64 11) (.string ⟨#[]⟩) (.slice (some ⟨w7.heap.size+1,0,none⟩) 1 1)
   refine ⟨⟨11,⟨#[]⟩,some ⟨w7.heap.size+1,0,none⟩,1,[u]⟩,false,rfl,.inr ⟨rfl,z7,ns7,j,m,e7,(by first|exact e1|exact e1.drew),(by first|exact e2|exact e2.drew),HF.out.2,?_⟩⟩
   rw [HV.out,X1.out,if_pos rfl,left_tail,HF.out.1]
 ·have HP6:=Lib.hid hp6
  obtain ⟨c0,c1,c2,f0,f1,f2⟩:=HB6.out.get3
  clear hp6
  go_wp2_with fail
  refine bodyPost_ret (v:=.tuple #[.agg #[.int .i64 0,.string ⟨#[]⟩,.slice none 0 0],.bool false]) (by simp [results,Tryz.results61,go_sem,c0,c1,c2]) rfl ?_
  obtain ⟨e1,e2⟩:=endz3 hR HK6.out HP6.out HZ0.out (.int .i64 0) (.string ⟨#[]⟩) (.slice none 0 0)
  refine ⟨⟨0,⟨#[]⟩,none,0,[]⟩,false,rfl,.inr ⟨rfl,z,ns,i+1,(leftT l (i+1)).length,16,e1,e2,by decide,?_⟩⟩
  rw [HV.out,X1.out]
  rfl
set_option maxHeartbeats 4000000 in
set_option maxRecDepth 100000 in
theorem plainz_ground (hg:GoodT l) {n:Nat} {ex:Rd1 Tm} (hE:ExprZ R A c l n ex) (i:Nat) (z:Value) (ns:List (List UInt8)) (at_:Nat) (w:World) (h:Pr w R A c l i z ns at_ 0) (hn:(leftT l i).length≤n) (hns:ns.length+(leftT l i).length≤100000)
  (hk:(l.getD i default).1=1) (hx:(l.getD i default).2.2=[103,114,111,117,110,100]) :
  Calls Tryz.prog 61 #[.pointer (some ⟨R,0,none⟩)] w (ElZ elGl Gl.val sG (goalS ex) R A c l i z ns w):=by
 have HG:=Lib.hid hg
 have HI:=Lib.hid h.ilt
 obtain ⟨t,ht⟩:∃t,l.getD i default=t:=⟨_,rfl⟩
 obtain ⟨k,p,x⟩:=t
 have HX:=Lib.hid (show x.length≤16384 by have:=hg.texts i h.ilt;rw [ht] at this;exact this)
 have HC:=Lib.hid (show leftT l i=(k,x,markT l i) :: leftT l (i+1) by rw [left_cons h.ilt,ht])
 have Q:=Lib.hid (r_tok_of (h.alloc (.cells #[.int .i64 0,.string ⟨#[]⟩,.slice none 0 0] 54)) ht)
 have H:=Lib.hid h
 have HT:=Lib.hid ht
 have hR:=h.lt
 have hTR:w.heap.size≠R:=by omega
 have HZ0:=Lib.hid h.znew
 have HB0:=Lib.hid (BoxL.new w [.int .i64 0,.string ⟨#[]⟩,.slice none 0 0] 54)
 have HA0:=Lib.hid (show Kp R z z w (w.alloc (.cells #[.int .i64 0,.string ⟨#[]⟩,.slice none 0 0] 54)) from (Kp.refl R z w).alloc _)
 have HNN:=Lib.hid (And.intro hn hns)
 have QE:=Lib.hid hE
 have hk1:k=1:=by rw [ht] at hk;exact hk
 subst hk1
 have hx':x=[103,114,111,117,110,100]:=by rw [ht] at hx;exact hx
 have hne:x≠[]:=by rw [hx'];decide
 have hn1:i+1 < l.length:=good_next hg h.ilt (by rw [ht];exact hne)
 have HN1:=Lib.hid hn1
 have QR:=Lib.hid (fun W=>ref_res_at (S x) W (r:=true) (by rw [hx'];rfl))
 have QN:=Lib.hid (fun W (hW:Pr W R A c l i z ns at_ 0)=>z_next_at HG.out hW (by rw [HT.out];exact hne))
 have HV := Lib.hid (show goalS ex (leftT l i) ns = if isS [40] (leftT l (i + 1)) then (match ex (leftT l (i + 1)).tail ns with
         | .ok y r2 ns2 => wantS [41] (12, [], [y]) r2 ns2
         | .err l e => .err l e) else .err (leftT l (i + 1)).length 16 by rw [HC.out]; exact goalS_check ex (by rw [hx']; simp) _ _ _)
 obtain ⟨b1,hb1⟩:∃b,((l.getD (i+1) default).2.2==[40])=b:=⟨_,rfl⟩
 have X1:=Lib.hid (isS_text hg hn1 [40] (by decide) hb1)
 have QW:=Lib.hid (fun W (hW:Pr W R A c l (i+1) z ns at_ 0)=>z_want_at HG.out hW [40] (by decide) hb1)
 subst hx'
 clear h ht hg hE hk hn hns hne hx hn1 hb1
 go_enter Tryz.func61,Tryz.ntmps61
 go_wp2_with (first
  | (go_at_call 27;(with_reducible refine Q.out.mono ?_);rintro en w2 ⟨rfl,hb2⟩;have hb3:=hb2.alloc hb2.size (.cells #[.int .i64 1,.int .i64 (p:Int),.string (S [103,114,111,117,110,100])] 67);have hsz:w.heap.size+1≤w2.heap.size:=(by have:=hb2.size;simpa using this);have hne2:¬w2.heap.size=R:=(by omega);have hnw:¬w2.heap.size=w.heap.size:=(by omega);have HP2:=Lib.hid ((H.out.alloc _).below hb3);have HB2:=Lib.hid (HB0.out.below hb3);have HT2:=Lib.hid (BoxL.new w2 [.int .i64 1,.int .i64 (p:Int),.string (S [103,114,111,117,110,100])] 67);have HK2:=Lib.hid (HA0.out.trans (Below.kp hb3 R z));have HZ2:=Lib.hid (show z.ownBlock≠some w2.heap.size from fun e=>by have:=(H.out.zlt _ e).2;omega);clear hb2 hb3)
  | (go_at_call 77;(with_reducible refine (QR.out _).mono ?_);rintro en wr ⟨rfl,rfl⟩))
 have hs3:(w2.alloc (.cells #[.int .i64 1,.int .i64 (p:Int),.string (S [103,114,111,117,110,100])] 67)).heap.size=w2.heap.size+1:=(by simp)
 have HG3:=Lib.hid (hs3 ▸ BoxL.new (w2.alloc (.cells #[.int .i64 1,.int .i64 (p:Int),.string (S [103,114,111,117,110,100])] 67)) [.int .i64 12,.string ⟨#[]⟩,.slice none 0 0] 54:BoxL ((w2.alloc (.cells #[.int .i64 1,.int .i64 (p:Int),.string (S [103,114,111,117,110,100])] 67)).alloc (.cells #[.int .i64 12,.string ⟨#[]⟩,.slice none 0 0] 54)) (w2.heap.size+1) [.int .i64 12,.string ⟨#[]⟩,.slice none 0 0])
 have HP3:=Lib.hid (HP2.out.alloc (.cells #[.int .i64 12,.string ⟨#[]⟩,.slice none 0 0] 54))
 have HB3:=Lib.hid (HB2.out.alloc (.cells #[.int .i64 12,.string ⟨#[]⟩,.slice none 0 0] 54))
 have HT3:=Lib.hid (HT2.out.alloc (.cells #[.int .i64 12,.string ⟨#[]⟩,.slice none 0 0] 54))
 have HK3:=Lib.hid (HK2.out.alloc (.cells #[.int .i64 12,.string ⟨#[]⟩,.slice none 0 0] 54))
 have hRG:R < w2.heap.size+1:=by omega
 have HZ3:=Lib.hid (show z.ownBlock≠some (w2.heap.size+1) from fun e=>by have:=(H.out.zlt _ e).2;omega)
 refine (QN.out _ HP3.out).mono ?_
 rintro en w4 ⟨rfl,hk4,hp4⟩
 have HP5:=Lib.hid hp4
 have hs5:w2.heap.size+2≤w4.heap.size:=by have:=hk4.size;simpa using this
 have HB5:=Lib.hid (HB3.out.kz hk4 hTR HZ0.out)
 have HG5:=Lib.hid (HG3.out.kz hk4 (by omega) HZ3.out)
 have HK5:=Lib.hid (HK3.out.trans hk4)
 clear hk4 hp4 hs3
 go_wp2_with fail
 refine (QW.out _ HP5.out).mono ?_
 rintro en w6 ⟨rfl,hk6,ho6⟩
 have hs6:w4.heap.size≤w6.heap.size:=hk6.size
 have HB6:=Lib.hid (HB5.out.kz hk6 hTR HZ0.out)
 have HG6:=Lib.hid (show BoxL w6 (w2.heap.size+1) [.int .i64 12,.string ⟨#[]⟩,.slice none 0 0] from HG5.out.kz hk6 (by omega) HZ3.out)
 have HK6:=Lib.hid (HK5.out.trans hk6)
 clear hk6
 rcases ho6 with ⟨rfl,a6,hp6⟩|⟨rfl,hp6⟩
 ·have HP6:=Lib.hid hp6
  clear hp6
  go_wp2_with fail
  refine (QE.out (i+2) z ns a6 _ HP6.out (by have h1:=HNN.out.1;simp only [left_length] at h1 ⊢;omega) (by have h1:=HNN.out.2;simp only [left_length] at h1 ⊢;omega)).mono ?_
  rintro e w7 ⟨u,b,he,ho⟩
  have he2:e=.returned (.tuple #[.agg #[.int .i64 u.kind,.int .i64 u.num,.string u.name,.slice u.at_ u.args.length u.cap],.bool b]):=he
  clear he
  subst he2
  rcases ho with ⟨rfl,z7,ns7,j,a7,hk7,hp7,hf,hij,hl7,hs⟩|⟨rfl,z7,ns7,j,m,e7,hk7,hp7,he7,hf⟩
  ·have hs7:w6.heap.size≤w7.heap.size:=hk7.size
   have hnz7:z7.ownBlock≠some (w2.heap.size+1):=hk7.off HG6.out.lt HZ3.out
   have hnw7:z7.ownBlock≠some w.heap.size:=hk7.off HB6.out.lt HZ0.out
   have hb7:Below w7.heap.size w7 ((w7.alloc (.cells #[.int .i64 u.kind,.int .i64 u.num,.string u.name,.slice u.at_ u.args.length u.cap] 56)).alloc (.cells #[.int .i64 u.kind,.int .i64 u.num,.string u.name,.slice u.at_ u.args.length u.cap] 56)):=((Below.refl w7.heap.size w7).alloc (Nat.le_refl _) (.cells #[.int .i64 u.kind,.int .i64 u.num,.string u.name,.slice u.at_ u.args.length u.cap] 56)).alloc (by simp) (.cells #[.int .i64 u.kind,.int .i64 u.num,.string u.name,.slice u.at_ u.args.length u.cap] 56)
   have HB8:=Lib.hid (((HB6.out.kz hk7 hTR HZ0.out).below hb7).put (p:=⟨w2.heap.size+1,2,none⟩) (by show w2.heap.size+1≠w.heap.size;omega) (.slice (some ⟨w7.heap.size+1,0,none⟩) 1 1))
   have HG8:=Lib.hid (((HG6.out.kz hk7 (by omega) HZ3.out).below hb7).set (j:=2) (by simp) (.slice (some ⟨w7.heap.size+1,0,none⟩) 1 1))
   have HK8:=Lib.hid (((HK6.out.trans hk7).trans (Below.kp hb7 R z7)).put (p:=⟨w2.heap.size+1,2,none⟩) (by show w.heap.size≤w2.heap.size+1;omega) (.slice (some ⟨w7.heap.size+1,0,none⟩) 1 1))
   have HP8:=Lib.hid ((hp7.below hb7).store (p:=⟨w2.heap.size+1,2,none⟩) hRG hnz7 (.slice (some ⟨w7.heap.size+1,0,none⟩) 1 1))
   have HZ8:=Lib.hid hnw7
   obtain ⟨d0,d1,d2,g0,g1,g2⟩:=((HG6.out.kz hk7 (by omega) HZ3.out).below hb7).get3
   obtain ⟨c0,c1,c2,f0,f1,f2⟩:=((HB6.out.kz hk7 hTR HZ0.out).below hb7).get3
   have d2':=fun o o2=>(((HG6.out.kz hk7 (by omega) HZ3.out).alloc o).alloc o2).get3.2.2.1
   have g2':=fun o o2=>(((HG6.out.kz hk7 (by omega) HZ3.out).alloc o).alloc o2).get3.2.2.2.2.2
   have hrow:=row1_lst (w7.alloc (.cells #[.int .i64 u.kind,.int .i64 u.num,.string u.name,.slice u.at_ u.args.length u.cap] 56)) u ((hs.at_ u (List.mem_singleton.2 rfl)).below ((Below.refl w7.heap.size w7).alloc (Nat.le_refl _) (.cells #[.int .i64 u.kind,.int .i64 u.num,.string u.name,.slice u.at_ u.args.length u.cap] 56)))
   rw [show (w7.alloc (.cells #[.int .i64 u.kind,.int .i64 u.num,.string u.name,.slice u.at_ u.args.length u.cap] 56)).heap.size=w7.heap.size+1 by simp] at hrow
   have HS8:=Lib.hid ((sitz_goal (op:=12) (s:=⟨#[]⟩) (hs.low (show w.heap.size+1≤w6.heap.size by omega)) hb7 hrow (by omega) (by simp) (fun e=>by have:=(hp7.zlt _ e).2;omega) (by unfold Fits;omega) (Nat.zero_le _)).put (p:=⟨w2.heap.size+1,2,none⟩) (fun hx=>by
    rw [gl_blk] at hx
    rcases List.mem_append.1 hx with hx|hx
    ·have hx2:w2.heap.size+1=w7.heap.size+1:=by simpa [blkA,blkO] using hx
     omega
    ·have:=(hs.bd _ hx).1;simp only at this;omega) (.slice (some ⟨w7.heap.size+1,0,none⟩) 1 1))
   have HF:=Lib.hid (And.intro hf (And.intro hij hl7))
   obtain ⟨b3,hb3⟩:∃b3,((l.getD j default).2.2==[41])=b3:=⟨_,rfl⟩
   have X3:=Lib.hid (isS_text HG.out hp7.ilt [41] (by decide) hb3)
   have QV:=Lib.hid (fun W (hW:Pr W R A c l j z7 ns7 a7 0)=>z_want_at HG.out hW [41] (by decide) hb3)
   have HZG:=Lib.hid hnz7
   clear hk7 hp7 hf hij hl7 hs hb7 hrow hnz7 hnw7 hb3
   go_wp2_with fail
   obtain ⟨d0,d1,d2,g0,g1,g2⟩:=HG8.out.get3
   go_region_with (go_at_call 50;refine (QV.out _ (by first|exact HP8.out|exact HP8.out.drew)).mono ?_;rintro en w9 ⟨rfl,hk9,ho9⟩;have hk8:Kp R z7 z7 (((w7.alloc (.cells #[.int .i64 u.kind,.int .i64 u.num,.string u.name,.slice u.at_ u.args.length u.cap] 56)).alloc (.cells #[.int .i64 u.kind,.int .i64 u.num,.string u.name,.slice u.at_ u.args.length u.cap] 56)).setCell ⟨w2.heap.size+1,2,none⟩ (.slice (some ⟨w7.heap.size+1,0,none⟩) 1 1)) w9:=(by first|exact hk9|exact ⟨hk9.os,hk9.tape,hk9.output,hk9.size,hk9.block,hk9.own⟩);have HK9:=Lib.hid (HK8.out.trans hk8);have HO9:=Lib.hid ho9;have HS9:=Lib.hid (HS8.out.kp hk8 (by omega));obtain ⟨c0,c1,c2,f0,f1,f2⟩:=(HB8.out.kz hk8 hTR HZ8.out).get3;obtain ⟨q0,q1,q2,r0,r1,r2⟩:=(HG8.out.kz hk8 (by omega) HZG.out).get3;clear hk9 ho9 hk8)
   all_goals
    go_wp2_with fail
    refine bodyPost_ret (v:=.tuple #[.agg #[.int .i64 12,.string ⟨#[]⟩,.slice (some ⟨w7.heap.size+1,0,none⟩) 1 1],.bool b3]) (by simp [results,Tryz.results61,go_sem,c0,c1,c2]) rfl ?_
    refine ⟨⟨12,⟨#[]⟩,some ⟨w7.heap.size+1,0,none⟩,1,[u]⟩,b3,rfl,?_⟩
    rcases HO9.out with ⟨rfl,a9,hp9⟩|⟨rfl,hp9⟩
    ·obtain ⟨e1,e2⟩:=endz3 hR HK9.out hp9 HZ8.out (.int .i64 12) (.string ⟨#[]⟩) (.slice (some ⟨w7.heap.size+1,0,none⟩) 1 1)
     have hl:=HF.out.2.2
     have hS:=HS9.out.end3 (Nat.lt_succ_self _) (.int .i64 12) (.string ⟨#[]⟩) (.slice (some ⟨w7.heap.size+1,0,none⟩) 1 1)
     refine .inl ⟨rfl,z7,ns7,j+1,a9,(by first|exact e1|exact e1.drew),(by first|exact e2|exact e2.drew),?_,by have:=HF.out.2.1;omega,by simp only [left_length] at hl ⊢;omega,(by first|exact hS|exact ⟨hS.at_,hS.bd,hS.out⟩)⟩
     rw [HV.out,X1.out,if_pos rfl,left_tail,HF.out.1]
     simp only [wantS,X3.out,if_true,left_tail]
     rfl
    ·obtain ⟨e1,e2⟩:=endz3 hR HK9.out hp9 HZ8.out (.int .i64 12) (.string ⟨#[]⟩) (.slice (some ⟨w7.heap.size+1,0,none⟩) 1 1)
     refine .inr ⟨rfl,z7,ns7,j,(leftT l j).length,16,(by first|exact e1|exact e1.drew),(by first|exact e2|exact e2.drew),by decide,?_⟩
     rw [HV.out,X1.out,if_pos rfl,left_tail,HF.out.1]
     simp only [wantS,X3.out]
     rfl
  ·have hs7:w6.heap.size≤w7.heap.size:=hk7.size
   have hnz7:z7.ownBlock≠some (w2.heap.size+1):=hk7.off HG6.out.lt HZ3.out
   have hnw7:z7.ownBlock≠some w.heap.size:=hk7.off HB6.out.lt HZ0.out
   have hb7:Below w7.heap.size w7 ((w7.alloc (.cells #[.int .i64 u.kind,.int .i64 u.num,.string u.name,.slice u.at_ u.args.length u.cap] 56)).alloc (.cells #[.int .i64 u.kind,.int .i64 u.num,.string u.name,.slice u.at_ u.args.length u.cap] 56)):=((Below.refl w7.heap.size w7).alloc (Nat.le_refl _) (.cells #[.int .i64 u.kind,.int .i64 u.num,.string u.name,.slice u.at_ u.args.length u.cap] 56)).alloc (by simp) (.cells #[.int .i64 u.kind,.int .i64 u.num,.string u.name,.slice u.at_ u.args.length u.cap] 56)
   have HB8:=Lib.hid (((HB6.out.kz hk7 hTR HZ0.out).below hb7).put (p:=⟨w2.heap.size+1,2,none⟩) (by show w2.heap.size+1≠w.heap.size;omega) (.slice (some ⟨w7.heap.size+1,0,none⟩) 1 1))
   have HG8:=Lib.hid (((HG6.out.kz hk7 (by omega) HZ3.out).below hb7).set (j:=2) (by simp) (.slice (some ⟨w7.heap.size+1,0,none⟩) 1 1))
   have HK8:=Lib.hid (((HK6.out.trans hk7).trans (Below.kp hb7 R z7)).put (p:=⟨w2.heap.size+1,2,none⟩) (by show w.heap.size≤w2.heap.size+1;omega) (.slice (some ⟨w7.heap.size+1,0,none⟩) 1 1))
   have HP8:=Lib.hid ((hp7.below hb7).store (p:=⟨w2.heap.size+1,2,none⟩) hRG hnz7 (.slice (some ⟨w7.heap.size+1,0,none⟩) 1 1))
   have HZ8:=Lib.hid hnw7
   obtain ⟨d0,d1,d2,g0,g1,g2⟩:=((HG6.out.kz hk7 (by omega) HZ3.out).below hb7).get3
   obtain ⟨c0,c1,c2,f0,f1,f2⟩:=((HB6.out.kz hk7 hTR HZ0.out).below hb7).get3
   have d2':=fun o o2=>(((HG6.out.kz hk7 (by omega) HZ3.out).alloc o).alloc o2).get3.2.2.1
   have g2':=fun o o2=>(((HG6.out.kz hk7 (by omega) HZ3.out).alloc o).alloc o2).get3.2.2.2.2.2
   have HF:=Lib.hid (And.intro hf he7)
   clear hk7 hp7 hf hb7 hnz7 hnw7 he7
   go_wp2_with fail
   obtain ⟨d0,d1,d2,g0,g1,g2⟩:=HG8.out.get3
   obtain ⟨c0,c1,c2,f0,f1,f2⟩:=HB8.out.get3
   go_region
   go_wp2_with fail
   refine bodyPost_ret (v:=.tuple #[.agg #[.int .i64 12,.string ⟨#[]⟩,.slice (some ⟨w7.heap.size+1,0,none⟩) 1 1],.bool false]) (by simp [results,Tryz.results61,go_sem,c0,c1,c2]) rfl ?_
   obtain ⟨e1,e2⟩:=endz3 hR HK8.out HP8.out HZ8.out (.int .i64 12) (.string ⟨#[]⟩) (.slice (some ⟨w7.heap.size+1,0,none⟩) 1 1)
   refine ⟨⟨12,⟨#[]⟩,some ⟨w7.heap.size+1,0,none⟩,1,[u]⟩,false,rfl,.inr ⟨rfl,z7,ns7,j,m,e7,(by first|exact e1|exact e1.drew),(by first|exact e2|exact e2.drew),HF.out.2,?_⟩⟩
   rw [HV.out,X1.out,if_pos rfl,left_tail,HF.out.1]
 ·have HP6:=Lib.hid hp6
  obtain ⟨c0,c1,c2,f0,f1,f2⟩:=HB6.out.get3
  clear hp6
  go_wp2_with fail
  refine bodyPost_ret (v:=.tuple #[.agg #[.int .i64 0,.string ⟨#[]⟩,.slice none 0 0],.bool false]) (by simp [results,Tryz.results61,go_sem,c0,c1,c2]) rfl ?_
  obtain ⟨e1,e2⟩:=endz3 hR HK6.out HP6.out HZ0.out (.int .i64 0) (.string ⟨#[]⟩) (.slice none 0 0)
  refine ⟨⟨0,⟨#[]⟩,none,0,[]⟩,false,rfl,.inr ⟨rfl,z,ns,i+1,(leftT l (i+1)).length,16,e1,e2,by decide,?_⟩⟩
  rw [HV.out,X1.out]
  rfl
end
end Go.Proofs.YtaojnljppcnhjaaGreatDoor
