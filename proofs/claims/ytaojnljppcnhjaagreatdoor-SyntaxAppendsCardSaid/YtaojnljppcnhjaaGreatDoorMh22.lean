/-
  RzOpnd.
-/
import Derived.Test.YtaojnljppcnhjaaGreatDoorMh21
import Derived.Test.YtaojnljppcnhjaaGreatDoorMh16
import Derived.Deep.RegionWith
namespace Go.Proofs.YtaojnljppcnhjaaGreatDoor
open Go.RowKit
theorem sitz_plain (lo:Nat) (z:Value) (w:World) {k n:Int} (hk:Fits k) (hn:Fits n):SitZ elTm lo z w [.mk k n ⟨#[]⟩ none 0 []] :=
 ⟨fun x hx=>by rw [List.mem_singleton.1 hx];exact (At_iff _ _).2 ⟨⟨hk,hn,Nat.zero_le _⟩,Lst.nil w⟩,fun b hb=>(by simp [Elt.blkL,elTm,Tm.blk,blkA,blkL] at hb),fun b hb=>(by simp [Elt.blkL,elTm,Tm.blk,blkA,blkL] at hb)⟩
section
variable {w W:World} {R:Nat} {A:Option Addr} {c:Nat} {l:List Tk} {i j:Nat} {z z':Value} {ns:List (List UInt8)} {at_:Nat} {er:Int} {T:Nat} {vs:List Value}
theorem endz4 (hR:R < w.heap.size) (hk:Kp R z z' w W) (hp:Pr W R A c l j z' ns at_ er) (hz:z'.ownBlock≠some w.heap.size) (v0 v1 v2 v3:Value) :
  Kp R z z' w (sets4 W w.heap.size v0 v1 v2 v3)∧Pr (sets4 W w.heap.size v0 v1 v2 v3) R A c l j z' ns at_ er :=
 ⟨(((hk.put (p:=⟨w.heap.size,0,none⟩) (Nat.le_refl _) _).put (p:=⟨w.heap.size,1,none⟩) (Nat.le_refl _) _).put (p:=⟨w.heap.size,2,none⟩) (Nat.le_refl _) _).put (p:=⟨w.heap.size,3,none⟩) (Nat.le_refl _) _,
  (((hp.store (p:=⟨w.heap.size,0,none⟩) hR hz _).store (p:=⟨w.heap.size,1,none⟩) hR hz _).store (p:=⟨w.heap.size,2,none⟩) hR hz _).store (p:=⟨w.heap.size,3,none⟩) hR hz _⟩
theorem SitZ.sets4 {α:Type} {E:Elt α} {lo:Nat} {L:List α} (h:SitZ E lo z W L) (hT:T∉E.blkL L) (v0 v1 v2 v3:Value):SitZ E lo z (sets4 W T v0 v1 v2 v3) L :=
 (((h.put (p:=⟨T,0,none⟩) hT _).put (p:=⟨T,1,none⟩) hT _).put (p:=⟨T,2,none⟩) hT _).put (p:=⟨T,3,none⟩) hT _
theorem SitZ.end4 {α:Type} {E:Elt α} {lo T:Nat} {L:List α} (h:SitZ E lo z W L) (hlo:T < lo) (v0 v1 v2 v3:Value):SitZ E T z (Go.Proofs.YtaojnljppcnhjaaGreatDoor.sets4 W T v0 v1 v2 v3) L :=
 (h.low (Nat.le_of_lt hlo)).sets4 (fun hx=>by have:=(h.bd _ hx).1;omega) _ _ _ _
theorem sitz_fun {lo:Nat} {u:Am} (h:SitZ elAm lo z W [u]):SitZ elTm lo z W [.mk 2 0 u.name u.at_ u.cap u.args]:=by
 have hat:=h.at_ u (List.mem_singleton.2 rfl)
 have e:elTm.blkL [Tm.mk 2 0 u.name u.at_ u.cap u.args]=elAm.blkL [u]:=by rw [Elt.blkL_one,Elt.blkL_one];rfl
 refine ⟨fun x hx=>?_,fun b hb=>h.bd b (by rw [←e];exact hb),fun b hb=>h.out b (by rw [←e];exact hb)⟩
 rw [List.mem_singleton.1 hx]
 exact (At_iff _ _).2 ⟨⟨by show Fits 2;unfold Fits;omega,by show Fits 0;unfold Fits;omega,hat.1.1⟩,hat.1.2⟩
theorem name_grows (x:List UInt8) (ns:List (List UInt8)):(nameS x ns).2.length≤ns.length+1∧(nameS x ns).1≤ns.length:=by
 unfold nameS
 split
 ·rename_i h
  have:=List.idxOf_lt_length_iff.2 h.2
  exact ⟨by simp,by simp only;omega⟩
 ·exact ⟨by simp,by simp⟩
theorem opndS_atom (ex : Rd1 Tm) (t : List UInt8) (g : Bool) (r : List Tok) (ns : List (List UInt8)) : opndS ex ((1, t, g) :: r) ns = match atomS ex ((1, t, g) :: r) ns with
      | .ok x r2 ns2 => .ok (funS x.1 x.2) r2 ns2
      | .err l e => .err l e := by
 simp only [opndS,show ¬(1:Int)=3 by omega,show ¬(1:Int)=2 by omega,if_false,if_true]
 generalize atomS ex _ ns=q
 cases q<;>rfl
theorem opndS_paren (ex:Rd1 Tm) (t:List UInt8) (g:Bool) (r:List Tok) (ns:List (List UInt8)) {k:Int} (h3:k≠3) (h2:k≠2) (h1:k≠1) (hm:isS [45] ((k,t,g) :: r)=false) (hp:isS [40] ((k,t,g) :: r)=true) :
  opndS ex ((k,t,g) :: r) ns=match ex r ns with
   | .ok x r2 ns2=>wantS [41] x r2 ns2
   | .err l e=>.err l e:=by
 simp only [opndS,if_neg h3,if_neg h2,if_neg h1,hm,hp,if_true]
 generalize ex r ns=q
 cases q<;>rfl
theorem opndS_none (ex:Rd1 Tm) (t:List UInt8) (g:Bool) (r:List Tok) (ns:List (List UInt8)) {k:Int} (h3:k≠3) (h2:k≠2) (h1:k≠1) (hm:isS [45] ((k,t,g) :: r)=false) (hp:isS [40] ((k,t,g) :: r)=false) :
  opndS ex ((k,t,g) :: r) ns=.err ((k,t,g) :: r).length 16:=by
 simp only [opndS,if_neg h3,if_neg h2,if_neg h1,hm,hp]
 rfl
theorem opndS_minus (ex:Rd1 Tm) (t:List UInt8) (g:Bool) (k2:Int) (t2:List UInt8) (g2:Bool) (r2:List Tok) (ns:List (List UInt8)) {k:Int} (h3:k≠3) (h2:k≠2) (h1:k≠1) (hm:isS [45] ((k,t,g) :: (k2,t2,g2) :: r2)=true) :
  opndS ex ((k,t,g) :: (k2,t2,g2) :: r2) ns=if k2=3∧g2=true then .ok (intS (-valD t2)) r2 ns else .err ((k2,t2,g2) :: r2).length 16:=by
 simp only [opndS,if_neg h3,if_neg h2,if_neg h1,hm,if_true]
theorem digs_of {x:List UInt8} (h:∀c∈x,digB c=true):∀k (hk:k < (S x).size),digB (S x)[k]=true:=fun k hk=>h _ (by
 have:(S x)[k]=x[k]'(by have:=hk;rw [S_size] at this;exact this):=rfl
 rw [this];exact List.getElem_mem _)
end
section
variable {R:Nat} {A:Option Addr} {c:Nat} {l:List Tk}
set_option maxHeartbeats 4000000 in
set_option maxRecDepth 100000 in
theorem opndz_int (hg:GoodT l) {n:Nat} {ex:Rd1 Tm} (hE:ExprZ R A c l n ex) (i:Nat) (z:Value) (ns:List (List UInt8)) (at_:Nat) (w:World) (h:Pr w R A c l i z ns at_ 0) (hn:(leftT l i).length≤n+1) (hns:ns.length+(leftT l i).length≤100000)
  (hk:(l.getD i default).1=3) :
  Calls Tryz.prog 135 #[.pointer (some ⟨R,0,none⟩)] w (ElZ elTm Tm.val Tm.strip (opndS ex) R A c l i z ns w):=by
 have HG:=Lib.hid hg
 have HI:=Lib.hid h.ilt
 obtain ⟨t,ht⟩:∃t,l.getD i default=t:=⟨_,rfl⟩
 obtain ⟨k,p,x⟩:=t
 have HX:=Lib.hid (show x.length≤16384 by have:=hg.texts i h.ilt;rw [ht] at this;exact this)
 have HO:=Lib.hid (show p≤16384 by have:=hg.offs i h.ilt;rw [ht] at this;exact this)
 have HC:=Lib.hid (show leftT l i=(k,x,markT l i) :: leftT l (i+1) by rw [left_cons h.ilt,ht])
 have Q:=Lib.hid (r_tok_of (h.alloc (.cells #[.int .i64 0,.int .i64 0,.string ⟨#[]⟩,.slice none 0 0] 56)) ht)
 have H:=Lib.hid h
 have HT:=Lib.hid ht
 have hR:=h.lt
 have hTR:w.heap.size≠R:=by omega
 have HZ0:=Lib.hid h.znew
 have HB0:=Lib.hid (BoxL.new w [.int .i64 0,.int .i64 0,.string ⟨#[]⟩,.slice none 0 0] 56)
 have HA0:=Lib.hid (show Kp R z z w (w.alloc (.cells #[.int .i64 0,.int .i64 0,.string ⟨#[]⟩,.slice none 0 0] 56)) from (Kp.refl R z w).alloc _)
 have HNN:=Lib.hid (And.intro hn hns)
 have QE:=Lib.hid hE
 have hk3:k=3:=by rw [ht] at hk;exact hk
 subst hk3
 have hf:=num_facts hg h.ilt hk
 rw [ht] at hf
 obtain ⟨hne,hd,hv⟩:=hf
 have hne:x≠[]:=hne
 have hd:∀c∈x,digB c=true:=hd
 have hv:valD x≤2147483648:=hv
 have hv0:=val_ge hne hd hv
 have QN:=Lib.hid (fun W (hW:Pr W R A c l i z ns at_ 0)=>z_next_at HG.out hW (by rw [HT.out];exact hne))
 have QV:=Lib.hid (fun W=>r_value_at (S x) W (by have:=HX.out;show x.toArray.size≤_;simp;omega) (digs_of hd) (r:=valD x) rfl hv)
 have HV:=Lib.hid (And.intro hv0 hv)
 clear h ht hg hE hk hn hns hne hd hv hv0
 go_enter Tryz.func135,Tryz.ntmps135
 go_wp2_with (first
  | (go_at_call 27;(with_reducible refine Q.out.mono ?_);rintro en w2 ⟨rfl,hb2⟩;have hb3:=hb2.alloc hb2.size (.cells #[.int .i64 3,.int .i64 (p:Int),.string (S x)] 67);have hsz:w.heap.size+1≤w2.heap.size:=(by have:=hb2.size;simpa using this);have hne2:¬w2.heap.size=R:=(by omega);have hnw:¬w2.heap.size=w.heap.size:=(by omega);have HP2:=Lib.hid ((H.out.alloc _).below hb3);have HB2:=Lib.hid (HB0.out.below hb3);have HT2:=Lib.hid (BoxL.new w2 [.int .i64 3,.int .i64 (p:Int),.string (S x)] 67);have HK2:=Lib.hid (HA0.out.trans (Below.kp hb3 R z));have HZ2:=Lib.hid (show z.ownBlock≠some w2.heap.size from fun e=>by have:=(H.out.zlt _ e).2;omega);clear hb2 hb3)
  | (go_at_call 48;(with_reducible refine (QN.out _ HP2.out).mono ?_);rintro en w3 ⟨rfl,hk3,hp3⟩;have HP3:=Lib.hid hp3;obtain ⟨c0,c1,c2,c3,f0,f1,f2,f3⟩:=(HB2.out.kz hk3 hTR HZ0.out).get4;obtain ⟨t0,t1,t2,_⟩:=(HT2.out.kz hk3 hne2 HZ2.out).get3;have HK3:=Lib.hid (HK2.out.trans hk3);clear hk3 hp3)
  | (go_at_call 51;(with_reducible refine (QV.out _).mono ?_);rintro en w4 ⟨rfl,rfl⟩))
 refine bodyPost_ret (v:=.tuple #[.agg #[.int .i64 0,.int .i64 (valD x),.string ⟨#[]⟩,.slice none 0 0],.bool true]) (by simp [results,Tryz.results135,go_sem,c0,c1,c2,c3]) rfl ?_
 obtain ⟨e1,e2⟩:=endz4 hR HK3.out HP3.out HZ0.out (.int .i64 0) (.int .i64 (valD x)) (.string ⟨#[]⟩) (.slice none 0 0)
 refine ⟨.mk 0 (valD x) ⟨#[]⟩ none 0 [],true,rfl,.inl ⟨rfl,z,ns,i+1,at_,e1,e2,?_,Nat.lt_succ_self _,by simp only [left_length];omega,sitz_plain _ _ _ (by unfold Fits;omega) (by have:=HV.out;unfold Fits;omega)⟩⟩
 rw [HC.out,opndS_int]
 rfl
set_option maxHeartbeats 4000000 in
set_option maxRecDepth 100000 in
theorem opndz_var (hg:GoodT l) {n:Nat} {ex:Rd1 Tm} (hE:ExprZ R A c l n ex) (i:Nat) (z:Value) (ns:List (List UInt8)) (at_:Nat) (w:World) (h:Pr w R A c l i z ns at_ 0) (hn:(leftT l i).length≤n+1) (hns:ns.length+(leftT l i).length≤100000)
  (hk:(l.getD i default).1=2) :
  Calls Tryz.prog 135 #[.pointer (some ⟨R,0,none⟩)] w (ElZ elTm Tm.val Tm.strip (opndS ex) R A c l i z ns w):=by
 have HG:=Lib.hid hg
 have HI:=Lib.hid h.ilt
 obtain ⟨t,ht⟩:∃t,l.getD i default=t:=⟨_,rfl⟩
 obtain ⟨k,p,x⟩:=t
 have HX:=Lib.hid (show x.length≤16384 by have:=hg.texts i h.ilt;rw [ht] at this;exact this)
 have HO:=Lib.hid (show p≤16384 by have:=hg.offs i h.ilt;rw [ht] at this;exact this)
 have HC:=Lib.hid (show leftT l i=(k,x,markT l i) :: leftT l (i+1) by rw [left_cons h.ilt,ht])
 have Q:=Lib.hid (r_tok_of (h.alloc (.cells #[.int .i64 0,.int .i64 0,.string ⟨#[]⟩,.slice none 0 0] 56)) ht)
 have H:=Lib.hid h
 have HT:=Lib.hid ht
 have hR:=h.lt
 have hTR:w.heap.size≠R:=by omega
 have HZ0:=Lib.hid h.znew
 have HB0:=Lib.hid (BoxL.new w [.int .i64 0,.int .i64 0,.string ⟨#[]⟩,.slice none 0 0] 56)
 have HA0:=Lib.hid (show Kp R z z w (w.alloc (.cells #[.int .i64 0,.int .i64 0,.string ⟨#[]⟩,.slice none 0 0] 56)) from (Kp.refl R z w).alloc _)
 have HNN:=Lib.hid (And.intro hn hns)
 have QE:=Lib.hid hE
 have hk2:k=2:=by rw [ht] at hk;exact hk
 subst hk2
 have hne:x≠[]:=fun e=>by
  have h2:(2:Int)=kindO []:=by
   have:=hg.kinds i h.ilt
   rw [ht] at this
   rw [e] at this
   exact this
  exact absurd h2 (by decide)
 have QN:=Lib.hid (fun W (hW:Pr W R A c l i z ns at_ 0)=>z_next_at HG.out hW (by rw [HT.out];exact hne))
 have QV:=Lib.hid (fun W (hW:Pr W R A c l (i+1) z ns at_ 0)=>r_variable_at hW (show ns.length≤100000 by have:=HNN.out.2;omega) x)
 clear h ht hg hE hk hn hns hne
 go_enter Tryz.func135,Tryz.ntmps135
 go_wp2_with (first
  | (go_at_call 27;(with_reducible refine Q.out.mono ?_);rintro en w2 ⟨rfl,hb2⟩;have hb3:=hb2.alloc hb2.size (.cells #[.int .i64 2,.int .i64 (p:Int),.string (S x)] 67);have hsz:w.heap.size+1≤w2.heap.size:=(by have:=hb2.size;simpa using this);have hne2:¬w2.heap.size=R:=(by omega);have hnw:¬w2.heap.size=w.heap.size:=(by omega);have HP2:=Lib.hid ((H.out.alloc _).below hb3);have HB2:=Lib.hid (HB0.out.below hb3);have HT2:=Lib.hid (BoxL.new w2 [.int .i64 2,.int .i64 (p:Int),.string (S x)] 67);have HK2:=Lib.hid (HA0.out.trans (Below.kp hb3 R z));have HZ2:=Lib.hid (show z.ownBlock≠some w2.heap.size from fun e=>by have:=(H.out.zlt _ e).2;omega);clear hb2 hb3)
  | (go_at_call 48;(with_reducible refine (QN.out _ HP2.out).mono ?_);rintro en w3 ⟨rfl,hk3,hp3⟩;have HP3:=Lib.hid hp3;have HB3:=Lib.hid (HB2.out.kz hk3 hTR HZ0.out);obtain ⟨t0,t1,t2,_⟩:=(HT2.out.kz hk3 hne2 HZ2.out).get3;have HK3:=Lib.hid (HK2.out.trans hk3);clear hk3 hp3)
  | (go_at_call 148;(with_reducible refine (QV.out _ HP3.out).mono ?_);rintro en w4 ⟨rfl,z4,hk4,hp4⟩;have HP4:=Lib.hid hp4;obtain ⟨c0,c1,c2,c3,f0,f1,f2,f3⟩:=(HB3.out.kz hk4 hTR HZ0.out).get4;have HZ4:=Lib.hid (hk4.off HB3.out.lt HZ0.out);have HK4:=Lib.hid (HK3.out.trans hk4);clear hk4 hp4))
 refine bodyPost_ret (v:=.tuple #[.agg #[.int .i64 1,.int .i64 ((nameS x ns).1:Int),.string ⟨#[]⟩,.slice none 0 0],.bool true]) (by simp [results,Tryz.results135,go_sem,c0,c1,c2,c3]) rfl ?_
 obtain ⟨e1,e2⟩:=endz4 hR HK4.out HP4.out HZ4.out (.int .i64 1) (.int .i64 ((nameS x ns).1:Int)) (.string ⟨#[]⟩) (.slice none 0 0)
 have hg2:=name_grows x ns
 have hn2:=HNN.out.2
 have hi2:=HI.out
 refine ⟨.mk 1 ((nameS x ns).1:Int) ⟨#[]⟩ none 0 [],true,rfl,.inl ⟨rfl,z4,(nameS x ns).2,i+1,at_,e1,e2,?_,Nat.lt_succ_self _,by simp only [left_length] at hn2 ⊢;omega,sitz_plain _ _ _ (by unfold Fits;omega) (by unfold Fits;omega)⟩⟩
 rw [HC.out,opndS_var]
 rfl
set_option maxHeartbeats 4000000 in
set_option maxRecDepth 100000 in
theorem opndz_name (hg:GoodT l) {n:Nat} {ex:Rd1 Tm} (hE:ExprZ R A c l n ex) (i:Nat) (z:Value) (ns:List (List UInt8)) (at_:Nat) (w:World) (h:Pr w R A c l i z ns at_ 0) (hn:(leftT l i).length≤n+1) (hns:ns.length+(leftT l i).length≤100000)
  (hk:(l.getD i default).1=1) :
  Calls Tryz.prog 135 #[.pointer (some ⟨R,0,none⟩)] w (ElZ elTm Tm.val Tm.strip (opndS ex) R A c l i z ns w):=by
 have HG:=Lib.hid hg
 have HI:=Lib.hid h.ilt
 obtain ⟨t,ht⟩:∃t,l.getD i default=t:=⟨_,rfl⟩
 obtain ⟨k,p,x⟩:=t
 have HX:=Lib.hid (show x.length≤16384 by have:=hg.texts i h.ilt;rw [ht] at this;exact this)
 have HO:=Lib.hid (show p≤16384 by have:=hg.offs i h.ilt;rw [ht] at this;exact this)
 have HC:=Lib.hid (show leftT l i=(k,x,markT l i) :: leftT l (i+1) by rw [left_cons h.ilt,ht])
 have Q:=Lib.hid (r_tok_of (h.alloc (.cells #[.int .i64 0,.int .i64 0,.string ⟨#[]⟩,.slice none 0 0] 56)) ht)
 have H:=Lib.hid h
 have HT:=Lib.hid ht
 have hR:=h.lt
 have hTR:w.heap.size≠R:=by omega
 have HZ0:=Lib.hid h.znew
 have HB0:=Lib.hid (BoxL.new w [.int .i64 0,.int .i64 0,.string ⟨#[]⟩,.slice none 0 0] 56)
 have HA0:=Lib.hid (show Kp R z z w (w.alloc (.cells #[.int .i64 0,.int .i64 0,.string ⟨#[]⟩,.slice none 0 0] 56)) from (Kp.refl R z w).alloc _)
 have HNN:=Lib.hid (And.intro hn hns)
 have QE:=Lib.hid hE
 have hk1:k=1:=by rw [ht] at hk;exact hk
 subst hk1
 have QA:=Lib.hid (fun W (hW:Pr W R A c l i z ns at_ 0)=>atom_z HG.out QE.out i z ns at_ W hW HNN.out.1 HNN.out.2)
 clear h ht hg hE hk hn hns
 go_enter Tryz.func135,Tryz.ntmps135
 go_wp2_with (go_at_call 27;(with_reducible refine Q.out.mono ?_);rintro en w2 ⟨rfl,hb2⟩;have hb3:=hb2.alloc hb2.size (.cells #[.int .i64 1,.int .i64 (p:Int),.string (S x)] 67);have hsz:w.heap.size+1≤w2.heap.size:=(by have:=hb2.size;simpa using this);have hne2:¬w2.heap.size=R:=(by omega);have hnw:¬w2.heap.size=w.heap.size:=(by omega);have HP2:=Lib.hid ((H.out.alloc _).below hb3);have HB2:=Lib.hid (HB0.out.below hb3);have HT2:=Lib.hid (BoxL.new w2 [.int .i64 1,.int .i64 (p:Int),.string (S x)] 67);have HK2:=Lib.hid (HA0.out.trans (Below.kp hb3 R z));have HZ2:=Lib.hid (show z.ownBlock≠some w2.heap.size from fun e=>by have:=(H.out.zlt _ e).2;omega);clear hb2 hb3)
 refine (QA.out _ HP2.out).mono ?_
 rintro e w3 ⟨u,b,he,ho⟩
 have he2:e=.returned (.tuple #[.agg #[.string u.name,.slice u.at_ u.args.length u.cap],.bool b]):=he
 clear he
 subst he2
 rcases ho with ⟨rfl,z3,ns3,j,a3,hk3,hp3,hf,hij,hl3,hs3⟩|⟨rfl,z3,ns3,j,m,e3,hk3,hp3,he3,hf⟩
 ·have HB3:=Lib.hid (HB2.out.kz hk3 hTR HZ0.out)
  have HZ3:=Lib.hid (hk3.off HB2.out.lt HZ0.out)
  have HK3:=Lib.hid ((HK2.out.trans hk3).alloc (.cells #[.string u.name,.slice u.at_ u.args.length u.cap] 92))
  have HP3:=Lib.hid (hp3.alloc (.cells #[.string u.name,.slice u.at_ u.args.length u.cap] 92))
  have hsz3:w.heap.size+1≤(w2.alloc (.cells #[.int .i64 1,.int .i64 (p:Int),.string (S x)] 67)).heap.size:=by simp;omega
  have HS3:=Lib.hid ((sitz_fun (hs3.low hsz3)).alloc (.cells #[.string u.name,.slice u.at_ u.args.length u.cap] 92))
  have HF:=Lib.hid (And.intro hf (And.intro hij hl3))
  have c0:=fun o=>(HB3.out.alloc o).get4.1
  have c1:=fun o=>(HB3.out.alloc o).get4.2.1
  have c2:=fun o=>(HB3.out.alloc o).get4.2.2.1
  have c3:=fun o=>(HB3.out.alloc o).get4.2.2.2.1
  have f0:=fun o=>(HB3.out.alloc o).get4.2.2.2.2.1
  have f1:=fun o=>(HB3.out.alloc o).get4.2.2.2.2.2.1
  have f2:=fun o=>(HB3.out.alloc o).get4.2.2.2.2.2.2.1
  have f3:=fun o=>(HB3.out.alloc o).get4.2.2.2.2.2.2.2
  clear hk3 hp3 hf hij hl3 hs3 hsz3
  go_wp2_with fail
  refine bodyPost_ret (v:=.tuple #[.agg #[.int .i64 2,.int .i64 0,.string u.name,.slice u.at_ u.args.length u.cap],.bool true]) (by simp [results,Tryz.results135,go_sem,c0,c1,c2,c3]) rfl ?_
  obtain ⟨e1,e2⟩:=endz4 hR HK3.out HP3.out HZ3.out (.int .i64 2) (.int .i64 0) (.string u.name) (.slice u.at_ u.args.length u.cap)
  refine ⟨.mk 2 0 u.name u.at_ u.cap u.args,true,rfl,.inl ⟨rfl,z3,ns3,j,a3,e1,e2,?_,HF.out.2.1,HF.out.2.2,HS3.out.end4 (Nat.lt_succ_self _) _ _ _ _⟩⟩
  rw [HC.out,opndS_atom,← HC.out,HF.out.1]
  rfl
 ·have HB3:=Lib.hid (HB2.out.kz hk3 hTR HZ0.out)
  have HZ3:=Lib.hid (hk3.off HB2.out.lt HZ0.out)
  have HK3:=Lib.hid ((HK2.out.trans hk3).alloc (.cells #[.string u.name,.slice u.at_ u.args.length u.cap] 92))
  have HP3:=Lib.hid (hp3.alloc (.cells #[.string u.name,.slice u.at_ u.args.length u.cap] 92))
  have HF:=Lib.hid (And.intro hf he3)
  have c0:=fun o=>(HB3.out.alloc o).get4.1
  have c1:=fun o=>(HB3.out.alloc o).get4.2.1
  have c2:=fun o=>(HB3.out.alloc o).get4.2.2.1
  have c3:=fun o=>(HB3.out.alloc o).get4.2.2.2.1
  have f0:=fun o=>(HB3.out.alloc o).get4.2.2.2.2.1
  have f1:=fun o=>(HB3.out.alloc o).get4.2.2.2.2.2.1
  have f2:=fun o=>(HB3.out.alloc o).get4.2.2.2.2.2.2.1
  have f3:=fun o=>(HB3.out.alloc o).get4.2.2.2.2.2.2.2
  clear hk3 hp3 hf he3
  go_wp2_with fail
  refine bodyPost_ret (v:=.tuple #[.agg #[.int .i64 2,.int .i64 0,.string u.name,.slice u.at_ u.args.length u.cap],.bool false]) (by simp [results,Tryz.results135,go_sem,c0,c1,c2,c3]) rfl ?_
  obtain ⟨e1,e2⟩:=endz4 hR HK3.out HP3.out HZ3.out (.int .i64 2) (.int .i64 0) (.string u.name) (.slice u.at_ u.args.length u.cap)
  refine ⟨.mk 2 0 u.name u.at_ u.cap u.args,false,rfl,.inr ⟨rfl,z3,ns3,j,m,e3,e1,e2,HF.out.2,?_⟩⟩
  rw [HC.out,opndS_atom,← HC.out,HF.out.1]
set_option maxHeartbeats 4000000 in
set_option maxRecDepth 100000 in
theorem opndz_none (hg:GoodT l) {n:Nat} {ex:Rd1 Tm} (hE:ExprZ R A c l n ex) (i:Nat) (z:Value) (ns:List (List UInt8)) (at_:Nat) (w:World) (h:Pr w R A c l i z ns at_ 0) (hn:(leftT l i).length≤n+1) (hns:ns.length+(leftT l i).length≤100000)
  (h3:(l.getD i default).1≠3) (h2:(l.getD i default).1≠2) (h1:(l.getD i default).1≠1) (hm:((l.getD i default).2.2==[45])=false) (hp:((l.getD i default).2.2==[40])=false) :
  Calls Tryz.prog 135 #[.pointer (some ⟨R,0,none⟩)] w (ElZ elTm Tm.val Tm.strip (opndS ex) R A c l i z ns w):=by
 have HG:=Lib.hid hg
 have HI:=Lib.hid h.ilt
 obtain ⟨t,ht⟩:∃t,l.getD i default=t:=⟨_,rfl⟩
 obtain ⟨k,p,x⟩:=t
 have HX:=Lib.hid (show x.length≤16384 by have:=hg.texts i h.ilt;rw [ht] at this;exact this)
 have HO:=Lib.hid (show p≤16384 by have:=hg.offs i h.ilt;rw [ht] at this;exact this)
 have HC:=Lib.hid (show leftT l i=(k,x,markT l i) :: leftT l (i+1) by rw [left_cons h.ilt,ht])
 have Q:=Lib.hid (r_tok_of (h.alloc (.cells #[.int .i64 0,.int .i64 0,.string ⟨#[]⟩,.slice none 0 0] 56)) ht)
 have H:=Lib.hid h
 have HT:=Lib.hid ht
 have hR:=h.lt
 have hTR:w.heap.size≠R:=by omega
 have HZ0:=Lib.hid h.znew
 have HB0:=Lib.hid (BoxL.new w [.int .i64 0,.int .i64 0,.string ⟨#[]⟩,.slice none 0 0] 56)
 have HA0:=Lib.hid (show Kp R z z w (w.alloc (.cells #[.int .i64 0,.int .i64 0,.string ⟨#[]⟩,.slice none 0 0] 56)) from (Kp.refl R z w).alloc _)
 have HNN:=Lib.hid (And.intro hn hns)
 have QE:=Lib.hid hE
 have k3:k≠3:=by rw [ht] at h3;exact h3
 have k2:k≠2:=by rw [ht] at h2;exact h2
 have k1:k≠1:=by rw [ht] at h1;exact h1
 have hk3:(k==3)=false:=by simpa using k3
 have hk2:(k==2)=false:=by simpa using k2
 have hk1:(k==1)=false:=by simpa using k1
 have K3:=Lib.hid k3
 have K2:=Lib.hid k2
 have K1:=Lib.hid k1
 have X1:=Lib.hid (show isS [45] ((k,x,markT l i) :: leftT l (i+1))=(x==[45]) by rw [←HC.out,isS_left hg h.ilt (by decide),ht])
 have X2:=Lib.hid (show isS [40] ((k,x,markT l i) :: leftT l (i+1))=(x==[40]) by rw [←HC.out,isS_left hg h.ilt (by decide),ht])
 rw [ht] at hm hp
 have QM:=Lib.hid (fun W (hW:Pr W R A c l i z ns at_ 0)=>z_is_at (b:=false) HG.out hW [45] (by decide) (by rw [HT.out];exact hm))
 have QP:=Lib.hid (fun W (hW:Pr W R A c l i z ns at_ 0)=>z_is_at (b:=false) HG.out hW [40] (by decide) (by rw [HT.out];exact hp))
 have X3:=Lib.hid (show (x==[45])=false from hm)
 have X4:=Lib.hid (show (x==[40])=false from hp)
 have QF:=Lib.hid (fun W (hW:Pr W R A c l i z ns at_ 0)=>r_fail_at hW p 16)
 clear h ht hg hE hn hns h3 h2 h1 hm hp k3 k2 k1
 go_enter Tryz.func135,Tryz.ntmps135
 go_wp2_with (first
  | (go_at_call 27;(with_reducible refine Q.out.mono ?_);rintro en w2 ⟨rfl,hb2⟩;have hb3:=hb2.alloc hb2.size (.cells #[.int .i64 k,.int .i64 (p:Int),.string (S x)] 67);have hsz:w.heap.size+1≤w2.heap.size:=(by have:=hb2.size;simpa using this);have hne2:¬w2.heap.size=R:=(by omega);have hnw:¬w2.heap.size=w.heap.size:=(by omega);have HP2:=Lib.hid ((H.out.alloc _).below hb3);have HB2:=Lib.hid (HB0.out.below hb3);have HT2:=Lib.hid (BoxL.new w2 [.int .i64 k,.int .i64 (p:Int),.string (S x)] 67);have HK2:=Lib.hid (HA0.out.trans (Below.kp hb3 R z));have HZ2:=Lib.hid (show z.ownBlock≠some w2.heap.size from fun e=>by have:=(H.out.zlt _ e).2;omega);clear hb2 hb3)
  | (go_at_call 47;(with_reducible refine (QM.out _ HP2.out).mono ?_);rintro en w3 ⟨rfl,hb3⟩;have hsz3:w2.heap.size+1≤w3.heap.size:=(by have:=hb3.size;simpa using this);have HP3:=Lib.hid (HP2.out.below hb3);have HB3:=Lib.hid (HB2.out.below hb3);have HT3:=Lib.hid (HT2.out.below hb3);have HK3:=Lib.hid (HK2.out.trans (Below.kp hb3 R z));obtain ⟨t0,t1,t2,_⟩:=HT3.out.get3;clear hb3 QM)
  | (go_at_call 47;(with_reducible refine (QP.out _ HP3.out).mono ?_);rintro en w4 ⟨rfl,hb4⟩;have hsz4:w3.heap.size≤w4.heap.size:=hb4.size;have HP4:=Lib.hid (HP3.out.below hb4);have HB4:=Lib.hid (HB3.out.below hb4);have HT4:=Lib.hid (HT3.out.below hb4);have HK4:=Lib.hid (HK3.out.trans (Below.kp hb4 R z));clear t0 t1 t2;obtain ⟨t0,t1,t2,_⟩:=HT4.out.get3;clear hb4 QP)
  | (go_at_call 31;(with_reducible refine (QF.out _ HP4.out).mono ?_);rintro en w5 ⟨rfl,hk5,hp5⟩;have HP5:=Lib.hid hp5;obtain ⟨c0,c1,c2,c3,f0,f1,f2,f3⟩:=(HB4.out.kz hk5 hTR HZ0.out).get4;have HK5:=Lib.hid (HK4.out.trans hk5);clear hk5 hp5))
 refine bodyPost_ret (v:=.tuple #[.agg #[.int .i64 0,.int .i64 0,.string ⟨#[]⟩,.slice none 0 0],.bool false]) (by simp [results,Tryz.results135,go_sem,c0,c1,c2,c3]) rfl ?_
 obtain ⟨e1,e2⟩:=endz4 hR HK5.out HP5.out HZ0.out (.int .i64 0) (.int .i64 0) (.string ⟨#[]⟩) (.slice none 0 0)
 refine ⟨.mk 0 0 ⟨#[]⟩ none 0 [],false,rfl,.inr ⟨rfl,z,ns,i,(leftT l i).length,16,e1,by rw [off_here HI.out,HT.out];exact e2,by decide,?_⟩⟩
 rw [HC.out,opndS_none ex x _ _ ns K3.out K2.out K1.out (X1.out.trans X3.out) (X2.out.trans X4.out)]
set_option maxHeartbeats 4000000 in
set_option maxRecDepth 100000 in
theorem opndz_paren (hg:GoodT l) {n:Nat} {ex:Rd1 Tm} (hE:ExprZ R A c l n ex) (i:Nat) (z:Value) (ns:List (List UInt8)) (at_:Nat) (w:World) (h:Pr w R A c l i z ns at_ 0) (hn:(leftT l i).length≤n+1) (hns:ns.length+(leftT l i).length≤100000)
  (h3:(l.getD i default).1≠3) (h2:(l.getD i default).1≠2) (h1:(l.getD i default).1≠1) (hm:((l.getD i default).2.2==[45])=false) (hp:((l.getD i default).2.2==[40])=true) :
  Calls Tryz.prog 135 #[.pointer (some ⟨R,0,none⟩)] w (ElZ elTm Tm.val Tm.strip (opndS ex) R A c l i z ns w):=by
 have HG:=Lib.hid hg
 have HI:=Lib.hid h.ilt
 obtain ⟨t,ht⟩:∃t,l.getD i default=t:=⟨_,rfl⟩
 obtain ⟨k,p,x⟩:=t
 have HX:=Lib.hid (show x.length≤16384 by have:=hg.texts i h.ilt;rw [ht] at this;exact this)
 have HO:=Lib.hid (show p≤16384 by have:=hg.offs i h.ilt;rw [ht] at this;exact this)
 have HC:=Lib.hid (show leftT l i=(k,x,markT l i) :: leftT l (i+1) by rw [left_cons h.ilt,ht])
 have Q:=Lib.hid (r_tok_of (h.alloc (.cells #[.int .i64 0,.int .i64 0,.string ⟨#[]⟩,.slice none 0 0] 56)) ht)
 have H:=Lib.hid h
 have HT:=Lib.hid ht
 have hR:=h.lt
 have hTR:w.heap.size≠R:=by omega
 have HZ0:=Lib.hid h.znew
 have HB0:=Lib.hid (BoxL.new w [.int .i64 0,.int .i64 0,.string ⟨#[]⟩,.slice none 0 0] 56)
 have HA0:=Lib.hid (show Kp R z z w (w.alloc (.cells #[.int .i64 0,.int .i64 0,.string ⟨#[]⟩,.slice none 0 0] 56)) from (Kp.refl R z w).alloc _)
 have HNN:=Lib.hid (And.intro hn hns)
 have QE:=Lib.hid hE
 have k3:k≠3:=by rw [ht] at h3;exact h3
 have k2:k≠2:=by rw [ht] at h2;exact h2
 have k1:k≠1:=by rw [ht] at h1;exact h1
 have hk3:(k==3)=false:=by simpa using k3
 have hk2:(k==2)=false:=by simpa using k2
 have hk1:(k==1)=false:=by simpa using k1
 have K3:=Lib.hid k3
 have K2:=Lib.hid k2
 have K1:=Lib.hid k1
 have X1:=Lib.hid (show isS [45] ((k,x,markT l i) :: leftT l (i+1))=(x==[45]) by rw [←HC.out,isS_left hg h.ilt (by decide),ht])
 have X2:=Lib.hid (show isS [40] ((k,x,markT l i) :: leftT l (i+1))=(x==[40]) by rw [←HC.out,isS_left hg h.ilt (by decide),ht])
 rw [ht] at hm hp
 have QM:=Lib.hid (fun W (hW:Pr W R A c l i z ns at_ 0)=>z_is_at (b:=false) HG.out hW [45] (by decide) (by rw [HT.out];exact hm))
 have QP:=Lib.hid (fun W (hW:Pr W R A c l i z ns at_ 0)=>z_is_at (b:=true) HG.out hW [40] (by decide) (by rw [HT.out];exact hp))
 have X3:=Lib.hid (show (x==[45])=false from hm)
 have X4:=Lib.hid (show (x==[40])=true from hp)
 have hne:x≠[]:=fun e=>by
  have hp2:(x==[40])=true:=hp
  have h2:(([]:List UInt8)==[40])=true:=by rw [e] at hp2;exact hp2
  exact absurd h2 (by decide)
 have QN:=Lib.hid (fun W (hW:Pr W R A c l i z ns at_ 0)=>z_next_at HG.out hW (by rw [HT.out];exact hne))
 clear h ht hg hE hn hns h3 h2 h1 hm hp k3 k2 k1 hne
 go_enter Tryz.func135,Tryz.ntmps135
 go_wp2_with (first
  | (go_at_call 27;(with_reducible refine Q.out.mono ?_);rintro en w2 ⟨rfl,hb2⟩;have hb3:=hb2.alloc hb2.size (.cells #[.int .i64 k,.int .i64 (p:Int),.string (S x)] 67);have hsz:w.heap.size+1≤w2.heap.size:=(by have:=hb2.size;simpa using this);have hne2:¬w2.heap.size=R:=(by omega);have hnw:¬w2.heap.size=w.heap.size:=(by omega);have HP2:=Lib.hid ((H.out.alloc _).below hb3);have HB2:=Lib.hid (HB0.out.below hb3);have HT2:=Lib.hid (BoxL.new w2 [.int .i64 k,.int .i64 (p:Int),.string (S x)] 67);have HK2:=Lib.hid (HA0.out.trans (Below.kp hb3 R z));have HZ2:=Lib.hid (show z.ownBlock≠some w2.heap.size from fun e=>by have:=(H.out.zlt _ e).2;omega);clear hb2 hb3)
  | (go_at_call 47;(with_reducible refine (QM.out _ HP2.out).mono ?_);rintro en w3 ⟨rfl,hb3⟩;have hsz3:w2.heap.size+1≤w3.heap.size:=(by have:=hb3.size;simpa using this);have HP3:=Lib.hid (HP2.out.below hb3);have HB3:=Lib.hid (HB2.out.below hb3);have HT3:=Lib.hid (HT2.out.below hb3);have HK3:=Lib.hid (HK2.out.trans (Below.kp hb3 R z));obtain ⟨t0,t1,t2,_⟩:=HT3.out.get3;clear hb3 QM)
  | (go_at_call 47;(with_reducible refine (QP.out _ HP3.out).mono ?_);rintro en w4 ⟨rfl,hb4⟩;have hsz4:w3.heap.size≤w4.heap.size:=hb4.size;have HP4:=Lib.hid (HP3.out.below hb4);have HB4:=Lib.hid (HB3.out.below hb4);have HT4:=Lib.hid (HT3.out.below hb4);have HK4:=Lib.hid (HK3.out.trans (Below.kp hb4 R z));clear t0 t1 t2;obtain ⟨t0,t1,t2,_⟩:=HT4.out.get3;clear hb4 QP)
  | (go_at_call 48;(with_reducible refine (QN.out _ HP4.out).mono ?_);rintro en w5 ⟨rfl,hk5,hp5⟩;have HP5:=Lib.hid hp5;have hsz5:w4.heap.size≤w5.heap.size:=hk5.size;have HB5:=Lib.hid (HB4.out.kz hk5 hTR HZ0.out);have HK5:=Lib.hid (HK4.out.trans hk5);clear hk5 hp5))
 refine (QE.out (i+1) z ns at_ _ HP5.out (by have h1:=HNN.out.1;simp only [left_length] at h1 ⊢;omega) (by have h1:=HNN.out.2;simp only [left_length] at h1 ⊢;omega)).mono ?_
 rintro e w6 ⟨u,b,he,ho⟩
 have he2:e=.returned (.tuple #[.agg #[.int .i64 u.kind,.int .i64 u.num,.string u.name,.slice u.at_ u.args.length u.cap],.bool b]):=he
 clear he
 subst he2
 rcases ho with ⟨rfl,z6,ns6,j,a6,hk6,hp6,hf,hij,hl6,hs6⟩|⟨rfl,z6,ns6,j,m,e6,hk6,hp6,he6,hf⟩
 ·have HB6:=Lib.hid (HB5.out.kz hk6 hTR HZ0.out)
  have HZ6:=Lib.hid (hk6.off HB5.out.lt HZ0.out)
  have HK6:=Lib.hid ((HK5.out.trans hk6).alloc (.cells #[.int .i64 u.kind,.int .i64 u.num,.string u.name,.slice u.at_ u.args.length u.cap] 56))
  have HP6:=Lib.hid (hp6.alloc (.cells #[.int .i64 u.kind,.int .i64 u.num,.string u.name,.slice u.at_ u.args.length u.cap] 56))
  have HS6:=Lib.hid ((hs6.low (show w.heap.size+1≤w5.heap.size by omega)).alloc (.cells #[.int .i64 u.kind,.int .i64 u.num,.string u.name,.slice u.at_ u.args.length u.cap] 56))
  have HF:=Lib.hid (And.intro hf (And.intro hij hl6))
  have hzz:=HP6.out.zlt
  have hnz:z6.ownBlock≠some w6.heap.size:=fun e=>by have:=(hp6.zlt _ e).2;omega
  have HNZ:=Lib.hid hnz
  have HB7:=Lib.hid (HB6.out.alloc (.cells #[.int .i64 u.kind,.int .i64 u.num,.string u.name,.slice u.at_ u.args.length u.cap] 56))
  have HU7:=Lib.hid (BoxL.new w6 [.int .i64 u.kind,.int .i64 u.num,.string u.name,.slice u.at_ u.args.length u.cap] 56)
  obtain ⟨p0,p1,p2,p3,_,_,_,_⟩:=HU7.out.get4
  have hsz6:w5.heap.size≤w6.heap.size:=hk6.size
  have h6R:¬w6.heap.size=R:=by omega
  obtain ⟨b3,hb3⟩:∃b3,((l.getD j default).2.2==[41])=b3:=⟨_,rfl⟩
  have X5:=Lib.hid (isS_text HG.out hp6.ilt [41] (by decide) hb3)
  have QW:=Lib.hid (fun W (hW:Pr W R A c l j z6 ns6 a6 0)=>z_want_at HG.out hW [41] (by decide) hb3)
  clear hk6 hp6 hf hij hl6 hs6 hzz hnz hb3
  go_wp2_with fail
  go_region_with (go_at_call 50;refine (QW.out _ (by first|exact HP6.out|exact HP6.out.drew)).mono ?_;rintro en w7 ⟨rfl,hk7,ho7⟩;have hk8:Kp R z6 z6 (w6.alloc (.cells #[.int .i64 u.kind,.int .i64 u.num,.string u.name,.slice u.at_ u.args.length u.cap] 56)) w7:=(by first|exact hk7|exact ⟨hk7.os,hk7.tape,hk7.output,hk7.size,hk7.block,hk7.own⟩);have HK7:=Lib.hid (HK6.out.trans hk8);have HO7:=Lib.hid ho7;have HS7:=Lib.hid (HS6.out.kp hk8 (by omega));obtain ⟨c0,c1,c2,c3,f0,f1,f2,f3⟩:=(HB7.out.kz hk8 hTR HZ6.out).get4;obtain ⟨q0,q1,q2,q3,g0,g1,g2,g3⟩:=(HU7.out.kz hk8 h6R HNZ.out).get4;clear hk7 ho7 hk8)
  all_goals
   go_wp2_with fail
   refine bodyPost_ret (v:=.tuple #[.agg #[.int .i64 u.kind,.int .i64 u.num,.string u.name,.slice u.at_ u.args.length u.cap],.bool b3]) (by simp [results,Tryz.results135,go_sem,c0,c1,c2,c3]) rfl ?_
   refine ⟨u,b3,rfl,?_⟩
   rcases HO7.out with ⟨rfl,a7,hp7⟩|⟨rfl,hp7⟩
   ·obtain ⟨e1,e2⟩:=endz4 hR HK7.out hp7 HZ6.out (.int .i64 u.kind) (.int .i64 u.num) (.string u.name) (.slice u.at_ u.args.length u.cap)
    have hl:=HF.out.2.2
    have hS:=HS7.out.end4 (Nat.lt_succ_self _) (.int .i64 u.kind) (.int .i64 u.num) (.string u.name) (.slice u.at_ u.args.length u.cap)
    refine .inl ⟨rfl,z6,ns6,j+1,a7,(by first|exact e1|exact e1.drew),(by first|exact e2|exact e2.drew),?_,by have:=HF.out.2.1;omega,by simp only [left_length] at hl ⊢;omega,(by first|exact hS|exact ⟨hS.at_,hS.bd,hS.out⟩)⟩
    rw [HC.out,opndS_paren ex x _ _ ns K3.out K2.out K1.out (X1.out.trans X3.out) (X2.out.trans X4.out),HF.out.1]
    simp only [wantS,X5.out,if_true,left_tail]
   ·obtain ⟨e1,e2⟩:=endz4 hR HK7.out hp7 HZ6.out (.int .i64 u.kind) (.int .i64 u.num) (.string u.name) (.slice u.at_ u.args.length u.cap)
    refine .inr ⟨rfl,z6,ns6,j,(leftT l j).length,16,(by first|exact e1|exact e1.drew),(by first|exact e2|exact e2.drew),by decide,?_⟩
    rw [HC.out,opndS_paren ex x _ _ ns K3.out K2.out K1.out (X1.out.trans X3.out) (X2.out.trans X4.out),HF.out.1]
    simp only [wantS,X5.out]
    rfl
 ·have HB6:=Lib.hid (HB5.out.kz hk6 hTR HZ0.out)
  have HZ6:=Lib.hid (hk6.off HB5.out.lt HZ0.out)
  have HK6:=Lib.hid ((HK5.out.trans hk6).alloc (.cells #[.int .i64 u.kind,.int .i64 u.num,.string u.name,.slice u.at_ u.args.length u.cap] 56))
  have HP6:=Lib.hid (hp6.alloc (.cells #[.int .i64 u.kind,.int .i64 u.num,.string u.name,.slice u.at_ u.args.length u.cap] 56))
  have HF:=Lib.hid (And.intro hf he6)
  have HB7:=Lib.hid (HB6.out.alloc (.cells #[.int .i64 u.kind,.int .i64 u.num,.string u.name,.slice u.at_ u.args.length u.cap] 56))
  obtain ⟨c0,c1,c2,c3,f0,f1,f2,f3⟩:=HB7.out.get4
  obtain ⟨p0,p1,p2,p3,_,_,_,_⟩:=(BoxL.new w6 [.int .i64 u.kind,.int .i64 u.num,.string u.name,.slice u.at_ u.args.length u.cap] 56).get4
  clear hk6 hp6 hf he6
  go_wp2_with fail
  go_region
  go_wp2_with fail
  refine bodyPost_ret (v:=.tuple #[.agg #[.int .i64 u.kind,.int .i64 u.num,.string u.name,.slice u.at_ u.args.length u.cap],.bool false]) (by simp [results,Tryz.results135,go_sem,c0,c1,c2,c3]) rfl ?_
  obtain ⟨e1,e2⟩:=endz4 hR HK6.out HP6.out HZ6.out (.int .i64 u.kind) (.int .i64 u.num) (.string u.name) (.slice u.at_ u.args.length u.cap)
  refine ⟨u,false,rfl,.inr ⟨rfl,z6,ns6,j,m,e6,(by first|exact e1|exact e1.drew),(by first|exact e2|exact e2.drew),HF.out.2,?_⟩⟩
  rw [HC.out,opndS_paren ex x _ _ ns K3.out K2.out K1.out (X1.out.trans X3.out) (X2.out.trans X4.out),HF.out.1]
set_option maxHeartbeats 4000000 in
set_option maxRecDepth 100000 in
theorem opndz_minus (hg:GoodT l) {n:Nat} {ex:Rd1 Tm} (hE:ExprZ R A c l n ex) (i:Nat) (z:Value) (ns:List (List UInt8)) (at_:Nat) (w:World) (h:Pr w R A c l i z ns at_ 0) (hn:(leftT l i).length≤n+1) (hns:ns.length+(leftT l i).length≤100000)
  (h3:(l.getD i default).1≠3) (h2:(l.getD i default).1≠2) (h1:(l.getD i default).1≠1) (hm:((l.getD i default).2.2==[45])=true) (hc:(l.getD (i+1) default).1=3∧(l.getD (i+1) default).2.1=(l.getD i default).2.1+1) :
  Calls Tryz.prog 135 #[.pointer (some ⟨R,0,none⟩)] w (ElZ elTm Tm.val Tm.strip (opndS ex) R A c l i z ns w):=by
 have HG:=Lib.hid hg
 have HI:=Lib.hid h.ilt
 obtain ⟨t,ht⟩:∃t,l.getD i default=t:=⟨_,rfl⟩
 obtain ⟨k,p,x⟩:=t
 have HX:=Lib.hid (show x.length≤16384 by have:=hg.texts i h.ilt;rw [ht] at this;exact this)
 have HO:=Lib.hid (show p≤16384 by have:=hg.offs i h.ilt;rw [ht] at this;exact this)
 have HC:=Lib.hid (show leftT l i=(k,x,markT l i) :: leftT l (i+1) by rw [left_cons h.ilt,ht])
 have Q:=Lib.hid (r_tok_of (h.alloc (.cells #[.int .i64 0,.int .i64 0,.string ⟨#[]⟩,.slice none 0 0] 56)) ht)
 have H:=Lib.hid h
 have HT:=Lib.hid ht
 have hR:=h.lt
 have hTR:w.heap.size≠R:=by omega
 have HZ0:=Lib.hid h.znew
 have HB0:=Lib.hid (BoxL.new w [.int .i64 0,.int .i64 0,.string ⟨#[]⟩,.slice none 0 0] 56)
 have HA0:=Lib.hid (show Kp R z z w (w.alloc (.cells #[.int .i64 0,.int .i64 0,.string ⟨#[]⟩,.slice none 0 0] 56)) from (Kp.refl R z w).alloc _)
 have HNN:=Lib.hid (And.intro hn hns)
 have QE:=Lib.hid hE
 have k3:k≠3:=by rw [ht] at h3;exact h3
 have k2:k≠2:=by rw [ht] at h2;exact h2
 have k1:k≠1:=by rw [ht] at h1;exact h1
 have hk3:(k==3)=false:=by simpa using k3
 have hk2:(k==2)=false:=by simpa using k2
 have hk1:(k==1)=false:=by simpa using k1
 have K3:=Lib.hid k3
 have K2:=Lib.hid k2
 have K1:=Lib.hid k1
 have X1:=Lib.hid (show isS [45] ((k,x,markT l i) :: leftT l (i+1))=(x==[45]) by rw [←HC.out,isS_left hg h.ilt (by decide),ht])
 have X2:=Lib.hid (show isS [40] ((k,x,markT l i) :: leftT l (i+1))=(x==[40]) by rw [←HC.out,isS_left hg h.ilt (by decide),ht])
 rw [ht] at hm
 have QM:=Lib.hid (fun W (hW:Pr W R A c l i z ns at_ 0)=>z_is_at (b:=true) HG.out hW [45] (by decide) (by rw [HT.out];exact hm))
 have X3:=Lib.hid (show (x==[45])=true from hm)
 have hxe:x=[45]:=by simpa using hm
 have hne:x≠[]:=by rw [hxe];decide
 have hn1:i+1 < l.length:=good_next hg h.ilt (by rw [ht];exact hne)
 have HN1:=Lib.hid hn1
 have QN:=Lib.hid (fun W (hW:Pr W R A c l i z ns at_ 0)=>z_next_at HG.out hW (by rw [HT.out];exact hne))
 obtain ⟨t',ht'⟩:∃t,l.getD (i+1) default=t:=⟨_,rfl⟩
 obtain ⟨k',p',x'⟩:=t'
 have HT':=Lib.hid ht'
 have QT:=Lib.hid (fun W (hW:Pr W R A c l (i+1) z ns at_ 0)=>r_tok_of hW ht')
 have HO':=Lib.hid (show p'≤16384 by have:=hg.offs (i+1) hn1;rw [ht'] at this;exact this)
 have hp1:(p:Int)+1≤9223372036854775807:=by have:=HO.out;omega
 have HPl:=Lib.hid (show opndS ex (leftT l i) ns=if k'=3∧p'=p+1 then .ok (intS (-valD x')) (leftT l (i+2)) ns else .err (leftT l (i+1)).length 16 by
  have hmk:markT l (i+1)=(k'==3&&p'==p+1):=by
   rw [markT,ht,ht',hxe];rfl
  have h2:leftT l (i+1)=(k',x',markT l (i+1)) :: leftT l (i+2):=by rw [left_cons hn1,ht']
  have hX:=X1.out.trans X3.out
  rw [h2] at hX
  rw [HC.out,h2,opndS_minus ex x _ k' x' _ _ ns k3 k2 k1 hX,hmk]
  by_cases hc:k'=3∧p'=p+1
  ·rw [if_pos hc,if_pos ⟨hc.1,by simp [hc.1,hc.2]⟩]
  ·rw [if_neg hc,if_neg (fun e=>hc (by simpa using e.2))])
 have hf:=num_facts hg hn1 hc.1
 rw [ht',ht] at hc
 have hc1:k'=3:=hc.1
 have hc2:p'=p+1:=hc.2
 subst hc1
 have hk4:((p':Int) != (p:Int)+1)=false:=by rw [hc2];simp
 have hk5:((p':Int)==(p:Int)+1)=true:=by rw [hc2];simp
 have HC3:=Lib.hid (show ((3:Int)=3∧p'=p+1) from ⟨rfl,hc2⟩)
 rw [ht'] at hf
 obtain ⟨hfn,hd,hv⟩:=hf
 have hfn:x'≠[]:=hfn
 have hd:∀c∈x',digB c=true:=hd
 have hv:valD x'≤2147483648:=hv
 have hv0:=val_ge hfn hd hv
 have HX':=Lib.hid (show x'.length≤16384 by have:=hg.texts (i+1) hn1;rw [ht'] at this;exact this)
 have QN2:=Lib.hid (fun W (hW:Pr W R A c l (i+1) z ns at_ 0)=>z_next_at HG.out hW (by rw [HT'.out];exact hfn))
 have HW:IntKind.i64.wrap (-valD x') = -valD x':=IntWalk.i64_in _ (by omega)
 have HV:=Lib.hid (And.intro hv0 hv)
 have QV:=Lib.hid (fun W=>r_value_at (S x') W (by have:=HX'.out;show x'.toArray.size≤_;simp;omega) (digs_of hd) (r:=valD x') rfl hv)
 clear hfn hd hv hv0 hc2
 generalize hvx:valD x'=vx at *
 clear h ht ht' hg hE hn hns h3 h2 h1 hm k3 k2 k1 hne hn1 hc hxe
 go_enter Tryz.func135,Tryz.ntmps135
 go_wp2_with (first
  | (go_at_call 27;(with_reducible refine Q.out.mono ?_);rintro en w2 ⟨rfl,hb2⟩;have hb3:=hb2.alloc hb2.size (.cells #[.int .i64 k,.int .i64 (p:Int),.string (S x)] 67);have hsz:w.heap.size+1≤w2.heap.size:=(by have:=hb2.size;simpa using this);have hne2:¬w2.heap.size=R:=(by omega);have hnw:¬w2.heap.size=w.heap.size:=(by omega);have HP2:=Lib.hid ((H.out.alloc _).below hb3);have HB2:=Lib.hid (HB0.out.below hb3);have HT2:=Lib.hid (BoxL.new w2 [.int .i64 k,.int .i64 (p:Int),.string (S x)] 67);have HK2:=Lib.hid (HA0.out.trans (Below.kp hb3 R z));have HZ2:=Lib.hid (show z.ownBlock≠some w2.heap.size from fun e=>by have:=(H.out.zlt _ e).2;omega);clear hb2 hb3)
  | (go_at_call 47;(with_reducible refine (QM.out _ HP2.out).mono ?_);rintro en w3 ⟨rfl,hb3⟩;have hsz3:w2.heap.size+1≤w3.heap.size:=(by have:=hb3.size;simpa using this);have HP3:=Lib.hid (HP2.out.below hb3);have HB3:=Lib.hid (HB2.out.below hb3);have HT3:=Lib.hid (HT2.out.below hb3);have HK3:=Lib.hid (HK2.out.trans (Below.kp hb3 R z));obtain ⟨t0,t1,t2,_⟩:=HT3.out.get3;clear hb3 QM)
  | (go_at_call 48;(with_reducible refine (QN.out _ HP3.out).mono ?_);rintro en w4 ⟨rfl,hk4,hp4⟩;have HP4:=Lib.hid hp4;have hsz4:w3.heap.size≤w4.heap.size:=hk4.size;have HB4:=Lib.hid (HB3.out.kz hk4 hTR HZ0.out);have HT4:=Lib.hid (HT3.out.kz hk4 hne2 HZ2.out);have HK4:=Lib.hid (HK3.out.trans hk4);clear hk4 hp4 QN)
  | (go_at_call 27;(with_reducible refine (QT.out _ HP4.out).mono ?_);rintro en w5 ⟨rfl,hb5⟩;have hsz5:w4.heap.size≤w5.heap.size:=hb5.size;have hb6:=hb5.alloc hb5.size (.cells #[.int .i64 3,.int .i64 (p':Int),.string (S x')] 67);have HP5:=Lib.hid (HP4.out.below hb6);have HB5:=Lib.hid (HB4.out.below hb6);have HT5:=Lib.hid (HT4.out.below hb6);have HU5:=Lib.hid (BoxL.new w5 [.int .i64 3,.int .i64 (p':Int),.string (S x')] 67);have HK5:=Lib.hid (HK4.out.trans (Below.kp hb6 R z));clear t0 t1 t2;obtain ⟨t0,t1,t2,_⟩:=HT5.out.get3;have HZ5:=Lib.hid (show z.ownBlock≠some w5.heap.size from fun e=>by have:=(HP4.out.zlt _ e).2;omega);have hne5:¬w5.heap.size=R:=(by omega);clear hb5 hb6 QT)
  | (go_at_call 48;(with_reducible refine (QN2.out _ HP5.out).mono ?_);rintro en w7 ⟨rfl,hk7,hp7⟩;have HP7:=Lib.hid hp7;obtain ⟨c0,c1,c2,c3,f0,f1,f2,f3⟩:=(HB5.out.kz hk7 hTR HZ0.out).get4;obtain ⟨u0,u1,u2,_⟩:=(HU5.out.kz hk7 hne5 HZ5.out).get3;have HK7:=Lib.hid (HK5.out.trans hk7);clear hk7 hp7)
  | (go_at_call 51;(with_reducible refine (QV.out _).mono ?_);rintro en w8 ⟨rfl,rfl⟩))
 refine bodyPost_ret (v:=.tuple #[.agg #[.int .i64 0,.int .i64 (-vx),.string ⟨#[]⟩,.slice none 0 0],.bool true]) (by simp [results,Tryz.results135,go_sem,c0,c1,c2,c3]) rfl ?_
 obtain ⟨e1,e2⟩:=endz4 hR HK7.out HP7.out HZ0.out (.int .i64 0) (.int .i64 (-vx)) (.string ⟨#[]⟩) (.slice none 0 0)
 refine ⟨.mk 0 (-vx) ⟨#[]⟩ none 0 [],true,rfl,.inl ⟨rfl,z,ns,i+2,at_,e1,e2,?_,by omega,by simp only [left_length];omega,sitz_plain _ _ _ (by unfold Fits;omega) (by have:=HV.out;unfold Fits;omega)⟩⟩
 rw [HPl.out,if_pos (by first|exact HC3.out|exact ⟨rfl,HC3.out.2⟩|simpa using HC3.out)]
 rfl
set_option maxHeartbeats 4000000 in
set_option maxRecDepth 100000 in
theorem opndz_min1 (hg:GoodT l) {n:Nat} {ex:Rd1 Tm} (hE:ExprZ R A c l n ex) (i:Nat) (z:Value) (ns:List (List UInt8)) (at_:Nat) (w:World) (h:Pr w R A c l i z ns at_ 0) (hn:(leftT l i).length≤n+1) (hns:ns.length+(leftT l i).length≤100000)
  (h3:(l.getD i default).1≠3) (h2:(l.getD i default).1≠2) (h1:(l.getD i default).1≠1) (hm:((l.getD i default).2.2==[45])=true) (hc:(l.getD (i+1) default).1≠3) :
  Calls Tryz.prog 135 #[.pointer (some ⟨R,0,none⟩)] w (ElZ elTm Tm.val Tm.strip (opndS ex) R A c l i z ns w):=by
 have HG:=Lib.hid hg
 have HI:=Lib.hid h.ilt
 obtain ⟨t,ht⟩:∃t,l.getD i default=t:=⟨_,rfl⟩
 obtain ⟨k,p,x⟩:=t
 have HX:=Lib.hid (show x.length≤16384 by have:=hg.texts i h.ilt;rw [ht] at this;exact this)
 have HO:=Lib.hid (show p≤16384 by have:=hg.offs i h.ilt;rw [ht] at this;exact this)
 have HC:=Lib.hid (show leftT l i=(k,x,markT l i) :: leftT l (i+1) by rw [left_cons h.ilt,ht])
 have Q:=Lib.hid (r_tok_of (h.alloc (.cells #[.int .i64 0,.int .i64 0,.string ⟨#[]⟩,.slice none 0 0] 56)) ht)
 have H:=Lib.hid h
 have HT:=Lib.hid ht
 have hR:=h.lt
 have hTR:w.heap.size≠R:=by omega
 have HZ0:=Lib.hid h.znew
 have HB0:=Lib.hid (BoxL.new w [.int .i64 0,.int .i64 0,.string ⟨#[]⟩,.slice none 0 0] 56)
 have HA0:=Lib.hid (show Kp R z z w (w.alloc (.cells #[.int .i64 0,.int .i64 0,.string ⟨#[]⟩,.slice none 0 0] 56)) from (Kp.refl R z w).alloc _)
 have HNN:=Lib.hid (And.intro hn hns)
 have QE:=Lib.hid hE
 have k3:k≠3:=by rw [ht] at h3;exact h3
 have k2:k≠2:=by rw [ht] at h2;exact h2
 have k1:k≠1:=by rw [ht] at h1;exact h1
 have hk3:(k==3)=false:=by simpa using k3
 have hk2:(k==2)=false:=by simpa using k2
 have hk1:(k==1)=false:=by simpa using k1
 have K3:=Lib.hid k3
 have K2:=Lib.hid k2
 have K1:=Lib.hid k1
 have X1:=Lib.hid (show isS [45] ((k,x,markT l i) :: leftT l (i+1))=(x==[45]) by rw [←HC.out,isS_left hg h.ilt (by decide),ht])
 have X2:=Lib.hid (show isS [40] ((k,x,markT l i) :: leftT l (i+1))=(x==[40]) by rw [←HC.out,isS_left hg h.ilt (by decide),ht])
 rw [ht] at hm
 have QM:=Lib.hid (fun W (hW:Pr W R A c l i z ns at_ 0)=>z_is_at (b:=true) HG.out hW [45] (by decide) (by rw [HT.out];exact hm))
 have X3:=Lib.hid (show (x==[45])=true from hm)
 have hxe:x=[45]:=by simpa using hm
 have hne:x≠[]:=by rw [hxe];decide
 have hn1:i+1 < l.length:=good_next hg h.ilt (by rw [ht];exact hne)
 have HN1:=Lib.hid hn1
 have QN:=Lib.hid (fun W (hW:Pr W R A c l i z ns at_ 0)=>z_next_at HG.out hW (by rw [HT.out];exact hne))
 obtain ⟨t',ht'⟩:∃t,l.getD (i+1) default=t:=⟨_,rfl⟩
 obtain ⟨k',p',x'⟩:=t'
 have HT':=Lib.hid ht'
 have QT:=Lib.hid (fun W (hW:Pr W R A c l (i+1) z ns at_ 0)=>r_tok_of hW ht')
 have HO':=Lib.hid (show p'≤16384 by have:=hg.offs (i+1) hn1;rw [ht'] at this;exact this)
 have hp1:(p:Int)+1≤9223372036854775807:=by have:=HO.out;omega
 have HPl:=Lib.hid (show opndS ex (leftT l i) ns=if k'=3∧p'=p+1 then .ok (intS (-valD x')) (leftT l (i+2)) ns else .err (leftT l (i+1)).length 16 by
  have hmk:markT l (i+1)=(k'==3&&p'==p+1):=by
   rw [markT,ht,ht',hxe];rfl
  have h2:leftT l (i+1)=(k',x',markT l (i+1)) :: leftT l (i+2):=by rw [left_cons hn1,ht']
  have hX:=X1.out.trans X3.out
  rw [h2] at hX
  rw [HC.out,h2,opndS_minus ex x _ k' x' _ _ ns k3 k2 k1 hX,hmk]
  by_cases hc:k'=3∧p'=p+1
  ·rw [if_pos hc,if_pos ⟨hc.1,by simp [hc.1,hc.2]⟩]
  ·rw [if_neg hc,if_neg (fun e=>hc (by simpa using e.2))])
 have hc1:k'≠3:=by rw [ht'] at hc;exact hc
 have hk4:(k' != 3)=true:=by simpa using hc1
 have hk5:(k'==3)=false:=by simpa using hc1
 have HC3:=Lib.hid (show ¬(k'=3∧p'=p+1) from fun h=>hc1 h.1)
 clear hc1
 have QF:=Lib.hid (fun W (hW:Pr W R A c l (i+1) z ns at_ 0)=>r_fail_at hW p' 16)
 clear h ht ht' hg hE hn hns h3 h2 h1 hm k3 k2 k1 hne hn1 hc hxe
 go_enter Tryz.func135,Tryz.ntmps135
 go_wp2_with (first
  | (go_at_call 27;(with_reducible refine Q.out.mono ?_);rintro en w2 ⟨rfl,hb2⟩;have hb3:=hb2.alloc hb2.size (.cells #[.int .i64 k,.int .i64 (p:Int),.string (S x)] 67);have hsz:w.heap.size+1≤w2.heap.size:=(by have:=hb2.size;simpa using this);have hne2:¬w2.heap.size=R:=(by omega);have hnw:¬w2.heap.size=w.heap.size:=(by omega);have HP2:=Lib.hid ((H.out.alloc _).below hb3);have HB2:=Lib.hid (HB0.out.below hb3);have HT2:=Lib.hid (BoxL.new w2 [.int .i64 k,.int .i64 (p:Int),.string (S x)] 67);have HK2:=Lib.hid (HA0.out.trans (Below.kp hb3 R z));have HZ2:=Lib.hid (show z.ownBlock≠some w2.heap.size from fun e=>by have:=(H.out.zlt _ e).2;omega);clear hb2 hb3)
  | (go_at_call 47;(with_reducible refine (QM.out _ HP2.out).mono ?_);rintro en w3 ⟨rfl,hb3⟩;have hsz3:w2.heap.size+1≤w3.heap.size:=(by have:=hb3.size;simpa using this);have HP3:=Lib.hid (HP2.out.below hb3);have HB3:=Lib.hid (HB2.out.below hb3);have HT3:=Lib.hid (HT2.out.below hb3);have HK3:=Lib.hid (HK2.out.trans (Below.kp hb3 R z));obtain ⟨t0,t1,t2,_⟩:=HT3.out.get3;clear hb3 QM)
  | (go_at_call 48;(with_reducible refine (QN.out _ HP3.out).mono ?_);rintro en w4 ⟨rfl,hk4,hp4⟩;have HP4:=Lib.hid hp4;have hsz4:w3.heap.size≤w4.heap.size:=hk4.size;have HB4:=Lib.hid (HB3.out.kz hk4 hTR HZ0.out);have HT4:=Lib.hid (HT3.out.kz hk4 hne2 HZ2.out);have HK4:=Lib.hid (HK3.out.trans hk4);clear hk4 hp4 QN)
  | (go_at_call 27;(with_reducible refine (QT.out _ HP4.out).mono ?_);rintro en w5 ⟨rfl,hb5⟩;have hsz5:w4.heap.size≤w5.heap.size:=hb5.size;have hb6:=hb5.alloc hb5.size (.cells #[.int .i64 k',.int .i64 (p':Int),.string (S x')] 67);have HP5:=Lib.hid (HP4.out.below hb6);have HB5:=Lib.hid (HB4.out.below hb6);have HT5:=Lib.hid (HT4.out.below hb6);have HU5:=Lib.hid (BoxL.new w5 [.int .i64 k',.int .i64 (p':Int),.string (S x')] 67);have HK5:=Lib.hid (HK4.out.trans (Below.kp hb6 R z));clear t0 t1 t2;obtain ⟨t0,t1,t2,_⟩:=HT5.out.get3;have HZ5:=Lib.hid (show z.ownBlock≠some w5.heap.size from fun e=>by have:=(HP4.out.zlt _ e).2;omega);have hne5:¬w5.heap.size=R:=(by omega);clear hb5 hb6 QT)
  | (go_at_call 31;(with_reducible refine (QF.out _ HP5.out).mono ?_);rintro en w7 ⟨rfl,hk7,hp7⟩;have HP7:=Lib.hid hp7;obtain ⟨c0,c1,c2,c3,f0,f1,f2,f3⟩:=(HB5.out.kz hk7 hTR HZ0.out).get4;have HK7:=Lib.hid (HK5.out.trans hk7);clear hk7 hp7))
 refine bodyPost_ret (v:=.tuple #[.agg #[.int .i64 0,.int .i64 0,.string ⟨#[]⟩,.slice none 0 0],.bool false]) (by simp [results,Tryz.results135,go_sem,c0,c1,c2,c3]) rfl ?_
 obtain ⟨e1,e2⟩:=endz4 hR HK7.out HP7.out HZ0.out (.int .i64 0) (.int .i64 0) (.string ⟨#[]⟩) (.slice none 0 0)
 refine ⟨.mk 0 0 ⟨#[]⟩ none 0 [],false,rfl,.inr ⟨rfl,z,ns,i+1,(leftT l (i+1)).length,16,e1,by rw [off_here HN1.out,HT'.out];exact e2,by decide,?_⟩⟩
 rw [HPl.out,if_neg (by first|exact HC3.out|simpa using HC3.out)]
set_option maxHeartbeats 4000000 in
set_option maxRecDepth 100000 in
theorem opndz_min2 (hg:GoodT l) {n:Nat} {ex:Rd1 Tm} (hE:ExprZ R A c l n ex) (i:Nat) (z:Value) (ns:List (List UInt8)) (at_:Nat) (w:World) (h:Pr w R A c l i z ns at_ 0) (hn:(leftT l i).length≤n+1) (hns:ns.length+(leftT l i).length≤100000)
  (h3:(l.getD i default).1≠3) (h2:(l.getD i default).1≠2) (h1:(l.getD i default).1≠1) (hm:((l.getD i default).2.2==[45])=true) (hc:(l.getD (i+1) default).1=3∧(l.getD (i+1) default).2.1≠(l.getD i default).2.1+1) :
  Calls Tryz.prog 135 #[.pointer (some ⟨R,0,none⟩)] w (ElZ elTm Tm.val Tm.strip (opndS ex) R A c l i z ns w):=by
 have HG:=Lib.hid hg
 have HI:=Lib.hid h.ilt
 obtain ⟨t,ht⟩:∃t,l.getD i default=t:=⟨_,rfl⟩
 obtain ⟨k,p,x⟩:=t
 have HX:=Lib.hid (show x.length≤16384 by have:=hg.texts i h.ilt;rw [ht] at this;exact this)
 have HO:=Lib.hid (show p≤16384 by have:=hg.offs i h.ilt;rw [ht] at this;exact this)
 have HC:=Lib.hid (show leftT l i=(k,x,markT l i) :: leftT l (i+1) by rw [left_cons h.ilt,ht])
 have Q:=Lib.hid (r_tok_of (h.alloc (.cells #[.int .i64 0,.int .i64 0,.string ⟨#[]⟩,.slice none 0 0] 56)) ht)
 have H:=Lib.hid h
 have HT:=Lib.hid ht
 have hR:=h.lt
 have hTR:w.heap.size≠R:=by omega
 have HZ0:=Lib.hid h.znew
 have HB0:=Lib.hid (BoxL.new w [.int .i64 0,.int .i64 0,.string ⟨#[]⟩,.slice none 0 0] 56)
 have HA0:=Lib.hid (show Kp R z z w (w.alloc (.cells #[.int .i64 0,.int .i64 0,.string ⟨#[]⟩,.slice none 0 0] 56)) from (Kp.refl R z w).alloc _)
 have HNN:=Lib.hid (And.intro hn hns)
 have QE:=Lib.hid hE
 have k3:k≠3:=by rw [ht] at h3;exact h3
 have k2:k≠2:=by rw [ht] at h2;exact h2
 have k1:k≠1:=by rw [ht] at h1;exact h1
 have hk3:(k==3)=false:=by simpa using k3
 have hk2:(k==2)=false:=by simpa using k2
 have hk1:(k==1)=false:=by simpa using k1
 have K3:=Lib.hid k3
 have K2:=Lib.hid k2
 have K1:=Lib.hid k1
 have X1:=Lib.hid (show isS [45] ((k,x,markT l i) :: leftT l (i+1))=(x==[45]) by rw [←HC.out,isS_left hg h.ilt (by decide),ht])
 have X2:=Lib.hid (show isS [40] ((k,x,markT l i) :: leftT l (i+1))=(x==[40]) by rw [←HC.out,isS_left hg h.ilt (by decide),ht])
 rw [ht] at hm
 have QM:=Lib.hid (fun W (hW:Pr W R A c l i z ns at_ 0)=>z_is_at (b:=true) HG.out hW [45] (by decide) (by rw [HT.out];exact hm))
 have X3:=Lib.hid (show (x==[45])=true from hm)
 have hxe:x=[45]:=by simpa using hm
 have hne:x≠[]:=by rw [hxe];decide
 have hn1:i+1 < l.length:=good_next hg h.ilt (by rw [ht];exact hne)
 have HN1:=Lib.hid hn1
 have QN:=Lib.hid (fun W (hW:Pr W R A c l i z ns at_ 0)=>z_next_at HG.out hW (by rw [HT.out];exact hne))
 obtain ⟨t',ht'⟩:∃t,l.getD (i+1) default=t:=⟨_,rfl⟩
 obtain ⟨k',p',x'⟩:=t'
 have HT':=Lib.hid ht'
 have QT:=Lib.hid (fun W (hW:Pr W R A c l (i+1) z ns at_ 0)=>r_tok_of hW ht')
 have HO':=Lib.hid (show p'≤16384 by have:=hg.offs (i+1) hn1;rw [ht'] at this;exact this)
 have hp1:(p:Int)+1≤9223372036854775807:=by have:=HO.out;omega
 have HPl:=Lib.hid (show opndS ex (leftT l i) ns=if k'=3∧p'=p+1 then .ok (intS (-valD x')) (leftT l (i+2)) ns else .err (leftT l (i+1)).length 16 by
  have hmk:markT l (i+1)=(k'==3&&p'==p+1):=by
   rw [markT,ht,ht',hxe];rfl
  have h2:leftT l (i+1)=(k',x',markT l (i+1)) :: leftT l (i+2):=by rw [left_cons hn1,ht']
  have hX:=X1.out.trans X3.out
  rw [h2] at hX
  rw [HC.out,h2,opndS_minus ex x _ k' x' _ _ ns k3 k2 k1 hX,hmk]
  by_cases hc:k'=3∧p'=p+1
  ·rw [if_pos hc,if_pos ⟨hc.1,by simp [hc.1,hc.2]⟩]
  ·rw [if_neg hc,if_neg (fun e=>hc (by simpa using e.2))])
 rw [ht',ht] at hc
 have hc1:k'=3:=hc.1
 have hc2:p'≠p+1:=hc.2
 subst hc1
 have hk4:((p':Int) != (p:Int)+1)=true:=by simp;omega
 have hk5:((p':Int)==(p:Int)+1)=false:=by simp;omega
 have HC3:=Lib.hid (show ¬((3:Int)=3∧p'=p+1) from fun h=>hc2 h.2)
 clear hc2
 have QF:=Lib.hid (fun W (hW:Pr W R A c l (i+1) z ns at_ 0)=>r_fail_at hW p' 16)
 clear h ht ht' hg hE hn hns h3 h2 h1 hm k3 k2 k1 hne hn1 hc hxe
 go_enter Tryz.func135,Tryz.ntmps135
 go_wp2_with (first
  | (go_at_call 27;(with_reducible refine Q.out.mono ?_);rintro en w2 ⟨rfl,hb2⟩;have hb3:=hb2.alloc hb2.size (.cells #[.int .i64 k,.int .i64 (p:Int),.string (S x)] 67);have hsz:w.heap.size+1≤w2.heap.size:=(by have:=hb2.size;simpa using this);have hne2:¬w2.heap.size=R:=(by omega);have hnw:¬w2.heap.size=w.heap.size:=(by omega);have HP2:=Lib.hid ((H.out.alloc _).below hb3);have HB2:=Lib.hid (HB0.out.below hb3);have HT2:=Lib.hid (BoxL.new w2 [.int .i64 k,.int .i64 (p:Int),.string (S x)] 67);have HK2:=Lib.hid (HA0.out.trans (Below.kp hb3 R z));have HZ2:=Lib.hid (show z.ownBlock≠some w2.heap.size from fun e=>by have:=(H.out.zlt _ e).2;omega);clear hb2 hb3)
  | (go_at_call 47;(with_reducible refine (QM.out _ HP2.out).mono ?_);rintro en w3 ⟨rfl,hb3⟩;have hsz3:w2.heap.size+1≤w3.heap.size:=(by have:=hb3.size;simpa using this);have HP3:=Lib.hid (HP2.out.below hb3);have HB3:=Lib.hid (HB2.out.below hb3);have HT3:=Lib.hid (HT2.out.below hb3);have HK3:=Lib.hid (HK2.out.trans (Below.kp hb3 R z));obtain ⟨t0,t1,t2,_⟩:=HT3.out.get3;clear hb3 QM)
  | (go_at_call 48;(with_reducible refine (QN.out _ HP3.out).mono ?_);rintro en w4 ⟨rfl,hk4,hp4⟩;have HP4:=Lib.hid hp4;have hsz4:w3.heap.size≤w4.heap.size:=hk4.size;have HB4:=Lib.hid (HB3.out.kz hk4 hTR HZ0.out);have HT4:=Lib.hid (HT3.out.kz hk4 hne2 HZ2.out);have HK4:=Lib.hid (HK3.out.trans hk4);clear hk4 hp4 QN)
  | (go_at_call 27;(with_reducible refine (QT.out _ HP4.out).mono ?_);rintro en w5 ⟨rfl,hb5⟩;have hsz5:w4.heap.size≤w5.heap.size:=hb5.size;have hb6:=hb5.alloc hb5.size (.cells #[.int .i64 3,.int .i64 (p':Int),.string (S x')] 67);have HP5:=Lib.hid (HP4.out.below hb6);have HB5:=Lib.hid (HB4.out.below hb6);have HT5:=Lib.hid (HT4.out.below hb6);have HU5:=Lib.hid (BoxL.new w5 [.int .i64 3,.int .i64 (p':Int),.string (S x')] 67);have HK5:=Lib.hid (HK4.out.trans (Below.kp hb6 R z));clear t0 t1 t2;obtain ⟨t0,t1,t2,_⟩:=HT5.out.get3;have HZ5:=Lib.hid (show z.ownBlock≠some w5.heap.size from fun e=>by have:=(HP4.out.zlt _ e).2;omega);have hne5:¬w5.heap.size=R:=(by omega);clear hb5 hb6 QT)
  | (go_at_call 31;(with_reducible refine (QF.out _ HP5.out).mono ?_);rintro en w7 ⟨rfl,hk7,hp7⟩;have HP7:=Lib.hid hp7;obtain ⟨c0,c1,c2,c3,f0,f1,f2,f3⟩:=(HB5.out.kz hk7 hTR HZ0.out).get4;have HK7:=Lib.hid (HK5.out.trans hk7);clear hk7 hp7))
 refine bodyPost_ret (v:=.tuple #[.agg #[.int .i64 0,.int .i64 0,.string ⟨#[]⟩,.slice none 0 0],.bool false]) (by simp [results,Tryz.results135,go_sem,c0,c1,c2,c3]) rfl ?_
 obtain ⟨e1,e2⟩:=endz4 hR HK7.out HP7.out HZ0.out (.int .i64 0) (.int .i64 0) (.string ⟨#[]⟩) (.slice none 0 0)
 refine ⟨.mk 0 0 ⟨#[]⟩ none 0 [],false,rfl,.inr ⟨rfl,z,ns,i+1,(leftT l (i+1)).length,16,e1,by rw [off_here HN1.out,HT'.out];exact e2,by decide,?_⟩⟩
 rw [HPl.out,if_neg (by first|exact HC3.out|simpa using HC3.out)]
theorem opnd_z (hg:GoodT l) {n:Nat} {ex:Rd1 Tm} (hE:ExprZ R A c l n ex) (i:Nat) (z:Value) (ns:List (List UInt8)) (at_:Nat) (w:World) (h:Pr w R A c l i z ns at_ 0) (hn:(leftT l i).length≤n+1) (hns:ns.length+(leftT l i).length≤100000) :
  Calls Tryz.prog 135 #[.pointer (some ⟨R,0,none⟩)] w (ElZ elTm Tm.val Tm.strip (opndS ex) R A c l i z ns w):=by
 by_cases h3:(l.getD i default).1=3
 ·exact opndz_int hg hE i z ns at_ w h hn hns h3
 by_cases h2:(l.getD i default).1=2
 ·exact opndz_var hg hE i z ns at_ w h hn hns h2
 by_cases h1:(l.getD i default).1=1
 ·exact opndz_name hg hE i z ns at_ w h hn hns h1
 cases hm:((l.getD i default).2.2==[45])
 ·cases hp:((l.getD i default).2.2==[40])
  ·exact opndz_none hg hE i z ns at_ w h hn hns h3 h2 h1 hm hp
  ·exact opndz_paren hg hE i z ns at_ w h hn hns h3 h2 h1 hm hp
 ·by_cases c1:(l.getD (i+1) default).1=3
  ·by_cases c2:(l.getD (i+1) default).2.1=(l.getD i default).2.1+1
   ·exact opndz_minus hg hE i z ns at_ w h hn hns h3 h2 h1 hm ⟨c1,c2⟩
   ·exact opndz_min2 hg hE i z ns at_ w h hn hns h3 h2 h1 hm ⟨c1,c2⟩
  ·exact opndz_min1 hg hE i z ns at_ w h hn hns h3 h2 h1 hm c1
end
end Go.Proofs.YtaojnljppcnhjaaGreatDoor
