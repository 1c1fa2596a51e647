/-
  SiPlain.
  NmBytes.
  NmWord.
 NmRefWord.
 NmTables.
 NmKinds.
 TmRight.
-/
import Derived.Test.YtaojnljppcnhjaaGreatDoorMh4
import Derived.Test.YtaojnljppcnhjaaGreatDoorProg
import Derived.Test.YtaojnljppcnhjaaGreatDoorMh1
import Derived.WalkKit
import Derived.Below
import Derived.Lib.Hide
import Derived.Outline
import Derived.WalkLawsBesides
import Derived.Deep.RegionHeld3
namespace Go.Proofs.YtaojnljppcnhjaaGreatDoor
open Go
section
variable (K:Nat→Bool) (X:Nat→List UInt8) (a:Nat)
def nsU:Nat→List (List UInt8)
 | 0=>[]
 | i+1=>if a≤i∧K i=true then (nameS (X i) (nsU i)).2 else nsU i
def gU (v:Int):Int:=((nameS (X v.toNat) (nsU K X a v.toNat)).1:Int)
end
section
variable {K:Nat→Bool} {X:Nat→List UInt8} {a:Nat}
theorem nsU_start:∀{i:Nat},i≤a→nsU K X a i=[]
 | 0,_=>rfl
 | i+1,h=>by rw [nsU,if_neg (by omega)];exact nsU_start (by omega)
theorem nsU_var {i:Nat} (h:a≤i) (hk:K i=true):nsU K X a (i+1)=(nameS (X i) (nsU K X a i)).2:=by rw [nsU,if_pos ⟨h,hk⟩]
theorem nsU_no {i:Nat} (hk:K i=false):nsU K X a (i+1)=nsU K X a i:=by rw [nsU,if_neg (by rw [hk];simp)]
theorem nsU_le:∀{i j:Nat},i≤j→nsU K X a i <+: nsU K X a j
 | i,0,h=>by rw [Nat.le_zero.1 h];exact List.prefix_refl _
 | i,j+1,h=>by
  rcases Nat.lt_or_ge i (j+1) with h1|h1
  ·refine (nsU_le (i:=i) (j:=j) (by omega)).trans ?_
   rw [nsU]
   split
   ·exact (name_facts _ _).1
   ·exact List.prefix_refl _
  ·rw [show i=j+1 by omega];exact List.prefix_refl _
theorem prefix_getD {l m:List (List UInt8)} (h:l <+: m) {k:Nat} (hk:k < l.length):m.getD k []=l.getD k []:=by
 obtain ⟨z,rfl⟩:=h
 simp [List.getD_eq_getElem?_getD,List.getElem?_append_left hk]
theorem nameS_getD (t:List UInt8) (ns:List (List UInt8)):(nameS t ns).2.getD (nameS t ns).1 []=t:=by
 unfold nameS
 split
 ·rename_i h
  have h1:=List.idxOf_lt_length_iff.2 h.2
  simp [List.getD_eq_getElem?_getD,List.getElem?_eq_getElem h1]
 ·simp [List.getD_eq_getElem?_getD]
theorem nameS_idx {t:List UInt8} (ns:List (List UInt8)) (ht:t≠[95]):(nameS t ns).1=(nameS t ns).2.idxOf t∧t∈(nameS t ns).2:=by
 unfold nameS
 split
 ·rename_i h
  exact ⟨rfl,h.2⟩
 ·rename_i h
  have h1:t∉ns:=fun h2=>h ⟨ht,h2⟩
  exact ⟨by simp [List.idxOf_append,h1],by simp⟩
theorem idx_prefix {l m:List (List UInt8)} {t:List UInt8} (h:l <+: m) (ht:t∈l):m.idxOf t=l.idxOf t:=by
 obtain ⟨z,rfl⟩:=h
 rw [List.idxOf_append,if_pos ht]
def VTok (K:Nat→Bool) (a:Nat) (i:Nat):Prop:=a≤i∧K i=true
theorem gU_lt {i:Nat} (h:VTok K a i):(nameS (X i) (nsU K X a i)).1 < (nsU K X a (i+1)).length:=by
 rw [nsU_var h.1 h.2];exact (name_facts _ _).2
theorem gU_name {i j:Nat} (h:VTok K a i) (hj:i < j):(nsU K X a j).getD (nameS (X i) (nsU K X a i)).1 []=X i:=by
 rw [prefix_getD (nsU_le (show i+1≤j from hj)) (gU_lt h),nsU_var h.1 h.2]
 exact nameS_getD _ _
theorem gU_idx {i j:Nat} (h:VTok K a i) (hj:i < j) (ht:X i≠[95]):(nameS (X i) (nsU K X a i)).1=(nsU K X a j).idxOf (X i)∧X i∈nsU K X a j:=by
 have h1:=nameS_idx (nsU K X a i) ht
 rw [←nsU_var h.1 h.2] at h1
 have h2:=nsU_le (K:=K) (X:=X) (a:=a) (show i+1≤j from hj)
 exact ⟨by rw [idx_prefix h2 h1.2];exact h1.1,h2.subset h1.2⟩
theorem gU_same_lt {i j:Nat} (hi:VTok K a i) (hlt:i < j):(nameS (X i) (nsU K X a i)).1=(nameS (X j) (nsU K X a j)).1↔(X i=X j∧X i≠[95]):=by
 have hl:(nsU K X a (i+1)).length≤(nsU K X a j).length:=(nsU_le (show i+1≤j from hlt)).length_le
 have hg:=gU_lt (X:=X) hi
 constructor
 ·intro h
  have h1:=gU_name (X:=X) hi hlt
  by_cases hn:X j≠[95]∧X j∈nsU K X a j
  ·have e:(nameS (X j) (nsU K X a j)).1=(nsU K X a j).idxOf (X j):=by unfold nameS;rw [if_pos hn]
   have h2:=List.idxOf_lt_length_iff.2 hn.2
   rw [h,e,List.getD_eq_getElem?_getD,List.getElem?_eq_getElem h2] at h1
   have h3:(nsU K X a j)[(nsU K X a j).idxOf (X j)]=X j:=List.getElem_idxOf h2
   rw [h3] at h1
   simp only [Option.getD_some] at h1
   exact ⟨h1.symm,by rw [←h1];exact hn.1⟩
  ·have e:(nameS (X j) (nsU K X a j)).1=(nsU K X a j).length:=by unfold nameS;rw [if_neg hn]
   omega
 ·rintro ⟨h1,h2⟩
  obtain ⟨e,hm⟩:=gU_idx (X:=X) hi hlt h2
  rw [e,h1]
  unfold nameS
  rw [if_pos ⟨by rw [←h1];exact h2,by rw [←h1];exact hm⟩]
theorem gU_same {i j:Nat} (hi:VTok K a i) (hj:VTok K a j):gU K X a (i:Int)=gU K X a (j:Int)↔(i=j∨X i=X j∧X i≠[95]):=by
 have e:∀k:Nat,gU K X a (k:Int)=((nameS (X k) (nsU K X a k)).1:Int):=fun k=>by rw [gU,Int.toNat_natCast]
 rw [e,e,Int.natCast_inj]
 rcases Nat.lt_trichotomy i j with h|h|h
 ·rw [gU_same_lt hi h]
  exact ⟨.inr,fun h1=>h1.elim (fun h2=>by omega) id⟩
 ·subst h;simp
 ·rw [eq_comm,gU_same_lt hj h]
  exact ⟨fun h1=>.inr ⟨h1.1.symm,by rw [←h1.1];exact h1.2⟩,fun h1=>h1.elim (fun h2=>by omega) fun h2=>⟨h2.1.symm,by rw [←h2.1];exact h2.2⟩⟩
def nsO (X:Nat→List UInt8) (P:List Int):List (List UInt8):=P.foldl (fun ns v=>(nameS (X v.toNat) ns).2) []
theorem nsO_snoc (X:Nat→List UInt8) (P:List Int) (v:Int):nsO X (P++[v])=(nameS (X v.toNat) (nsO X P)).2:=by simp [nsO]
def OkP (K:Nat→Bool) (a:Nat) (P:List Int):Prop:=P.Nodup∧∀v∈P,0≤v∧VTok K a v.toNat
theorem OkP.left {P Q:List Int} (h:OkP K a (P++Q)):OkP K a P:=⟨(List.nodup_append.1 h.1).1,fun v hv=>h.2 v (List.mem_append.2 (.inl hv))⟩
theorem ded_snoc (l:List Int) (x:Int):dedS (l++[x])=putS (dedS l) x:=by simp [dedS]
theorem nsO_ded (NM:Int→List UInt8) (hNM:∀i:Nat,VTok K a i→NM (gU K X a (i:Int))=X i):∀(P:List Int) (v:Int),OkP K a (P++[v]) →
  nsO X P=(dedS (P.map (gU K X a))).map NM→nsO X (P++[v])=(dedS ((P++[v]).map (gU K X a))).map NM∧(nameS (X v.toNat) (nsO X P)).1=(dedS ((P++[v]).map (gU K X a))).idxOf (gU K X a v):=by
 intro P v hP hn
 obtain ⟨h0,hv⟩:=hP.2 v (by simp)
 obtain ⟨i,rfl⟩:=Int.eq_ofNat_of_zero_le h0
 rw [Int.toNat_natCast] at hv ⊢
 have hmem:∀g∈dedS (P.map (gU K X a)),∃j:Nat,VTok K a j∧g=gU K X a (j:Int)∧j≠i:=by
  intro g hg
  obtain ⟨u,hu,rfl⟩:=List.mem_map.1 (ded_mem.1 hg)
  obtain ⟨k0,kv⟩:=hP.2 u (by simp [hu])
  obtain ⟨j,rfl⟩:=Int.eq_ofNat_of_zero_le k0
  refine ⟨j,by simpa using kv,rfl,?_⟩
  rintro rfl
  exact (List.nodup_append.1 hP.1).2.2 _ hu _ (List.mem_singleton.2 rfl) rfl
 have hNi:=hNM i hv
 rw [nsO_snoc,Int.toNat_natCast,List.map_append,List.map_cons,List.map_nil,ded_snoc]
 generalize hD:dedS (P.map (gU K X a))=D at hn hmem
 generalize hg:gU K X a (i:Int)=g at hNi
 by_cases ht:X i≠[95]∧X i∈nsO X P
 ·have hin:g∈D:=by
   have h1:=ht.2
   rw [hn] at h1
   obtain ⟨u,hu,e⟩:=List.mem_map.1 h1
   obtain ⟨j,hj,rfl,hne⟩:=hmem u hu
   rw [hNM j hj] at e
   rw [←hg,(gU_same hv hj).2 (.inr ⟨e.symm,ht.1⟩)]
   exact hu
  have e1:putS D g=D:=by unfold putS;rw [if_pos hin]
  rw [e1]
  have e2:nameS (X i) (nsO X P)=((nsO X P).idxOf (X i),nsO X P):=by unfold nameS;rw [if_pos ht]
  rw [e2]
  refine ⟨hn,?_⟩
  show (nsO X P).idxOf (X i)=_
  rw [hn]
  -- the place of a name is that of its number
  have hinj:∀u∈D,NM u=X i→u=g:=fun u hu e=>by
   obtain ⟨j,hj,rfl,hne⟩:=hmem u hu
   rw [hNM j hj] at e
   rw [←hg]
   exact ((gU_same hv hj).2 (.inr ⟨e.symm,ht.1⟩)).symm
  clear hn hmem e1 e2 ht hD
  induction D with
  | nil=>cases hin
  | cons u D ih =>
   rw [List.map_cons,List.idxOf_cons,List.idxOf_cons]
   by_cases hu:u=g
   ·rw [hu,hNi];simp
   ·have h1:NM u≠X i:=fun e=>hu (hinj u (by simp) e)
    have h2:g∈D:=by
     rcases List.mem_cons.1 hin with h|h
     ·exact absurd h.symm hu
     ·exact h
    rw [beq_eq_false_iff_ne.2 h1,beq_eq_false_iff_ne.2 hu]
    simp only [cond_false]
    rw [ih h2 fun w hw e=>hinj w (by simp [hw]) e]
 ·have hout:g∉D:=by
   intro h1
   obtain ⟨j,hj,e,hne⟩:=hmem g h1
   rw [←hg] at e
   rcases (gU_same hv hj).1 e with h2|⟨h2,h3⟩
   ·exact hne h2.symm
   ·refine ht ⟨h3,?_⟩
    rw [hn]
    exact List.mem_map.2 ⟨g,h1,hNi⟩
  have e1:putS D g=D++[g]:=by unfold putS;rw [if_neg hout]
  rw [e1]
  have e2:nameS (X i) (nsO X P)=((nsO X P).length,nsO X P++[X i]):=by unfold nameS;rw [if_neg ht]
  rw [e2]
  refine ⟨by rw [hn,List.map_append,List.map_cons,List.map_nil,hNi],?_⟩
  show (nsO X P).length=_
  rw [hn,List.length_map,List.idxOf_append,if_neg hout]
  simp
theorem nsO_all (NM:Int→List UInt8) (hNM:∀i:Nat,VTok K a i→NM (gU K X a (i:Int))=X i) (P:List Int):OkP K a P→nsO X P=(dedS (P.map (gU K X a))).map NM:=by
 suffices H:∀(n:Nat) (P:List Int),P.length=n→OkP K a P→nsO X P=(dedS (P.map (gU K X a))).map NM from H _ P rfl
 intro n
 induction n with
 | zero=>intro P hl _;rw [List.length_eq_zero_iff.1 hl];rfl
 | succ n ih =>
  intro P hl hP
  obtain ⟨Q,v,rfl⟩:∃Q v,P=Q++[v]:=⟨P.dropLast,P.getLast (by rintro rfl;simp at hl),(List.dropLast_concat_getLast _).symm⟩
  exact (nsO_ded NM hNM Q v hP (ih Q (by simpa using hl) hP.left)).1
mutual
def Tm.neat:Tm→Prop
 | .mk k n s _ _ a=>(k=0∧s.size=0∧a=[])∨(k=1∧s.size=0∧a=[])∨(k=2∧n=0∧neatL a)
def neatL:List Tm→Prop
 | []=>True
 | t :: r=>t.neat∧neatL r
end
theorem neatL_append (l m:List Tm):neatL (l++m)↔neatL l∧neatL m:=by
 induction l with
 | nil=>simp [neatL]
 | cons t r ih=>simp [neatL,ih,and_assoc]
theorem neatL_mem {l:List Tm} {t:Tm} (h:neatL l) (ht:t∈l):t.neat:=by
 induction l with
 | nil=>cases ht
 | cons x r ih =>
  rcases List.mem_cons.1 ht with rfl|h1
  ·exact h.1
  ·exact ih h.2 h1
mutual
def Tm.numP (X:Nat→List UInt8):Tm→List (List UInt8)→Tm×List (List UInt8)
 | .mk k n s A c a,ns=>if k=1 then (.mk k ((nameS (X n.toNat) ns).1:Int) s A c a,(nameS (X n.toNat) ns).2) else (.mk k n s A c (numPL X a ns).1,(numPL X a ns).2)
def numPL (X:Nat→List UInt8):List Tm→List (List UInt8)→List Tm×List (List UInt8)
 | [],ns=>([],ns)
 | t :: r,ns=>((t.numP X ns).1 :: (numPL X r (t.numP X ns).2).1,(numPL X r (t.numP X ns).2).2)
end
theorem numPL_append (X:Nat→List UInt8) (l m:List Tm) (ns:List (List UInt8)):numPL X (l++m) ns=((numPL X l ns).1++(numPL X m (numPL X l ns).2).1,(numPL X m (numPL X l ns).2).2):=by
 induction l generalizing ns with
 | nil=>rfl
 | cons t r ih=>simp only [List.cons_append,numPL,ih]
theorem numPL_len (X:Nat→List UInt8) (l:List Tm) (ns:List (List UInt8)):(numPL X l ns).1.length=l.length:=by
 induction l generalizing ns with
 | nil=>rfl
 | cons t r ih=>simp [numPL,ih]
theorem numP_ded (NM:Int→List UInt8) (hNM:∀i:Nat,VTok K a i→NM (gU K X a (i:Int))=X i) (V:List Int) :
  (∀t:Tm,t.neat→∀P,OkP K a (P++t.occ)→dedS ((P++t.occ).map (gU K X a)) <+: V→(t.numP X (nsO X P)).2=nsO X (P++t.occ)∧(t.numP X (nsO X P)).1.strip=t.num2 fun v=>placeS V (gU K X a v)) ∧
  (∀l,neatL l→∀P,OkP K a (P++occL l)→dedS ((P++occL l).map (gU K X a)) <+: V→(numPL X l (nsO X P)).2=nsO X (P++occL l)∧stripL (numPL X l (nsO X P)).1=numL2 (fun v=>placeS V (gU K X a v)) l):=by
 refine Tm.induct2 (fun k n s A c a' ih=>?_) (fun _ P _ _=>by simp [numPL,occL,stripL,numL2]) (fun t r h1 h2=>?_)
 ·intro h P hP hV
  rcases h with ⟨rfl,_,rfl⟩|⟨rfl,_,rfl⟩|⟨rfl,_,hn⟩
  ·simp [Tm.numP,numPL,Tm.occ,Tm.strip,stripL,Tm.num2,numL2]
  ·simp only [Tm.occ,if_true] at hP hV
   have hl:=nsO_all NM hNM P hP.left
   obtain ⟨e1,e2⟩:=nsO_ded NM hNM P n hP hl
   simp only [Tm.numP,if_true,Tm.strip,Tm.num2,stripL,numL2,Tm.occ]
   refine ⟨by rw [nsO_snoc],?_⟩
   have hin:gU K X a n∈dedS ((P++[n]).map (gU K X a)):=ded_mem.2 (by simp)
   rw [e2,place_in (hV.subset hin)]
   obtain ⟨z,rfl⟩:=hV
   rw [List.idxOf_append,if_pos hin]
  ·have e:Tm.occ (.mk 2 n s A c a')=occL a':=by simp [Tm.occ]
   rw [e] at hP hV ⊢
   obtain ⟨h1,h2⟩:=ih hn P hP hV
   simp only [Tm.numP,Tm.strip,Tm.num2,show ¬(2:Int)=1 by omega,if_false]
   exact ⟨h1,by rw [h2]⟩
 ·intro h P hP hV
  simp only [occL] at hP hV
  rw [←List.append_assoc] at hP hV
  have hV1:dedS ((P++t.occ).map (gU K X a)) <+: V:=by
   refine List.IsPrefix.trans ?_ hV
   rw [List.map_append (l₁:=P++t.occ),ded_append]
   exact fold_prefix _ _
  obtain ⟨e1,e2⟩:=h1 h.1 P hP.left hV1
  obtain ⟨e3,e4⟩:=h2 h.2 (P++t.occ) hP hV
  simp only [numPL,occL,stripL,numL2,e1,e2,e3,e4,List.append_assoc,and_self]
theorem num2_g_occ (g:Int→Int) (l:List Tm):(occL l).map g=occL (numL2 g l):=((num2_occ g).2 l).symm
theorem numPL_ref (NM:Int→List UInt8) (hNM:∀i:Nat,VTok K a i→NM (gU K X a (i:Int))=X i) (l:List Tm) (hn:neatL l) (ho:OkP K a (occL l)) :
  stripL (numPL X l []).1=numL2 (placeS (orderS (numL2 (gU K X a) l))) (numL2 (gU K X a) l)∧(numPL X l []).2=(orderS (numL2 (gU K X a) l)).map NM:=by
 have e:orderS (numL2 (gU K X a) l)=dedS ((occL l).map (gU K X a)):=by rw [num2_g_occ];rfl
 obtain ⟨h1,h2⟩:=(numP_ded NM hNM (orderS (numL2 (gU K X a) l))).2 l hn [] (by simpa using ho) (by rw [e];simp)
 rw [show nsO X []=[] from rfl,List.nil_append] at h1
 rw [show nsO X []=[] from rfl] at h2
 refine ⟨by rw [h2];exact (num2_num2.2 l).symm,by rw [h1,nsO_all NM hNM _ ho,e]⟩
end
end Go.Proofs.YtaojnljppcnhjaaGreatDoor
namespace Go.Proofs.YtaojnljppcnhjaaGreatDoor
open Go.RowKit
theorem ret_bool {a b:Bool} (h:a=b):Ending.returned (.bool a)=.returned (.bool b):=by rw [h]
theorem len_str (s:ByteArray):s.data.toList.length=s.size:=Array.length_toList
theorem low_at (x:UInt8) (w:World) {r:Bool} (h:lowB x=r) :
  Calls Tryz.prog 140 #[.int .u8 (x.toNat:Int)] w fun e w'=>e=.returned (.bool r)∧w=w':=by
 subst h
 by_cases h1:97≤x.toNat
 ·have h1':(97:Int)≤(x.toNat:Int):=by omega
  by_cases h2:x.toNat≤122
  ·have h2':(x.toNat:Int)≤122:=by omega
   have HV:=Lib.hid (show lowB x=true by simp only [lowB,h1,h2,and_self,decide_true])
   clear h1 h2
   go_enter Tryz.func140,Tryz.ntmps140
   go_wp2
   go_ret
   exact ⟨ret_bool (by rw [HV.out]),rfl⟩
  ·have h2':decide ((x.toNat:Int)≤122)=false:=by simp;omega
   have HV:=Lib.hid (show lowB x=false by simp only [lowB,h2,and_false,decide_false])
   clear h1 h2
   go_enter Tryz.func140,Tryz.ntmps140
   go_wp2
   go_ret
   exact ⟨ret_bool (by rw [HV.out]),rfl⟩
 ·have h1':decide ((97:Int)≤(x.toNat:Int))=false:=by simp;omega
  have HV:=Lib.hid (show lowB x=false by simp only [lowB,h1,false_and,decide_false])
  clear h1
  go_enter Tryz.func140,Tryz.ntmps140
  go_wp2
  go_ret
  exact ⟨ret_bool (by rw [HV.out]),rfl⟩
theorem upp_at (x:UInt8) (w:World) {r:Bool} (h:uppB x=r) :
  Calls Tryz.prog 141 #[.int .u8 (x.toNat:Int)] w fun e w'=>e=.returned (.bool r)∧w=w':=by
 subst h
 by_cases h1:65≤x.toNat
 ·have h1':(65:Int)≤(x.toNat:Int):=by omega
  by_cases h2:x.toNat≤90
  ·have h2':(x.toNat:Int)≤90:=by omega
   have HV:=Lib.hid (show uppB x=true by simp only [uppB,h1,h2,and_self,decide_true])
   clear h1 h2
   go_enter Tryz.func141,Tryz.ntmps141
   go_wp2
   go_ret
   exact ⟨ret_bool (by rw [HV.out]),rfl⟩
  ·have h2':decide ((x.toNat:Int)≤90)=false:=by simp;omega
   have HV:=Lib.hid (show uppB x=false by simp only [uppB,h2,and_false,decide_false])
   clear h1 h2
   go_enter Tryz.func141,Tryz.ntmps141
   go_wp2
   go_ret
   exact ⟨ret_bool (by rw [HV.out]),rfl⟩
 ·have h1':decide ((65:Int)≤(x.toNat:Int))=false:=by simp;omega
  have HV:=Lib.hid (show uppB x=false by simp only [uppB,h1,false_and,decide_false])
  clear h1
  go_enter Tryz.func141,Tryz.ntmps141
  go_wp2
  go_ret
  exact ⟨ret_bool (by rw [HV.out]),rfl⟩
theorem dig_at (x:UInt8) (w:World) {r:Bool} (h:digB x=r) :
  Calls Tryz.prog 150 #[.int .u8 (x.toNat:Int)] w fun e w'=>e=.returned (.bool r)∧w=w':=by
 subst h
 by_cases h1:48≤x.toNat
 ·have h1':(48:Int)≤(x.toNat:Int):=by omega
  by_cases h2:x.toNat≤57
  ·have h2':(x.toNat:Int)≤57:=by omega
   have HV:=Lib.hid (show digB x=true by simp only [digB,h1,h2,and_self,decide_true])
   clear h1 h2
   go_enter Tryz.func150,Tryz.ntmps150
   go_wp2
   go_ret
   exact ⟨ret_bool (by rw [HV.out]),rfl⟩
  ·have h2':decide ((x.toNat:Int)≤57)=false:=by simp;omega
   have HV:=Lib.hid (show digB x=false by simp only [digB,h2,and_false,decide_false])
   clear h1 h2
   go_enter Tryz.func150,Tryz.ntmps150
   go_wp2
   go_ret
   exact ⟨ret_bool (by rw [HV.out]),rfl⟩
 ·have h1':decide ((48:Int)≤(x.toNat:Int))=false:=by simp;omega
  have HV:=Lib.hid (show digB x=false by simp only [digB,h1,false_and,decide_false])
  clear h1
  go_enter Tryz.func150,Tryz.ntmps150
  go_wp2
  go_ret
  exact ⟨ret_bool (by rw [HV.out]),rfl⟩
theorem ref_low_at (x:UInt8) (w:World) {r:Bool} (h:lowB x=r) :
  Calls Tryz.prog 92 #[.int .u8 (x.toNat:Int)] w fun e w'=>e=.returned (.bool r)∧w=w':=by
 subst h
 by_cases h1:97≤x.toNat
 ·have h1':(97:Int)≤(x.toNat:Int):=by omega
  by_cases h2:x.toNat≤122
  ·have h2':(x.toNat:Int)≤122:=by omega
   have HV:=Lib.hid (show lowB x=true by simp only [lowB,h1,h2,and_self,decide_true])
   clear h1 h2
   go_enter Tryz.func92,Tryz.ntmps92
   go_wp2
   go_ret
   exact ⟨ret_bool (by rw [HV.out]),rfl⟩
  ·have h2':decide ((x.toNat:Int)≤122)=false:=by simp;omega
   have HV:=Lib.hid (show lowB x=false by simp only [lowB,h2,and_false,decide_false])
   clear h1 h2
   go_enter Tryz.func92,Tryz.ntmps92
   go_wp2
   go_ret
   exact ⟨ret_bool (by rw [HV.out]),rfl⟩
 ·have h1':decide ((97:Int)≤(x.toNat:Int))=false:=by simp;omega
  have HV:=Lib.hid (show lowB x=false by simp only [lowB,h1,false_and,decide_false])
  clear h1
  go_enter Tryz.func92,Tryz.ntmps92
  go_wp2
  go_ret
  exact ⟨ret_bool (by rw [HV.out]),rfl⟩
theorem ref_upp_at (x:UInt8) (w:World) {r:Bool} (h:uppB x=r) :
  Calls Tryz.prog 113 #[.int .u8 (x.toNat:Int)] w fun e w'=>e=.returned (.bool r)∧w=w':=by
 subst h
 by_cases h1:65≤x.toNat
 ·have h1':(65:Int)≤(x.toNat:Int):=by omega
  by_cases h2:x.toNat≤90
  ·have h2':(x.toNat:Int)≤90:=by omega
   have HV:=Lib.hid (show uppB x=true by simp only [uppB,h1,h2,and_self,decide_true])
   clear h1 h2
   go_enter Tryz.func113,Tryz.ntmps113
   go_wp2
   go_ret
   exact ⟨ret_bool (by rw [HV.out]),rfl⟩
  ·have h2':decide ((x.toNat:Int)≤90)=false:=by simp;omega
   have HV:=Lib.hid (show uppB x=false by simp only [uppB,h2,and_false,decide_false])
   clear h1 h2
   go_enter Tryz.func113,Tryz.ntmps113
   go_wp2
   go_ret
   exact ⟨ret_bool (by rw [HV.out]),rfl⟩
 ·have h1':decide ((65:Int)≤(x.toNat:Int))=false:=by simp;omega
  have HV:=Lib.hid (show uppB x=false by simp only [uppB,h1,false_and,decide_false])
  clear h1
  go_enter Tryz.func113,Tryz.ntmps113
  go_wp2
  go_ret
  exact ⟨ret_bool (by rw [HV.out]),rfl⟩
end Go.Proofs.YtaojnljppcnhjaaGreatDoor
namespace Go.Proofs.YtaojnljppcnhjaaGreatDoor
open Go.RowKit
theorem take_next {s:ByteArray} {k:Nat} (h:k < s.size):s.data.toList.take (k+1)=s.data.toList.take k++[s[k]]:=by
 rw [List.take_succ_eq_append_getElem (by simpa using h)];rfl
theorem all_next {s:ByteArray} {k:Nat} (h:k < s.size) (ha:∀c∈s.data.toList.take k,inB c=true) (hc:inB s[k]=true):∀c∈s.data.toList.take (k+1),inB c=true:=by
 intro c hm
 rw [take_next h] at hm
 rcases List.mem_append.1 hm with h1|h1
 ·exact ha c h1
 ·obtain rfl:=List.mem_singleton.1 h1
  exact hc
theorem word_stop {s:ByteArray} {k:Nat} (h:k < s.size) (hc:inB s[k]=false):wordB s.data.toList=false:=by
 cases hw:wordB s.data.toList
 ·rfl
 ·have:=((wordB_iff _).1 hw).2.2 s[k] (List.getElem_mem (l:=s.data.toList) (n:=k) (by simpa using h))
  rw [this] at hc
  cases hc
theorem word_end {s:ByteArray} (h1:1≤s.size) (h2:s.size≤40) (ha:∀c∈s.data.toList.take s.size,inB c=true):wordB s.data.toList=true:=by
 rw [wordB_iff,len_str]
 refine ⟨h1,h2,fun c hc=>ha c ?_⟩
 rw [List.take_of_length_le (by rw [len_str];omega)]
 exact hc
theorem word_short {s:ByteArray} (h:s.size < 1):wordB s.data.toList=false:=by
 cases hw:wordB s.data.toList
 ·rfl
 ·have:=((wordB_iff _).1 hw).1
  rw [len_str] at this
  omega
theorem word_long {s:ByteArray} (h:40 < s.size):wordB s.data.toList=false:=by
 cases hw:wordB s.data.toList
 ·rfl
 ·have:=((wordB_iff _).1 hw).2.1
  rw [len_str] at this
  omega
set_option maxRecDepth 100000 in
set_option maxHeartbeats 1000000 in
theorem word_at (s:ByteArray) (w:World) (hs:s.size≤9223372036854775807) {r:Bool} (hr:wordB s.data.toList=r) :
  Calls Tryz.prog 139 #[.string s] w fun e w'=>e=.returned (.bool r)∧w=w':=by
 subst hr
 by_cases h1:s.size < 1
 ·have h1':((s.size:Nat):Int) < 1:=by omega
  have HV:=Lib.hid (word_short h1)
  clear h1
  go_enter Tryz.func139,Tryz.ntmps139
  go_wp2
  go_ret
  exact ⟨ret_bool (by rw [HV.out]),rfl⟩
 by_cases h2:40 < s.size
 ·have h1':decide (((s.size:Nat):Int) < 1)=false:=by simp;omega
  have h2':(40:Int) < ((s.size:Nat):Int):=by omega
  have HV:=Lib.hid (word_long h2)
  clear h1 h2
  go_enter Tryz.func139,Tryz.ntmps139
  go_wp2
  go_ret
  exact ⟨ret_bool (by rw [HV.out]),rfl⟩
 have h1':decide (((s.size:Nat):Int) < 1)=false:=by simp;omega
 have h2':decide ((40:Int) < ((s.size:Nat):Int))=false:=by simp;omega
 have H1:=Lib.hid (show 1≤s.size by omega)
 have H2:=Lib.hid (show s.size≤40 by omega)
 clear h1 h2
 go_enter Tryz.func139,Tryz.ntmps139
 go_wp2
 go_loop [14] (fun i=>∃k:Nat,k≤s.size∧i=.int .i64 (k:Int)∧Hid (∀c∈s.data.toList.take k,inB c=true)) (fun i=>s.size - (intOf i).toNat)
 case atStart=>exact ⟨0,Nat.zero_le _,rfl,fun c hc=>by simp at hc⟩
 case round =>
  obtain ⟨k,hk,rfl,ha⟩:=hrel
  by_cases hlt:k < s.size
  ·obtain ⟨b1,hb1⟩:∃b,lowB s[k]=b:=⟨_,rfl⟩
   obtain ⟨b2,hb2⟩:∃b,uppB s[k]=b:=⟨_,rfl⟩
   obtain ⟨b3,hb3⟩:∃b,digB s[k]=b:=⟨_,rfl⟩
   have HI:=Lib.hid (show inB s[k]=(b1||b2||b3||undB s[k]) by unfold inB;rw [hb1,hb2,hb3])
   have q1:=Lib.hid hb1
   have q2:=Lib.hid hb2
   have q3:=Lib.hid hb3
   clear hb1 hb2 hb3
   cases b1
   ·cases b2
    ·cases b3
     ·by_cases h4:s[k].toNat=95
      ·have h4':((s[k].toNat:Int) != 95)=false:=by simp;omega
       have HN:=Lib.hid (all_next hlt ha.out (by rw [HI.out];simp only [undB,h4,decide_true,Bool.or_true]))
       clear h4
       go_wp2_with (first|(go_at_call 140;refine (low_at _ _ q1).mono ?_;rintro e w' ⟨rfl,rfl⟩)|(go_at_call 141;refine (upp_at _ _ q2).mono ?_;rintro e w' ⟨rfl,rfl⟩)|(go_at_call 150;refine (dig_at _ _ q3).mono ?_;rintro e w' ⟨rfl,rfl⟩))
       go_round
       case rel=>exact ⟨k+1,by omega,by go_num,HN.out⟩
       case measure=>simp [intOf];omega
      ·have h4':((s[k].toNat:Int) != 95)=true:=by simp;omega
       have HN:=Lib.hid (word_stop hlt (by rw [HI.out];simp only [undB,h4,decide_false,Bool.or_false]))
       clear h4
       go_wp2_with (first|(go_at_call 140;refine (low_at _ _ q1).mono ?_;rintro e w' ⟨rfl,rfl⟩)|(go_at_call 141;refine (upp_at _ _ q2).mono ?_;rintro e w' ⟨rfl,rfl⟩)|(go_at_call 150;refine (dig_at _ _ q3).mono ?_;rintro e w' ⟨rfl,rfl⟩))
       go_ret
       exact ⟨ret_bool (by rw [HN.out]),rfl⟩
     ·have HN:=Lib.hid (all_next hlt ha.out (by rw [HI.out];simp))
      go_wp2_with (first|(go_at_call 140;refine (low_at _ _ q1).mono ?_;rintro e w' ⟨rfl,rfl⟩)|(go_at_call 141;refine (upp_at _ _ q2).mono ?_;rintro e w' ⟨rfl,rfl⟩)|(go_at_call 150;refine (dig_at _ _ q3).mono ?_;rintro e w' ⟨rfl,rfl⟩))
      go_round
      case rel=>exact ⟨k+1,by omega,by go_num,HN.out⟩
      case measure=>simp [intOf];omega
    ·have HN:=Lib.hid (all_next hlt ha.out (by rw [HI.out];simp))
     go_wp2_with (first|(go_at_call 140;refine (low_at _ _ q1).mono ?_;rintro e w' ⟨rfl,rfl⟩)|(go_at_call 141;refine (upp_at _ _ q2).mono ?_;rintro e w' ⟨rfl,rfl⟩)|(go_at_call 150;refine (dig_at _ _ q3).mono ?_;rintro e w' ⟨rfl,rfl⟩))
     go_round
     case rel=>exact ⟨k+1,by omega,by go_num,HN.out⟩
     case measure=>simp [intOf];omega
   ·have HN:=Lib.hid (all_next hlt ha.out (by rw [HI.out];simp))
    go_wp2_with (first|(go_at_call 140;refine (low_at _ _ q1).mono ?_;rintro e w' ⟨rfl,rfl⟩)|(go_at_call 141;refine (upp_at _ _ q2).mono ?_;rintro e w' ⟨rfl,rfl⟩)|(go_at_call 150;refine (dig_at _ _ q3).mono ?_;rintro e w' ⟨rfl,rfl⟩))
    go_round
    case rel=>exact ⟨k+1,by omega,by go_num,HN.out⟩
    case measure=>simp [intOf];omega
  ·obtain rfl:k=s.size:=by omega
   have HN:=Lib.hid (word_end H1.out H2.out ha.out)
   go_wp2
   go_ret
   exact ⟨ret_bool (by rw [HN.out]),rfl⟩
end Go.Proofs.YtaojnljppcnhjaaGreatDoor
namespace Go.Proofs.YtaojnljppcnhjaaGreatDoor
open Go.RowKit
theorem word_of_all {s:ByteArray} (ha:∀c∈s.data.toList.take s.size,inB c=true):wordB s.data.toList=(decide (1≤s.size)&&decide (s.size≤40)):=by
 rw [Bool.eq_iff_iff,wordB_iff,len_str]
 simp only [Bool.and_eq_true,decide_eq_true_eq]
 refine ⟨fun h=>⟨h.1,h.2.1⟩,fun h=>⟨h.1,h.2,fun c hc=>ha c ?_⟩⟩
 rw [List.take_of_length_le (by rw [len_str];omega)]
 exact hc
set_option maxRecDepth 100000 in
set_option maxHeartbeats 1000000 in
theorem ref_word_at (s:ByteArray) (w:World) (hs:s.size≤9223372036854775807) {r:Bool} (hr:wordB s.data.toList=r) :
  Calls Tryz.prog 91 #[.string s] w fun e w'=>e=.returned (.bool r)∧w=w':=by
 subst hr
 go_enter Tryz.func91,Tryz.ntmps91
 go_wp2
 go_loop [3] (fun i=>∃k:Nat,k≤s.size∧i=.int .i64 (k:Int)∧Hid (∀c∈s.data.toList.take k,inB c=true)) (fun i=>s.size - (intOf i).toNat)
 case atStart=>exact ⟨0,Nat.zero_le _,rfl,fun c hc=>by simp at hc⟩
 case round =>
  obtain ⟨k,hk,rfl,ha⟩:=hrel
  by_cases hlt:k < s.size
  ·obtain ⟨b1,hb1⟩:∃b,lowB s[k]=b:=⟨_,rfl⟩
   obtain ⟨b2,hb2⟩:∃b,uppB s[k]=b:=⟨_,rfl⟩
   obtain ⟨b3,hb3⟩:∃b,digB s[k]=b:=⟨_,rfl⟩
   have HI:=Lib.hid (show inB s[k]=(b1||b2||b3||undB s[k]) by unfold inB;rw [hb1,hb2,hb3])
   have q1:=Lib.hid hb1
   have q2:=Lib.hid hb2
   have q3:=Lib.hid hb3
   clear hb1 hb2 hb3
   cases b1
   ·cases b2
    ·by_cases h5:s[k].toNat < 48
     ·have h5':(s[k].toNat:Int) < 48:=by omega
      have h4':((s[k].toNat:Int) != 95)=true:=by simp;omega
      have e3:b3=false:=by rw [←q3.out];simp only [digB,decide_eq_false_iff_not];omega
      have HN:=Lib.hid (word_stop hlt (by rw [HI.out,e3];simp only [undB,Bool.false_or,decide_eq_false_iff_not];omega))
      clear h5 e3
      go_wp2_with (first|(go_at_call 92;refine (ref_low_at _ _ q1.out).mono ?_;rintro e w' ⟨rfl,rfl⟩)|(go_at_call 113;refine (ref_upp_at _ _ q2.out).mono ?_;rintro e w' ⟨rfl,rfl⟩))
      go_ret
      exact ⟨ret_bool (by rw [HN.out]),rfl⟩
     have h5':decide ((s[k].toNat:Int) < 48)=false:=by simp;omega
     by_cases h6:57 < s[k].toNat
     ·have h6':(57:Int) < (s[k].toNat:Int):=by omega
      have e3:b3=false:=by rw [←q3.out];simp only [digB,decide_eq_false_iff_not];omega
      by_cases h4:s[k].toNat=95
      ·have h4':((s[k].toNat:Int) != 95)=false:=by simp;omega
       have HN:=Lib.hid (all_next hlt ha.out (by rw [HI.out];simp only [undB,h4,decide_true,Bool.or_true]))
       clear h4 h5 h6 e3
       go_wp2_with (first|(go_at_call 92;refine (ref_low_at _ _ q1.out).mono ?_;rintro e w' ⟨rfl,rfl⟩)|(go_at_call 113;refine (ref_upp_at _ _ q2.out).mono ?_;rintro e w' ⟨rfl,rfl⟩))
       go_round
       case rel=>exact ⟨k+1,by omega,by go_num,HN.out⟩
       case measure=>simp [intOf];omega
      ·have h4':((s[k].toNat:Int) != 95)=true:=by simp;omega
       have HN:=Lib.hid (word_stop hlt (by rw [HI.out,e3];simp only [undB,h4,decide_false,Bool.or_false]))
       clear h4 h5 h6 e3
       go_wp2_with (first|(go_at_call 92;refine (ref_low_at _ _ q1.out).mono ?_;rintro e w' ⟨rfl,rfl⟩)|(go_at_call 113;refine (ref_upp_at _ _ q2.out).mono ?_;rintro e w' ⟨rfl,rfl⟩))
       go_ret
       exact ⟨ret_bool (by rw [HN.out]),rfl⟩
     ·have h6':decide ((57:Int) < (s[k].toNat:Int))=false:=by simp;omega
      have e3:b3=true:=by rw [←q3.out];simp only [digB,decide_eq_true_eq];omega
      have HN:=Lib.hid (all_next hlt ha.out (by rw [HI.out,e3];simp))
      clear h5 h6 e3
      go_wp2_with (first|(go_at_call 92;refine (ref_low_at _ _ q1.out).mono ?_;rintro e w' ⟨rfl,rfl⟩)|(go_at_call 113;refine (ref_upp_at _ _ q2.out).mono ?_;rintro e w' ⟨rfl,rfl⟩))
      go_round
      case rel=>exact ⟨k+1,by omega,by go_num,HN.out⟩
      case measure=>simp [intOf];omega
    ·have HN:=Lib.hid (all_next hlt ha.out (by rw [HI.out];simp))
     go_wp2_with (first|(go_at_call 92;refine (ref_low_at _ _ q1.out).mono ?_;rintro e w' ⟨rfl,rfl⟩)|(go_at_call 113;refine (ref_upp_at _ _ q2.out).mono ?_;rintro e w' ⟨rfl,rfl⟩))
     go_round
     case rel=>exact ⟨k+1,by omega,by go_num,HN.out⟩
     case measure=>simp [intOf];omega
   ·have HN:=Lib.hid (all_next hlt ha.out (by rw [HI.out];simp))
    go_wp2_with (first|(go_at_call 92;refine (ref_low_at _ _ q1.out).mono ?_;rintro e w' ⟨rfl,rfl⟩)|(go_at_call 113;refine (ref_upp_at _ _ q2.out).mono ?_;rintro e w' ⟨rfl,rfl⟩))
    go_round
    case rel=>exact ⟨k+1,by omega,by go_num,HN.out⟩
    case measure=>simp [intOf];omega
  ·obtain rfl:k=s.size:=by omega
   have HN:=Lib.hid (word_of_all ha.out)
   by_cases h1:1≤s.size
   ·have h1':(1:Int)≤((s.size:Nat):Int):=by omega
    by_cases h2:s.size≤40
    ·have h2':((s.size:Nat):Int)≤40:=by omega
     have HB:=Lib.hid (show wordB s.data.toList=true by rw [HN.out];simp [h1,h2])
     clear h1 h2
     go_wp2
     go_ret
     exact ⟨ret_bool (by rw [HB.out]),rfl⟩
    ·have h2':decide (((s.size:Nat):Int)≤40)=false:=by simp;omega
     have HB:=Lib.hid (show wordB s.data.toList=false by rw [HN.out];simp [h2])
     clear h1 h2
     go_wp2
     go_ret
     exact ⟨ret_bool (by rw [HB.out]),rfl⟩
   ·have h1':decide ((1:Int)≤((s.size:Nat):Int))=false:=by simp;omega
    have HB:=Lib.hid (show wordB s.data.toList=false by rw [HN.out];simp [h1])
    clear h1
    go_wp2
    go_ret
    exact ⟨ret_bool (by rw [HB.out]),rfl⟩
end Go.Proofs.YtaojnljppcnhjaaGreatDoor
namespace Go.Proofs.YtaojnljppcnhjaaGreatDoor
open Go.RowKit
theorem raw_list (s:ByteArray):s.toList=s.data.toList:=ByteArray.toList_eq s
theorem str_of {s:ByteArray} {l:List UInt8} (h:s.data.toList=l):s=⟨l.toArray⟩:=by
 subst h
 rfl
theorem raw_ne {s:ByteArray} {l:List UInt8} (h:s.data.toList≠l):(s.toList==l)=false:=by
 rw [raw_list]
 simpa using h
set_option maxHeartbeats 1000000 in
theorem op_at (s:ByteArray) (w:World) {r:Bool} (hr:opB s.data.toList=r) :
  Calls Tryz.prog 134 #[.string s] w fun e w'=>e=.returned (.bool r)∧w=w':=by
 by_cases h0:s.data.toList=[43]
 ·obtain rfl:=str_of h0
  obtain rfl:true=r:=by rw [←hr];decide
  clear h0 hr
  go_enter Tryz.func134,Tryz.ntmps134
  go_wp2
  go_ret
  exact ⟨rfl,rfl⟩
 by_cases h1:s.data.toList=[45]
 ·obtain rfl:=str_of h1
  obtain rfl:true=r:=by rw [←hr];decide
  clear h0 h1 hr
  go_enter Tryz.func134,Tryz.ntmps134
  go_wp2
  go_ret
  exact ⟨rfl,rfl⟩
 by_cases h2:s.data.toList=[42]
 ·obtain rfl:=str_of h2
  obtain rfl:true=r:=by rw [←hr];decide
  clear h0 h1 h2 hr
  go_enter Tryz.func134,Tryz.ntmps134
  go_wp2
  go_ret
  exact ⟨rfl,rfl⟩
 by_cases h3:s.data.toList=[47]
 ·obtain rfl:=str_of h3
  obtain rfl:true=r:=by rw [←hr];decide
  clear h0 h1 h2 h3 hr
  go_enter Tryz.func134,Tryz.ntmps134
  go_wp2
  go_ret
  exact ⟨rfl,rfl⟩
 by_cases h4:s.data.toList=[37]
 ·obtain rfl:=str_of h4
  obtain rfl:true=r:=by rw [←hr];decide
  clear h0 h1 h2 h3 h4 hr
  go_enter Tryz.func134,Tryz.ntmps134
  go_wp2
  go_ret
  exact ⟨rfl,rfl⟩
 obtain rfl:false=r:=by
  rw [←hr]
  simp only [opB,operators,List.mem_cons,List.not_mem_nil,or_false,h0,h1,h2,h3,h4,decide_false]
 have n0:=raw_ne h0
 have n1:=raw_ne h1
 have n2:=raw_ne h2
 have n3:=raw_ne h3
 have n4:=raw_ne h4
 clear h0 h1 h2 h3 h4 hr
 go_enter Tryz.func134,Tryz.ntmps134
 go_wp2
 go_ret
 exact ⟨rfl,rfl⟩
set_option maxHeartbeats 1000000 in
theorem ref_op_at (s:ByteArray) (w:World) {r:Bool} (hr:opB s.data.toList=r) :
  Calls Tryz.prog 136 #[.string s] w fun e w'=>e=.returned (.bool r)∧w=w':=by
 by_cases h0:s.data.toList=[43]
 ·obtain rfl:=str_of h0
  obtain rfl:true=r:=by rw [←hr];decide
  clear h0 hr
  go_enter Tryz.func136,Tryz.ntmps136
  go_wp2
  go_ret
  exact ⟨rfl,rfl⟩
 by_cases h1:s.data.toList=[45]
 ·obtain rfl:=str_of h1
  obtain rfl:true=r:=by rw [←hr];decide
  clear h0 h1 hr
  go_enter Tryz.func136,Tryz.ntmps136
  go_wp2
  go_ret
  exact ⟨rfl,rfl⟩
 by_cases h2:s.data.toList=[42]
 ·obtain rfl:=str_of h2
  obtain rfl:true=r:=by rw [←hr];decide
  clear h0 h1 h2 hr
  go_enter Tryz.func136,Tryz.ntmps136
  go_wp2
  go_ret
  exact ⟨rfl,rfl⟩
 by_cases h3:s.data.toList=[47]
 ·obtain rfl:=str_of h3
  obtain rfl:true=r:=by rw [←hr];decide
  clear h0 h1 h2 h3 hr
  go_enter Tryz.func136,Tryz.ntmps136
  go_wp2
  go_ret
  exact ⟨rfl,rfl⟩
 by_cases h4:s.data.toList=[37]
 ·obtain rfl:=str_of h4
  obtain rfl:true=r:=by rw [←hr];decide
  clear h0 h1 h2 h3 h4 hr
  go_enter Tryz.func136,Tryz.ntmps136
  go_wp2
  go_ret
  exact ⟨rfl,rfl⟩
 obtain rfl:false=r:=by
  rw [←hr]
  simp only [opB,operators,List.mem_cons,List.not_mem_nil,or_false,h0,h1,h2,h3,h4,decide_false]
 have n0:=raw_ne h0
 have n1:=raw_ne h1
 have n2:=raw_ne h2
 have n3:=raw_ne h3
 have n4:=raw_ne h4
 clear h0 h1 h2 h3 h4 hr
 go_enter Tryz.func136,Tryz.ntmps136
 go_wp2
 go_ret
 exact ⟨rfl,rfl⟩
set_option maxHeartbeats 1000000 in
theorem res_at (s:ByteArray) (w:World) {r:Bool} (hr:resB s.data.toList=r) :
  Calls Tryz.prog 102 #[.string s] w fun e w'=>e=.returned (.bool r)∧w=w':=by
 by_cases h0:s.data.toList=[99,111,110,115,116,114,97,105,110,116]
 ·obtain rfl:=str_of h0
  obtain rfl:true=r:=by rw [←hr];decide
  clear h0 hr
  go_enter Tryz.func102,Tryz.ntmps102
  go_wp2
  go_ret
  exact ⟨rfl,rfl⟩
 by_cases h1:s.data.toList=[116,114,117,101]
 ·obtain rfl:=str_of h1
  obtain rfl:true=r:=by rw [←hr];decide
  clear h0 h1 hr
  go_enter Tryz.func102,Tryz.ntmps102
  go_wp2
  go_ret
  exact ⟨rfl,rfl⟩
 by_cases h2:s.data.toList=[102,97,105,108]
 ·obtain rfl:=str_of h2
  obtain rfl:true=r:=by rw [←hr];decide
  clear h0 h1 h2 hr
  go_enter Tryz.func102,Tryz.ntmps102
  go_wp2
  go_ret
  exact ⟨rfl,rfl⟩
 by_cases h3:s.data.toList=[105,115]
 ·obtain rfl:=str_of h3
  obtain rfl:true=r:=by rw [←hr];decide
  clear h0 h1 h2 h3 hr
  go_enter Tryz.func102,Tryz.ntmps102
  go_wp2
  go_ret
  exact ⟨rfl,rfl⟩
 by_cases h4:s.data.toList=[105,110,116]
 ·obtain rfl:=str_of h4
  obtain rfl:true=r:=by rw [←hr];decide
  clear h0 h1 h2 h3 h4 hr
  go_enter Tryz.func102,Tryz.ntmps102
  go_wp2
  go_ret
  exact ⟨rfl,rfl⟩
 by_cases h5:s.data.toList=[103,114,111,117,110,100]
 ·obtain rfl:=str_of h5
  obtain rfl:true=r:=by rw [←hr];decide
  clear h0 h1 h2 h3 h4 h5 hr
  go_enter Tryz.func102,Tryz.ntmps102
  go_wp2
  go_ret
  exact ⟨rfl,rfl⟩
 obtain rfl:false=r:=by
  rw [←hr]
  simp only [resB,reserved,List.mem_cons,List.not_mem_nil,or_false,h0,h1,h2,h3,h4,h5,decide_false]
 have n0:=raw_ne h0
 have n1:=raw_ne h1
 have n2:=raw_ne h2
 have n3:=raw_ne h3
 have n4:=raw_ne h4
 have n5:=raw_ne h5
 clear h0 h1 h2 h3 h4 h5 hr
 go_enter Tryz.func102,Tryz.ntmps102
 go_wp2
 go_ret
 exact ⟨rfl,rfl⟩
set_option maxHeartbeats 1000000 in
theorem ref_res_at (s:ByteArray) (w:World) {r:Bool} (hr:resB s.data.toList=r) :
  Calls Tryz.prog 77 #[.string s] w fun e w'=>e=.returned (.bool r)∧w=w':=by
 by_cases h0:s.data.toList=[99,111,110,115,116,114,97,105,110,116]
 ·obtain rfl:=str_of h0
  obtain rfl:true=r:=by rw [←hr];decide
  clear h0 hr
  go_enter Tryz.func77,Tryz.ntmps77
  go_wp2
  go_ret
  exact ⟨rfl,rfl⟩
 by_cases h1:s.data.toList=[116,114,117,101]
 ·obtain rfl:=str_of h1
  obtain rfl:true=r:=by rw [←hr];decide
  clear h0 h1 hr
  go_enter Tryz.func77,Tryz.ntmps77
  go_wp2
  go_ret
  exact ⟨rfl,rfl⟩
 by_cases h2:s.data.toList=[102,97,105,108]
 ·obtain rfl:=str_of h2
  obtain rfl:true=r:=by rw [←hr];decide
  clear h0 h1 h2 hr
  go_enter Tryz.func77,Tryz.ntmps77
  go_wp2
  go_ret
  exact ⟨rfl,rfl⟩
 by_cases h3:s.data.toList=[105,115]
 ·obtain rfl:=str_of h3
  obtain rfl:true=r:=by rw [←hr];decide
  clear h0 h1 h2 h3 hr
  go_enter Tryz.func77,Tryz.ntmps77
  go_wp2
  go_ret
  exact ⟨rfl,rfl⟩
 by_cases h4:s.data.toList=[105,110,116]
 ·obtain rfl:=str_of h4
  obtain rfl:true=r:=by rw [←hr];decide
  clear h0 h1 h2 h3 h4 hr
  go_enter Tryz.func77,Tryz.ntmps77
  go_wp2
  go_ret
  exact ⟨rfl,rfl⟩
 by_cases h5:s.data.toList=[103,114,111,117,110,100]
 ·obtain rfl:=str_of h5
  obtain rfl:true=r:=by rw [←hr];decide
  clear h0 h1 h2 h3 h4 h5 hr
  go_enter Tryz.func77,Tryz.ntmps77
  go_wp2
  go_ret
  exact ⟨rfl,rfl⟩
 obtain rfl:false=r:=by
  rw [←hr]
  simp only [resB,reserved,List.mem_cons,List.not_mem_nil,or_false,h0,h1,h2,h3,h4,h5,decide_false]
 have n0:=raw_ne h0
 have n1:=raw_ne h1
 have n2:=raw_ne h2
 have n3:=raw_ne h3
 have n4:=raw_ne h4
 have n5:=raw_ne h5
 clear h0 h1 h2 h3 h4 h5 hr
 go_enter Tryz.func77,Tryz.ntmps77
 go_wp2
 go_ret
 exact ⟨rfl,rfl⟩
end Go.Proofs.YtaojnljppcnhjaaGreatDoor
namespace Go.Proofs.YtaojnljppcnhjaaGreatDoor
open Go.RowKit
theorem head_at {s:ByteArray} (h:0 < s.size):s.data.toList.getD 0 0=s[0]:=by
 rw [List.getD_eq_getElem?_getD,List.getElem?_eq_getElem (by rw [len_str];exact h)]
 rfl
theorem word_size {s:ByteArray} (h:wordB s.data.toList=true):0 < s.size:=by
 have:=((wordB_iff _).1 h).1
 rw [len_str] at this
 omega
set_option maxHeartbeats 1000000 in
theorem right_at (s:ByteArray) (w:World) (hs:s.size≤9223372036854775807) {r:Bool} (hr:rightB s.data.toList=r) :
  Calls Tryz.prog 124 #[.string s] w fun e w'=>e=.returned (.bool r)∧w=w':=by
 subst hr
 obtain ⟨b1,hb1⟩:∃b,wordB s.data.toList=b:=⟨_,rfl⟩
 have qw:=Lib.hid hb1
 cases b1
 ·have HV:=Lib.hid (show rightB s.data.toList=false by unfold rightB;rw [hb1];rfl)
  clear hb1
  go_enter Tryz.func124,Tryz.ntmps124
  go_wp2_with (go_at_call 139;refine (word_at _ _ hs qw.out).mono ?_;rintro e w' ⟨rfl,rfl⟩)
  go_ret
  exact ⟨ret_bool (by rw [HV.out]),rfl⟩
 ·have h0:=word_size hb1
  obtain ⟨b2,hb2⟩:∃b,lowB s[0]=b:=⟨_,rfl⟩
  obtain ⟨b3,hb3⟩:∃b,resB s.data.toList=b:=⟨_,rfl⟩
  have HV:=Lib.hid (show rightB s.data.toList=(b2 && !b3) by unfold rightB;rw [hb1,head_at h0,hb2,hb3];rfl)
  have ql:=Lib.hid hb2
  have qr:=Lib.hid hb3
  clear hb1 hb2 hb3
  cases b2
  ·go_enter Tryz.func124,Tryz.ntmps124
   go_wp2_with (first|(go_at_call 139;refine (word_at _ _ hs qw.out).mono ?_;rintro e w' ⟨rfl,rfl⟩)|(go_at_call 140;refine (low_at _ _ ql.out).mono ?_;rintro e w' ⟨rfl,rfl⟩)|(go_at_call 102;refine (res_at _ _ qr.out).mono ?_;rintro e w' ⟨rfl,rfl⟩))
   go_ret
   exact ⟨ret_bool (by rw [HV.out];rfl),rfl⟩
  ·cases b3
   ·go_enter Tryz.func124,Tryz.ntmps124
    go_wp2_with (first|(go_at_call 139;refine (word_at _ _ hs qw.out).mono ?_;rintro e w' ⟨rfl,rfl⟩)|(go_at_call 140;refine (low_at _ _ ql.out).mono ?_;rintro e w' ⟨rfl,rfl⟩)|(go_at_call 102;refine (res_at _ _ qr.out).mono ?_;rintro e w' ⟨rfl,rfl⟩))
    go_ret
    exact ⟨ret_bool (by rw [HV.out];rfl),rfl⟩
   ·go_enter Tryz.func124,Tryz.ntmps124
    go_wp2_with (first|(go_at_call 139;refine (word_at _ _ hs qw.out).mono ?_;rintro e w' ⟨rfl,rfl⟩)|(go_at_call 140;refine (low_at _ _ ql.out).mono ?_;rintro e w' ⟨rfl,rfl⟩)|(go_at_call 102;refine (res_at _ _ qr.out).mono ?_;rintro e w' ⟨rfl,rfl⟩))
    go_ret
    exact ⟨ret_bool (by rw [HV.out];rfl),rfl⟩
set_option maxHeartbeats 1000000 in
theorem ref_right_at (s:ByteArray) (w:World) (hs:s.size≤9223372036854775807) {r:Bool} (hr:rightB s.data.toList=r) :
  Calls Tryz.prog 65 #[.string s] w fun e w'=>e=.returned (.bool r)∧w=w':=by
 subst hr
 obtain ⟨b1,hb1⟩:∃b,wordB s.data.toList=b:=⟨_,rfl⟩
 have qw:=Lib.hid hb1
 cases b1
 ·have HV:=Lib.hid (show rightB s.data.toList=false by unfold rightB;rw [hb1];rfl)
  clear hb1
  go_enter Tryz.func65,Tryz.ntmps65
  go_wp2_with (go_at_call 91;refine (ref_word_at _ _ hs qw.out).mono ?_;rintro e w' ⟨rfl,rfl⟩)
  go_ret
  exact ⟨ret_bool (by rw [HV.out]),rfl⟩
 ·have h0:=word_size hb1
  obtain ⟨b2,hb2⟩:∃b,lowB s[0]=b:=⟨_,rfl⟩
  obtain ⟨b3,hb3⟩:∃b,resB s.data.toList=b:=⟨_,rfl⟩
  have HV:=Lib.hid (show rightB s.data.toList=(b2 && !b3) by unfold rightB;rw [hb1,head_at h0,hb2,hb3];rfl)
  have ql:=Lib.hid hb2
  have qr:=Lib.hid hb3
  clear hb1 hb2 hb3
  cases b2
  ·go_enter Tryz.func65,Tryz.ntmps65
   go_wp2_with (first|(go_at_call 91;refine (ref_word_at _ _ hs qw.out).mono ?_;rintro e w' ⟨rfl,rfl⟩)|(go_at_call 92;refine (ref_low_at _ _ ql.out).mono ?_;rintro e w' ⟨rfl,rfl⟩)|(go_at_call 77;refine (ref_res_at _ _ qr.out).mono ?_;rintro e w' ⟨rfl,rfl⟩))
   go_ret
   exact ⟨ret_bool (by rw [HV.out];rfl),rfl⟩
  ·cases b3
   ·go_enter Tryz.func65,Tryz.ntmps65
    go_wp2_with (first|(go_at_call 91;refine (ref_word_at _ _ hs qw.out).mono ?_;rintro e w' ⟨rfl,rfl⟩)|(go_at_call 92;refine (ref_low_at _ _ ql.out).mono ?_;rintro e w' ⟨rfl,rfl⟩)|(go_at_call 77;refine (ref_res_at _ _ qr.out).mono ?_;rintro e w' ⟨rfl,rfl⟩))
    go_ret
    exact ⟨ret_bool (by rw [HV.out];rfl),rfl⟩
   ·go_enter Tryz.func65,Tryz.ntmps65
    go_wp2_with (first|(go_at_call 91;refine (ref_word_at _ _ hs qw.out).mono ?_;rintro e w' ⟨rfl,rfl⟩)|(go_at_call 92;refine (ref_low_at _ _ ql.out).mono ?_;rintro e w' ⟨rfl,rfl⟩)|(go_at_call 77;refine (ref_res_at _ _ qr.out).mono ?_;rintro e w' ⟨rfl,rfl⟩))
    go_ret
    exact ⟨ret_bool (by rw [HV.out];rfl),rfl⟩
set_option maxHeartbeats 1000000 in
theorem var_at (s:ByteArray) (w:World) (hs:s.size≤9223372036854775807) {r:Bool} (hr:varB s.data.toList=r) :
  Calls Tryz.prog 125 #[.string s] w fun e w'=>e=.returned (.bool r)∧w=w':=by
 subst hr
 obtain ⟨b1,hb1⟩:∃b,wordB s.data.toList=b:=⟨_,rfl⟩
 have qw:=Lib.hid hb1
 cases b1
 ·have HV:=Lib.hid (show varB s.data.toList=false by unfold varB;rw [hb1];rfl)
  clear hb1
  go_enter Tryz.func125,Tryz.ntmps125
  go_wp2_with (go_at_call 139;refine (word_at _ _ hs qw.out).mono ?_;rintro e w' ⟨rfl,rfl⟩)
  go_ret
  exact ⟨ret_bool (by rw [HV.out]),rfl⟩
 ·have h0:=word_size hb1
  obtain ⟨b2,hb2⟩:∃b,uppB s[0]=b:=⟨_,rfl⟩
  have HV:=Lib.hid (show varB s.data.toList=(b2||undB s[0]) by unfold varB;rw [hb1,head_at h0,hb2];rfl)
  have qu:=Lib.hid hb2
  clear hb1 hb2
  cases b2
  ·by_cases h4:s[0].toNat=95
   ·have h4':((s[0].toNat:Int)==95)=true:=by simp;omega
    have HU:=Lib.hid (show undB s[0]=true by simp only [undB,h4,decide_true])
    clear h4
    go_enter Tryz.func125,Tryz.ntmps125
    go_wp2_with (first|(go_at_call 139;refine (word_at _ _ hs qw.out).mono ?_;rintro e w' ⟨rfl,rfl⟩)|(go_at_call 141;refine (upp_at _ _ qu.out).mono ?_;rintro e w' ⟨rfl,rfl⟩))
    go_ret
    exact ⟨ret_bool (by rw [HV.out,HU.out];rfl),rfl⟩
   ·have h4':((s[0].toNat:Int)==95)=false:=by simp;omega
    have HU:=Lib.hid (show undB s[0]=false by simp only [undB,h4,decide_false])
    clear h4
    go_enter Tryz.func125,Tryz.ntmps125
    go_wp2_with (first|(go_at_call 139;refine (word_at _ _ hs qw.out).mono ?_;rintro e w' ⟨rfl,rfl⟩)|(go_at_call 141;refine (upp_at _ _ qu.out).mono ?_;rintro e w' ⟨rfl,rfl⟩))
    go_ret
    exact ⟨ret_bool (by rw [HV.out,HU.out];rfl),rfl⟩
  ·go_enter Tryz.func125,Tryz.ntmps125
   go_wp2_with (first|(go_at_call 139;refine (word_at _ _ hs qw.out).mono ?_;rintro e w' ⟨rfl,rfl⟩)|(go_at_call 141;refine (upp_at _ _ qu.out).mono ?_;rintro e w' ⟨rfl,rfl⟩))
   go_ret
   exact ⟨ret_bool (by rw [HV.out];rfl),rfl⟩
end Go.Proofs.YtaojnljppcnhjaaGreatDoor
namespace Go.Proofs.YtaojnljppcnhjaaGreatDoor
open Go.RowKit
theorem empty_iff (s:ByteArray):s.toList.isEmpty=decide (s.size=0):=by
 rw [raw_list,Bool.eq_iff_iff,List.isEmpty_iff,decide_eq_true_eq,← List.length_eq_zero_iff,len_str]
theorem plain_at (t:Tm) (w:World) (ht:t.args.length≤9223372036854775807) {r:Bool} (hr:plainB t=r) :
  Calls Tryz.prog 170 #[t.val] w fun e w'=>e=.returned (.bool r)∧Below w.heap.size w w':=by
 obtain ⟨k,n,s,A,c,a⟩:=t
 show Calls Tryz.prog 170 #[.agg #[.int .i64 k,.int .i64 n,.string s,.slice A a.length c]] w _
 have HR:=Lib.hid hr
 clear hr
 simp only [Tm.args] at ht
 obtain ⟨b1,hb1⟩:∃b,decide (s.size=0)=b:=⟨_,rfl⟩
 obtain ⟨b2,hb2⟩:∃b,decide (a.length=0)=b:=⟨_,rfl⟩
 have HV:=Lib.hid (show (b1&&b2)=r by rw [←hb1,← hb2];exact HR.out)
 have e1:s.toList.isEmpty=b1:=by rw [empty_iff,hb1]
 have e2:((a.length:Int)==0)=b2:=by rw [←hb2,Bool.eq_iff_iff];simp
 clear HR hb1 hb2
 cases b1
 ·clear e2
  go_enter Tryz.func170,Tryz.ntmps170
  go_wp2_with fail
  go_ret
  exact ⟨by rw [←HV.out];rfl,(Below.refl _ _).alloc (Nat.le_refl _) _⟩
 ·cases b2
  ·go_enter Tryz.func170,Tryz.ntmps170
   go_wp2_with fail
   go_ret
   exact ⟨by rw [←HV.out];rfl,(Below.refl _ _).alloc (Nat.le_refl _) _⟩
  ·go_enter Tryz.func170,Tryz.ntmps170
   go_wp2_with fail
   go_ret
   exact ⟨by rw [←HV.out];rfl,(Below.refl _ _).alloc (Nat.le_refl _) _⟩
theorem func_at (s:ByteArray) (n:Nat) (w:World) (hs:s.size≤9223372036854775807) (hn:n≤9223372036854775807) {r:Bool} (hr:funcB s.data.toList n=r) :
  Calls Tryz.prog 171 #[.string s,.int .i64 (n:Int)] w fun e w'=>e=.returned (.bool r)∧w=w':=by
 have HR:=Lib.hid hr
 clear hr
 obtain ⟨b1,hb1⟩:∃b,opB s.data.toList=b:=⟨_,rfl⟩
 have q1:=Lib.hid (op_at s w hb1)
 cases b1
 ·obtain ⟨b2,hb2⟩:∃b,rightB s.data.toList=b:=⟨_,rfl⟩
  have q2:=Lib.hid (right_at s w hs hb2)
  by_cases h6:n≤6
  ·have h6':(n:Int)≤6:=by omega
   have HV:=Lib.hid (show b2=r by rw [←HR.out];simp [funcB,hb1,hb2,h6])
   clear hb1 hb2 HR h6
   go_enter Tryz.func171,Tryz.ntmps171
   go_wp2_with fail
   refine q1.out.mono ?_
   rintro e w' ⟨rfl,rfl⟩
   go_wp2_with fail
   refine q2.out.mono ?_
   rintro e w' ⟨rfl,rfl⟩
   go_wp2_with fail
   go_ret
   exact ⟨by rw [←HV.out];rfl,rfl⟩
  ·have h6':decide ((n:Int)≤6)=false:=by simp;omega
   have HV:=Lib.hid (show false=r by rw [←HR.out];simp [funcB,hb1,h6])
   clear hb1 hb2 HR h6
   go_enter Tryz.func171,Tryz.ntmps171
   go_wp2_with fail
   refine q1.out.mono ?_
   rintro e w' ⟨rfl,rfl⟩
   go_wp2_with fail
   go_ret
   exact ⟨by rw [←HV.out];rfl,rfl⟩
 ·obtain ⟨b2,hb2⟩:∃b,((n:Int)==2)=b:=⟨_,rfl⟩
  have HV:=Lib.hid (show b2=r by rw [←HR.out,← hb2,Bool.eq_iff_iff];simp [funcB,hb1];omega)
  clear hb1 HR
  cases b2
  all_goals
   go_enter Tryz.func171,Tryz.ntmps171
   go_wp2_with fail
   refine q1.out.mono ?_
   rintro e w' ⟨rfl,rfl⟩
   go_wp2_with fail
   go_ret
   exact ⟨by rw [←HV.out];rfl,rfl⟩
end Go.Proofs.YtaojnljppcnhjaaGreatDoor
