/-
  Contract of extend of the program.
  What the statements lay of terms: slices of two and of three; three boxes.
  GreatAtoms and GreatGoals of the reference, of two constraints or goals that were just laid.
  What the statements lay of constraints and goals: two boxes; what the weight bounds.
  Contracts of Int, Var and Fun of the reference.
  Contracts of Int, Var and renamed of the program, and of leaves of the reference.
  Contracts of instance and instances of the program (at a list of bindings in ascending order).
-/
import Derived.Test.YtceekaodhmncgaaMl8x8
import Derived.Test.YtceekaodhmncgaaMl8x6
import Derived.Test.YtceekaodhmncgaaMl8x5
import Derived.Test.YtceekaodhmncgaaMl8x2
import Derived.Test.YtceekaodhmncgaaMl8x4
import Derived.Test.YtceekaodhmncgaaMl8x7
namespace Go.Proofs.Ytceekaodhmncgaa
open Go.RowKit Go.Maps

/-- What extend hands out: a list of its own, that holds what is wanted. -/
def ExtR (r : List Bd) (w : World) (e : Ending) (w' : World) : Prop :=
  ∃ A q, ∃ l : List Bd, e = .returned (.slice A l.length q) ∧ stripB l = stripB r ∧ BLst w' A l q ∧ Below w.heap.size w w'
/-- What slices.Sorted hands out at the keys of what is new. -/
def KeysR (N : List Bd) (w : World) (e : Ending) (w' : World) : Prop :=
  ∃ A c, e = .returned (.slice A N.length c) ∧ Rest w' N A c (sortB N) ∧ Below w.heap.size w w'
def slen : Value → Nat
  | .slice _ n _ => n
  | _ => 0
def KEYS (b : Nat) : Value := .func (.func 81) #[] #[.pointer (some ⟨b, 0, none⟩)]

set_option maxHeartbeats 8000000 in
set_option maxRecDepth 100000 in
theorem extend_at {w0 W : World} {M : Nat} {zk : Kb} {N env : List Bd} {E : Option Addr} {ce : Nat} (hS : Mst w0 M zk N W) (hE : BLst w0 E env ce) (hnE : ∀ x ∈ env, x.tm.nodes ≤ 1000000) (hle : env.length ≤ 1000000) (hlN : N.length ≤ 1000000) (hN : New env N)
    (Q1 : ∀ m W', Below W.heap.size W W' → W'.cell? ⟨M, 1, none⟩ = some m → Calls Try.prog 69 #[m] W' fun e w' => e = .returned (KEYS W'.heap.size) ∧ w' = W'.alloc (.cells #[m] 74))
    (Q2 : ∀ m W', Below W.heap.size W W' → W'.cell? ⟨M, 1, none⟩ = some m → Calls Try.prog 68 #[KEYS W'.heap.size] (W'.alloc (.cells #[m] 74)) (KeysR N (W'.alloc (.cells #[m] 74)))) :
    Calls Try.prog 50 #[.pointer (some ⟨M, 0, none⟩), .slice E env.length ce] W (ExtR (insAll env N) W) := by
  obtain ⟨i0, hi, hz0, hz1, hz2⟩ := info_parts bind_info
  obtain ⟨m, hm⟩ : ∃ m, W.cell? ⟨M, 1, none⟩ = some m := by
    rcases hS.mp with ⟨_, h⟩ | ⟨mb, _, h, _⟩ <;> exact ⟨_, h⟩
  have hlt := hS.lt
  have HS := Lib.hid hS
  have HE := Lib.hid hE
  have HNE := Lib.hid hnE
  have HG := Lib.hid (show insAll env N = [] ++ mrg (env.drop 0) (sortB N) from by rw [List.drop_zero, List.nil_append, insAll_sort hN.dis])
  have HL := Lib.hid (show (sortB N).length = N.length from (sortB_perm N).length_eq)
  have Q1' := Q1 m W (Below.refl _ _) hm
  have Q2' := Lib.hid (Q2 m W (Below.refl _ _) hm)
  unfold KEYS at Q1' Q2'
  have HQ1 := Lib.hid Q1'
  clear hS hE hnE hN Q1 Q2 Q1'
  have HGL := Lib.hid (show (insAll env N).length ≤ 2000000 by rw [insAll_len]; omega)
  generalize insAll env N = G at *
  generalize hs0 : sortB N = R0 at *
  have HR0 := Lib.hid hs0
  clear hs0
  go_enter Try.func50, Try.ntmps50
  go_wp2_with fail
  refine (HQ1.out).mono ?_
  rintro e w2 ⟨rfl, rfl⟩
  go_wp2_with fail
  refine (Q2'.out).mono ?_
  rintro e w1 ⟨Ai, ci, rfl, hR, hb⟩
  have HB := Lib.hid ((below1 W _).trans (hb.mono (by simp)))
  have HR := Lib.hid hR
  clear hb hR HQ1 Q2'
  obtain ⟨w2, hrun, hown, hgr⟩ := run_make_own (P := Try.prog) w1 w1.heap.size 22 55 i0 _ 5 Try.underlying22 hi hz0 hz1 .i64 .i64 (env.length + N.length) (by rw [hz2]; omega) (by unfold maxLen; omega) (Nat.le_refl _)
  have HW2 := Lib.hid (show Exting w1 G (env.drop 0) R0 (.slice (some ⟨w1.heap.size, 0, none⟩) 0 (env.length + N.length)) w2 [] from ⟨⟨hown, fun x hx => by cases hx⟩, ⟨[], rfl, HG.out⟩, (Below.refl _ w1).grown hgr (Nat.le_refl _) (fun k hk => by cases hk)⟩)
  have hrun2 := hrun
  rw [Int.natCast_add] at hrun2
  have HB0 := Lib.hid (HS.out.be.trans (HB.out.mono HS.out.be.size))
  have HQB := Lib.hid (fun W' (h : Below w1.heap.size w1 W') (s : Bd) (hl : look N s.var = some s.tm) => binding_at ((HS.out.below HB.out).below h) hl)
  clear hown hgr HG
  go_wp2_with fail
  go_loopw [5, 6, 25] (fun a z i wr => ∃ (j : Nat) (A : Option Addr) (c : Nat) (R acc : List Bd) (x : Value), j ≤ env.length ∧ i = .int .i64 j ∧ a = .slice A R.length c ∧ z = x ∧ Hid (Exting w1 G (env.drop j) R x wr acc ∧ Rest w1 N A c R)) (fun _ _ i _ => env.length - (intOf i).toNat)
  case atStart => exact ⟨0, Ai, ci, R0, [], _, Nat.zero_le _, rfl, by rw [HL.out], rfl, Lib.hid ⟨HW2.out, by have := HR.out; rwa [HR0.out] at this⟩⟩
  case round =>
    clear HW2 HR hrun hrun2
    obtain ⟨j, A, c, R, acc, z, hj, rfl, rfl, h3, HK⟩ := hrel
    have h3' := h3.symm
    clear h3
    subst h3'
    by_cases hlt' : j < env.length
    · have hw := HB0.out.trans (HK.out.1.below.mono HB0.out.size)
      obtain ⟨b0, o, rfl, ⟨c0, c1, c2, c3, c4⟩, hf, hx⟩ := (HE.out.below hw).get hlt'
      have hnx := HNE.out _ (bgetD_mem hlt')
      have hx1 := ((HE.out.below HB0.out).mem (bgetD_mem hlt')).2
      have HT := Lib.hid (bdrop_next hlt')
      generalize env.getD j default = x at *
      have hxz := World.block_lt_of_cell? _ _ c0
      have QX := Lib.hid (fun W (h : Below w1.heap.size w1 W) => copy_at x.tm W (hx1.below h) hnx)
      have HX := Lib.hid hf
      obtain ⟨v, xt⟩ := x
      simp only at HX QX
      have HKT := Lib.hid (show Exting w1 G (⟨v, xt⟩ :: env.drop (j + 1)) R z (wr.alloc (boxB ⟨v, xt⟩)) acc ∧ Rest w1 N A c R ∧ Stays5 w1 wr.heap.size ⟨v, xt⟩ z (wr.alloc (boxB ⟨v, xt⟩)) from
        ⟨by have := HK.out.1.keep (below1 wr (boxB ⟨v, xt⟩)); rwa [HT.out] at this, HK.out.2, HK.out.1.below.size, by simp, fun e => by have := (own_lt HK.out.1.row.1 _ e).2; omega, fun j u hu => by
          have := bnews1 wr ⟨v, xt⟩ j u hu
          rwa [add_plain, Nat.zero_add] at this⟩)
      clear hw hx hx1 hnx hf HK
      obtain ⟨k', n', s', A', c', a'⟩ := xt
      simp only [Tm.kind, Tm.num, Tm.name, Tm.at_, Tm.args, Tm.cap] at c0 c1 c2 c3 c4
      go_wp2_with fail
      go_loopw [5, 6] (fun a z W' => ∃ (A : Option Addr) (c : Nat) (R acc : List Bd) (x : Value), a = .slice A R.length c ∧ z = x ∧ Hid (Exting w1 G (⟨v, .mk k' n' s' A' c' a'⟩ :: env.drop (j + 1)) R x W' acc ∧ Rest w1 N A c R ∧ Stays5 w1 wr.heap.size ⟨v, .mk k' n' s' A' c' a'⟩ x W')) (fun a _ _ => slen a)
      case atStart => exact ⟨A, c, R, acc, _, rfl, rfl, HKT⟩
      case round =>
        clear HKT
        rename World => wb
        obtain ⟨A, c, R, acc, z, rfl, h3, HK⟩ := hrel
        have h3' := h3.symm
        clear h3
        subst h3'
        obtain ⟨zA, zc, rfl, hzc, _⟩ := HK.out.1.row.form
        have d0 := HK.out.2.2.c 0 _ rfl
        have d1 := HK.out.2.2.c 1 _ rfl
        have d2 := HK.out.2.2.c 2 _ rfl
        have d3 := HK.out.2.2.c 3 _ rfl
        have d4 := HK.out.2.2.c 4 _ rfl
        simp only [Tm.kind, Tm.num, Tm.name, Tm.at_, Tm.args, Tm.cap] at d0 d1 d2 d3 d4
        have hal : acc.length ≤ 2000000 := by have := HK.out.1.len; have := HGL.out; simp only [List.length_cons] at *; omega
        have hwz := HK.out.1.below.size
        cases R with
        | nil =>
          simp only [List.length_nil]
          have HD := Lib.hid (show Exting w1 G (⟨v, .mk k' n' s' A' c' a'⟩ :: env.drop (j + 1)) ([]) (.slice zA acc.length zc) wb.drew acc ∧ Stays5 w1 wr.heap.size ⟨v, .mk k' n' s' A' c' a'⟩ (.slice zA acc.length zc) wb.drew from ⟨HK.out.1.keep (Below.refl _ _).drew, HK.out.2.2.below (Below.refl _ _).drew⟩)
          have HRest := Lib.hid HK.out.2.1
          have HNX := Lib.hid (fun (y : Bd) (hy : y.strip = (⟨v, .mk k' n' s' A' c' a'⟩ : Bd).strip) => Exting.old HK.out.1.same hy (.inl rfl))
          go_wp2_with fail
          go_region
          clear HK d0 d1 d2 d3 d4
          generalize wb.drew = wd at *
          have hwz2 := HD.out.1.below.size
          have d0 := HD.out.2.c 0 _ rfl
          have d1 := HD.out.2.c 1 _ rfl
          have d2 := HD.out.2.c 2 _ rfl
          have d3 := HD.out.2.c 3 _ rfl
          have d4 := HD.out.2.c 4 _ rfl
          simp only [Tm.kind, Tm.num, Tm.name, Tm.at_, Tm.args, Tm.cap] at d0 d1 d2 d3 d4
          go_wp2_with fail
          go_region_law (first
            | (go_simp; go_at_call 61; refine (QX.out _ (by first | exact HD.out.1.below | exact HD.out.1.below.drew)).mono ?_; rintro e w8 ⟨y, rfl, hy, hlie, hb8⟩; have hb9 := undrew hb8; have x0 := keepv hb9 d0; have OW := Lib.hid (HD.out.1.keep hb9); have HY := Lib.hid (HNX.out ⟨v, y⟩ (by simp only [Bd.strip]; rw [hy])); have HLI := Lib.hid (lie_apart HD.out.1.row.1 hlie (by have := HD.out.1.below.size; first | exact this | simpa using this) (by simp)); have hm8 := hb9.size; clear hy hlie hb8 hb9; obtain ⟨k2, n2, s2, A2, p2, a2⟩ := y)
            | (refine step_append_lies _ (by rfl) _ _ _ (by rfl) w1.heap.size 55 i0 _ 5 64 Try.underlying22 hi hz0 hz1 hz2 rfl (by omega) (.slice zA acc.length zc) acc.length (bcells acc) (by rfl) (OW.out.row.1.alloc _) ⟨w8.heap.size, 0, none⟩ 1 1 [.int .i64 v, .int .i64 k2, .int .i64 n2, .string s2, .slice A2 a2.length p2] (by rfl) (by rfl) (World.news_of_block (cs := #[.int .i64 v, .int .i64 k2, .int .i64 n2, .string s2, .slice A2 a2.length p2]) (t := 55) (fr := (0, 0)) (heap_alloc_new w8 _)) (by simp [Value.oneCell']) (by omega) (by unfold maxLen; omega) (by omega) (by simp; omega) (w8.heap.size + 1) (by simp) ?_; intro g cp w9 hown hgrow hat hgl))
          all_goals
            have HD9 := Lib.hid (Exting.mk (OW.out.row.next (u := ⟨v, .mk k2 n2 s2 A2 p2 a2⟩) HX.out HLI.out (below1 w8 _) hown hgrow (by rcases hat with h | h; exact .inl h; exact .inr (by rw [h]; simp))) HY.out ((OW.out.below.alloc OW.out.below.size _).grown hgrow (by simp; omega) (fun k hk => (own_lt OW.out.row.1 k hk).1)))
            clear hown hgrow hat hgl OW HLI HY HD
            go_wp2_with fail
            go_roundw
            case rel => exact ⟨j + 1, A, c, [], acc ++ [⟨v, .mk k2 n2 s2 A2 p2 a2⟩], _, by omega, by go_num, rfl, rfl, Lib.hid ⟨HD9.out, HRest.out⟩⟩
            case measure => simp [intOf]; omega
        | cons s S =>
          obtain ⟨b5, o5, rfl, e0, hls, hfs⟩ := HK.out.2.1.head
          have g0 := keepv HK.out.1.below e0
          have hcl := HK.out.2.1.1
          have hsl : S.length + acc.length ≤ 2000000 := by have := HK.out.1.len; have := HGL.out; simp only [List.length_cons] at *; omega
          have HLS := Lib.hid hls
          have HFS := Lib.hid hfs
          simp only [List.length_cons] at hcl ⊢
          have sp : decide ((0 : Nat) < S.length + 1) = true := by simp
          clear hls hfs e0
          by_cases hq : s.var < v
          · have sq : decide (s.var < v) = true := by simpa using hq
            have HD := Lib.hid (show Exting w1 G (⟨v, .mk k' n' s' A' c' a'⟩ :: env.drop (j + 1)) (s :: S) (.slice zA acc.length zc) wb.drew acc ∧ Stays5 w1 wr.heap.size ⟨v, .mk k' n' s' A' c' a'⟩ (.slice zA acc.length zc) wb.drew from ⟨HK.out.1.keep (Below.refl _ _).drew, HK.out.2.2.below (Below.refl _ _).drew⟩)
            have HRest := Lib.hid HK.out.2.1
            have HNX := Lib.hid (fun (y : Bd) (hy : y.strip = s.strip) => Exting.new HK.out.1.same hy hq)
            clear hq
            go_wp2_with fail
            go_region
            have g1 := keepv (Below.refl _ wb).drew g0
            clear HK d0 d1 d2 d3 d4 g0
            generalize wb.drew = wd at *
            have hwz2 := HD.out.1.below.size
            have Q7 := Lib.hid (HQB.out wd HD.out.1.below s HLS.out)
            obtain ⟨sv, st⟩ := s
            simp only at Q7 HFS g1 sq HNX
            go_wp2_with fail
            refine (Q7.out).mono ?_
            rintro e w8 ⟨y, rfl, hy, hlie, hb8⟩
            have OW := Lib.hid (HD.out.1.keep hb8)
            have OS := Lib.hid (HD.out.2.below hb8)
            have HY := Lib.hid (HNX.out y hy)
            have hFy : Fits y.var := by have : y.var = sv := congrArg Bd.var hy; rw [this]; exact HFS.out
            have HLI := Lib.hid (lie_apart HD.out.1.row.1 hlie (by have := HD.out.1.below.size; exact this) (Nat.le_refl _))
            have hm8 := hb8.size
            clear hy hlie hb8 HD Q7
            obtain ⟨yv, yk, yn, ys, yA, yc, ya⟩ := y
            go_wp2_with (at_builtin; refine wpList_append_lies _ rfl _ _ 22 rfl w1.heap.size 55 i0 _ 5 64 Try.underlying22 hi hz0 hz1 hz2 rfl (by decide) _ acc.length (bcells acc) rfl (OW.out.row.1.alloc _) ⟨w8.heap.size, 0, none⟩ 1 1 (Bd.cells ⟨yv, .mk yk yn ys yA yc ya⟩) rfl rfl (bnews1 w8 ⟨yv, .mk yk yn ys yA yc ya⟩) (bcells_one _) (by decide) (by unfold maxLen; omega) (by omega) (by simp; omega) _ rfl ?_; intro g cap w9 hown hgrow hat hgl)
            have HD9 := Lib.hid (Exting.mk (OW.out.row.next (u := ⟨yv, .mk yk yn ys yA yc ya⟩) hFy HLI.out (below1 w8 _) hown hgrow hat) HY.out ((OW.out.below.alloc OW.out.below.size _).grown hgrow (by simp; omega) (fun k hk => (own_lt OW.out.row.1 k hk).1)))
            have HS9 := Lib.hid ((OS.out.below (below1 w8 _)).grown (g := g) (cap := cap) (n := acc.length + 1) hgrow hat)
            clear hown hgrow hat hgl OW OS HLI HY HNX hFy
            refine ⟨⟨_, c - 1, S, acc ++ [⟨yv, .mk yk yn ys yA yc ya⟩], _, rfl, rfl, Lib.hid ⟨HD9.out, ?_, HS9.out⟩⟩, by simp [slen]⟩
            split
            · rename_i hc1
              subst hc1
              exact HRest.out.last.2
            · exact HRest.out.tail
          · have sq : decide (s.var < v) = false := by simpa using hq
            have HQ := Lib.hid hq
            clear hq
            have HD := Lib.hid (show Exting w1 G (⟨v, .mk k' n' s' A' c' a'⟩ :: env.drop (j + 1)) (s :: S) (.slice zA acc.length zc) wb.drew acc ∧ Stays5 w1 wr.heap.size ⟨v, .mk k' n' s' A' c' a'⟩ (.slice zA acc.length zc) wb.drew from ⟨HK.out.1.keep (Below.refl _ _).drew, HK.out.2.2.below (Below.refl _ _).drew⟩)
            have HRest := Lib.hid HK.out.2.1
            have HNX := Lib.hid (fun (y : Bd) (hy : y.strip = (⟨v, .mk k' n' s' A' c' a'⟩ : Bd).strip) => Exting.old HK.out.1.same hy (.inr ⟨s, S, rfl, HQ.out⟩))
            go_wp2_with fail
            go_region
            clear HK d0 d1 d2 d3 d4
            generalize wb.drew = wd at *
            have hwz2 := HD.out.1.below.size
            have d0 := HD.out.2.c 0 _ rfl
            have d1 := HD.out.2.c 1 _ rfl
            have d2 := HD.out.2.c 2 _ rfl
            have d3 := HD.out.2.c 3 _ rfl
            have d4 := HD.out.2.c 4 _ rfl
            simp only [Tm.kind, Tm.num, Tm.name, Tm.at_, Tm.args, Tm.cap] at d0 d1 d2 d3 d4
            go_wp2_with fail
            go_region_law (first
              | (go_simp; go_at_call 61; refine (QX.out _ (by first | exact HD.out.1.below | exact HD.out.1.below.drew)).mono ?_; rintro e w8 ⟨y, rfl, hy, hlie, hb8⟩; have hb9 := undrew hb8; have x0 := keepv hb9 d0; have OW := Lib.hid (HD.out.1.keep hb9); have HY := Lib.hid (HNX.out ⟨v, y⟩ (by simp only [Bd.strip]; rw [hy])); have HLI := Lib.hid (lie_apart HD.out.1.row.1 hlie (by have := HD.out.1.below.size; first | exact this | simpa using this) (by simp)); have hm8 := hb9.size; clear hy hlie hb8 hb9; obtain ⟨k2, n2, s2, A2, p2, a2⟩ := y)
              | (refine step_append_lies _ (by rfl) _ _ _ (by rfl) w1.heap.size 55 i0 _ 5 64 Try.underlying22 hi hz0 hz1 hz2 rfl (by omega) (.slice zA acc.length zc) acc.length (bcells acc) (by rfl) (OW.out.row.1.alloc _) ⟨w8.heap.size, 0, none⟩ 1 1 [.int .i64 v, .int .i64 k2, .int .i64 n2, .string s2, .slice A2 a2.length p2] (by rfl) (by rfl) (World.news_of_block (cs := #[.int .i64 v, .int .i64 k2, .int .i64 n2, .string s2, .slice A2 a2.length p2]) (t := 55) (fr := (0, 0)) (heap_alloc_new w8 _)) (by simp [Value.oneCell']) (by omega) (by unfold maxLen; omega) (by omega) (by simp; omega) (w8.heap.size + 1) (by simp) ?_; intro g cp w9 hown hgrow hat hgl))
            all_goals
              have HD9 := Lib.hid (Exting.mk (OW.out.row.next (u := ⟨v, .mk k2 n2 s2 A2 p2 a2⟩) HX.out HLI.out (below1 w8 _) hown hgrow (by rcases hat with h | h; exact .inl h; exact .inr (by rw [h]; simp))) HY.out ((OW.out.below.alloc OW.out.below.size _).grown hgrow (by simp; omega) (fun k hk => (own_lt OW.out.row.1 k hk).1)))
              clear hown hgrow hat hgl OW HLI HY HD
              go_wp2_with fail
              go_roundw
              case rel => exact ⟨j + 1, _, c, s :: S, acc ++ [⟨v, .mk k2 n2 s2 A2 p2 a2⟩], _, by omega, by go_num, rfl, rfl, Lib.hid ⟨HD9.out, HRest.out⟩⟩
              case measure => simp [intOf]; omega
    · obtain rfl : j = env.length := by omega
      have hK := HK.out
      rw [List.drop_length] at hK
      have HK2 := Lib.hid (show Exting w1 G [] (R.drop 0) z wr acc from hK.1)
      have HRest := Lib.hid hK.2
      have hrl : R.length ≤ 2000000 := by have := hK.1.len; have := HGL.out; omega
      clear hK HK hlt'
      go_wp2_with fail
      go_loopw [6, 62] (fun z i wr => ∃ (j : Nat) (acc : List Bd) (x : Value), j ≤ R.length ∧ i = .int .i64 j ∧ z = x ∧ Hid (Exting w1 G [] (R.drop j) x wr acc)) (fun _ i _ => R.length - (intOf i).toNat)
      case atStart => exact ⟨0, acc, _, Nat.zero_le _, rfl, rfl, HK2⟩
      case round =>
        clear HK2
        rename World => wb
        obtain ⟨j, acc, z, hj, rfl, h3, HK⟩ := hrel
        have h3' := h3.symm
        clear h3
        subst h3'
        obtain ⟨zA, zc, rfl, hzc, _⟩ := HK.out.row.form
        have hwz := HK.out.below.size
        by_cases hlt' : j < R.length
        · have hsl : acc.length ≤ 2000000 := by have := HK.out.len; have := HGL.out; omega
          obtain ⟨b5, o5, rfl, e0⟩ := HRest.out.2.2.1.get (i := j) (by rw [varsOf_len]; exact hlt')
          have g0 := keepv HK.out.below e0
          have HT := Lib.hid (bdrop_next hlt')
          have hm := HRest.out.2.2.2 _ (bgetD_mem hlt')
          rw [show (varsOf R).getD j 0 = (R.getD j default).var by simp [varsOf, List.getD, hlt']] at g0
          have HK3 := Lib.hid (show Exting w1 G [] (R.getD j default :: R.drop (j + 1)) (.slice zA acc.length zc) wb acc from by have := HK.out; rwa [HT.out] at this)
          have HNX := Lib.hid (fun (y : Bd) (hy : y.strip = (R.getD j default).strip) => Exting.more HK3.out.same hy)
          have Q7 := Lib.hid (HQB.out wb HK.out.below (R.getD j default) hm.1)
          have HFS := Lib.hid hm.2
          clear hm e0 HK HT
          generalize R.getD j default = s at *
          obtain ⟨sv, st⟩ := s
          simp only at Q7 HFS g0 HNX
          go_wp2_with fail
          refine (Q7.out).mono ?_
          rintro e w8 ⟨y, rfl, hy, hlie, hb8⟩
          have OW := Lib.hid (HK3.out.keep hb8)
          have HY := Lib.hid (HNX.out y hy)
          have hFy : Fits y.var := by have : y.var = sv := congrArg Bd.var hy; rw [this]; exact HFS.out
          have HLI := Lib.hid (lie_apart HK3.out.row.1 hlie (by have := HK3.out.below.size; exact this) (Nat.le_refl _))
          have hm8 := hb8.size
          clear hy hlie hb8 HK3 Q7
          obtain ⟨yv, yk, yn, ys, yA, yc, ya⟩ := y
          go_wp2_with (at_builtin; refine wpList_append_lies _ rfl _ _ 22 rfl w1.heap.size 55 i0 _ 5 64 Try.underlying22 hi hz0 hz1 hz2 rfl (by decide) _ acc.length (bcells acc) rfl (OW.out.row.1.alloc _) ⟨w8.heap.size, 0, none⟩ 1 1 (Bd.cells ⟨yv, .mk yk yn ys yA yc ya⟩) rfl rfl (bnews1 w8 ⟨yv, .mk yk yn ys yA yc ya⟩) (bcells_one _) (by decide) (by unfold maxLen; omega) (by omega) (by simp; omega) _ rfl ?_; intro g cap w9 hown hgrow hat hgl)
          have HD9 := Lib.hid (Exting.mk (OW.out.row.next (u := ⟨yv, .mk yk yn ys yA yc ya⟩) hFy HLI.out (below1 w8 _) hown hgrow hat) HY.out ((OW.out.below.alloc OW.out.below.size _).grown hgrow (by simp; omega) (fun k hk => (own_lt OW.out.row.1 k hk).1)))
          clear hown hgrow hat hgl OW HLI HY HNX hFy
          go_wp2_with fail
          go_roundw
          case rel => exact ⟨j + 1, acc ++ [⟨yv, .mk yk yn ys yA yc ya⟩], _, by omega, by go_num, rfl, HD9⟩
          case measure => simp [intOf]; omega
        · obtain rfl : j = R.length := by omega
          have hK := HK.out
          rw [List.drop_length] at hK
          have HKE := Lib.hid hK
          clear hK HK hlt'
          go_wp2_with fail
          go_ret
          obtain ⟨P, h1, h2⟩ := HKE.out.same
          exact ⟨zA, zc, acc, rfl, by rw [h1, h2]; simp [mrg], HKE.out.row.blst trivial, HB.out.trans (HKE.out.below.mono HB.out.size)⟩
end Go.Proofs.Ytceekaodhmncgaa
namespace Go.Proofs.Ytceekaodhmncgaa
open Go.ChangeShapes Go.WideShapes Go.ChangeAt Go.RowKit

theorem row_two {w : World} (t u : Tm) (ht : t.At w) (hu : u.At w) : RowAt (w.alloc (.cells #[.int .i64 t.kind, .int .i64 t.num, .string t.name, .slice t.at_ t.args.length t.cap, .int .i64 u.kind, .int .i64 u.num, .string u.name, .slice u.at_ u.args.length u.cap] 25)) [t, u] w.heap.size 0 := by
  have hc : ∀ j v, (#[.int .i64 t.kind, .int .i64 t.num, .string t.name, .slice t.at_ t.args.length t.cap, .int .i64 u.kind, .int .i64 u.num, .string u.name, .slice u.at_ u.args.length u.cap] : Array Value)[j]? = some v →
      (w.alloc (.cells #[.int .i64 t.kind, .int .i64 t.num, .string t.name, .slice t.at_ t.args.length t.cap, .int .i64 u.kind, .int .i64 u.num, .string u.name, .slice u.at_ u.args.length u.cap] 25)).cell? ⟨w.heap.size, j, none⟩ = some v := fun j v hv => by
    rw [World.cell?_alloc_at _ _ _ _ rfl, hv]
  simp only [RowAt]
  exact ⟨⟨hc 0 _ rfl, hc 1 _ rfl, hc 2 _ rfl, hc 3 _ rfl⟩, ht.alloc _, ⟨hc 4 _ rfl, hc 5 _ rfl, hc 6 _ rfl, hc 7 _ rfl⟩, hu.alloc _, trivial⟩
theorem row_three {w : World} (t u v : Tm) (ht : t.At w) (hu : u.At w) (hv : v.At w) : RowAt (w.alloc (.cells #[.int .i64 t.kind, .int .i64 t.num, .string t.name, .slice t.at_ t.args.length t.cap, .int .i64 u.kind, .int .i64 u.num, .string u.name, .slice u.at_ u.args.length u.cap, .int .i64 v.kind, .int .i64 v.num, .string v.name, .slice v.at_ v.args.length v.cap] 25)) [t, u, v] w.heap.size 0 := by
  have hc : ∀ j x, (#[.int .i64 t.kind, .int .i64 t.num, .string t.name, .slice t.at_ t.args.length t.cap, .int .i64 u.kind, .int .i64 u.num, .string u.name, .slice u.at_ u.args.length u.cap, .int .i64 v.kind, .int .i64 v.num, .string v.name, .slice v.at_ v.args.length v.cap] : Array Value)[j]? = some x →
      (w.alloc (.cells #[.int .i64 t.kind, .int .i64 t.num, .string t.name, .slice t.at_ t.args.length t.cap, .int .i64 u.kind, .int .i64 u.num, .string u.name, .slice u.at_ u.args.length u.cap, .int .i64 v.kind, .int .i64 v.num, .string v.name, .slice v.at_ v.args.length v.cap] 25)).cell? ⟨w.heap.size, j, none⟩ = some x := fun j x hx => by
    rw [World.cell?_alloc_at _ _ _ _ rfl, hx]
  simp only [RowAt]
  exact ⟨⟨hc 0 _ rfl, hc 1 _ rfl, hc 2 _ rfl, hc 3 _ rfl⟩, ht.alloc _, ⟨hc 4 _ rfl, hc 5 _ rfl, hc 6 _ rfl, hc 7 _ rfl⟩, hu.alloc _, ⟨hc 8 _ rfl, hc 9 _ rfl, hc 10 _ rfl, hc 11 _ rfl⟩, hv.alloc _, trivial⟩

theorem great_two (t u : Tm) (most : Int) (W : World) (b : Nat) (hb : b = W.heap.size) (ht : t.At W) (hu : u.At W) (h1 : 0 ≤ most) (h2 : most ≤ 1000000) {r : Bool} (hr : decide (weigh [t, u] most 64 < 0) = r) :
    Calls Try.prog 10 #[.slice (some ⟨b, 0, none⟩) 2 2, .int .i64 most] (W.alloc (.cells #[.int .i64 t.kind, .int .i64 t.num, .string t.name, .slice t.at_ t.args.length t.cap, .int .i64 u.kind, .int .i64 u.num, .string u.name, .slice u.at_ u.args.length u.cap] 25)) fun e w' => e = .returned (.bool r) ∧ Below W.heap.size W w' := by
  subst hb
  exact (great_below [t, u] _ 2 most _ (Lst.of_row (row_two t u ht hu) (by simp)) h1 h2 hr).mono fun e w' ⟨he, h⟩ => ⟨he, (below1 _ _).trans (h.mono (below1 _ _).size)⟩
theorem great_three (t u v : Tm) (most : Int) (W : World) (b : Nat) (hb : b = W.heap.size) (ht : t.At W) (hu : u.At W) (hv : v.At W) (h1 : 0 ≤ most) (h2 : most ≤ 1000000) {r : Bool} (hr : decide (weigh [t, u, v] most 64 < 0) = r) :
    Calls Try.prog 10 #[.slice (some ⟨b, 0, none⟩) 3 3, .int .i64 most] (W.alloc (.cells #[.int .i64 t.kind, .int .i64 t.num, .string t.name, .slice t.at_ t.args.length t.cap, .int .i64 u.kind, .int .i64 u.num, .string u.name, .slice u.at_ u.args.length u.cap, .int .i64 v.kind, .int .i64 v.num, .string v.name, .slice v.at_ v.args.length v.cap] 25)) fun e w' => e = .returned (.bool r) ∧ Below W.heap.size W w' := by
  subst hb
  exact (great_below [t, u, v] _ 3 most _ (Lst.of_row (row_three t u v ht hu hv) (by simp)) h1 h2 hr).mono fun e w' ⟨he, h⟩ => ⟨he, (below1 _ _).trans (h.mono (below1 _ _).size)⟩

/-- Three boxes, behind a call. -/
theorem below3 (w : World) (o p q : Obj) : Below w.heap.size w (((w.alloc o).alloc p).alloc q) := (below2 w o p).trans ((below1 _ q).mono (below2 w o p).size)
theorem box12 {w w' : World} {v0 v1 v2 v3 u0 u1 u2 u3 x0 x1 x2 x3 : Value} {T : TypeId}
    (hb : Below (((w.alloc (.cells #[v0, v1, v2, v3] T)).alloc (.cells #[u0, u1, u2, u3] T)).alloc (.cells #[x0, x1, x2, x3] T)).heap.size (((w.alloc (.cells #[v0, v1, v2, v3] T)).alloc (.cells #[u0, u1, u2, u3] T)).alloc (.cells #[x0, x1, x2, x3] T)) w') :
    (w'.cell? ⟨w.heap.size, 0, none⟩ = some v0 ∧ w'.cell? ⟨w.heap.size, 1, none⟩ = some v1 ∧ w'.cell? ⟨w.heap.size, 2, none⟩ = some v2 ∧ w'.cell? ⟨w.heap.size, 3, none⟩ = some v3) ∧
    (w'.cell? ⟨w.heap.size + 1, 0, none⟩ = some u0 ∧ w'.cell? ⟨w.heap.size + 1, 1, none⟩ = some u1 ∧ w'.cell? ⟨w.heap.size + 1, 2, none⟩ = some u2 ∧ w'.cell? ⟨w.heap.size + 1, 3, none⟩ = some u3) ∧
    (w'.cell? ⟨w.heap.size + 1 + 1, 0, none⟩ = some x0 ∧ w'.cell? ⟨w.heap.size + 1 + 1, 1, none⟩ = some x1 ∧ w'.cell? ⟨w.heap.size + 1 + 1, 2, none⟩ = some x2 ∧ w'.cell? ⟨w.heap.size + 1 + 1, 3, none⟩ = some x3) ∧ Below w.heap.size w w' := by
  obtain ⟨h1, h2, h3⟩ := box8 ((below1 _ _).trans (hb.mono (below1 _ _).size))
  obtain ⟨d0, d1, d2, d3, _⟩ := box4 hb
  have e : ((w.alloc (.cells #[v0, v1, v2, v3] T)).alloc (.cells #[u0, u1, u2, u3] T)).heap.size = w.heap.size + 1 + 1 := by simp
  rw [e] at d0 d1 d2 d3
  exact ⟨h1, h2, ⟨d0, d1, d2, d3⟩, h3⟩
theorem keepc {w w' : World} (hb : Below w.heap.size w w') {p : Addr} {v : Value} (h : w.cell? p = some v) : w'.cell? p = some v := by
  rw [hb.cell (block_lt_of_cell h)]; exact h
end Go.Proofs.Ytceekaodhmncgaa
namespace Go.Proofs.Ytceekaodhmncgaa
open Go.ChangeShapes Go.WideShapes Go.ChangeAt Go.RowKit
set_option linter.unusedVariables false

def weighN (s : ByteArray) (l : List Tm) (m : Int) : Int := if m < 0 then m else weigh l (m - 1 - (s.size : Int) / 8) 64
theorem weigh64 (l : List Tm) (A : Option Addr) (c : Nat) (left : Int) (w : World) (h : Lst w A l c) (h1 : -4611686018427387904 ≤ left) (h2 : left ≤ 1000000) :
    Calls Try.prog 31 #[.slice A l.length c, .int .i64 left, .int .i64 64] w fun e w' => e = .returned (.int .i64 (weigh l left 64)) ∧ ∃ n, w' = w.drewN n := weigh_at 64 l A c left w h (Nat.le_refl _) h1 h2
theorem weighN_hi (s : ByteArray) (l : List Tm) (m : Int) : weighN s l m ≤ m ∨ weighN s l m = -1 := by
  unfold weighN
  split
  · omega
  · unfold weigh
    split
    · omega
    · have := weighL_hi l (m - 1 - (s.size : Int) / 8) 64 (by omega)
      omega
theorem weighN_size {s : ByteArray} {l : List Tm} {m : Int} (h : 0 ≤ weighN s l m) : (nodesL l : Int) ≤ m := by
  unfold weighN at h
  split at h
  · omega
  · have := weigh_nodes h
    omega

set_option maxHeartbeats 1000000 in
theorem great_atoms_at (t u : Am) (W : World) (b : Nat) (hb : b = W.heap.size) (ht : t.At W) (hu : u.At W) {r : Bool} (hr : decide (weighN u.name u.args (weighN t.name t.args 600) < 0) = r) :
    Calls Try.prog 15 #[.slice (some ⟨b, 0, none⟩) 2 2, .int .i64 600] (W.alloc (.cells #[.string t.name, .slice t.at_ t.args.length t.cap, .string u.name, .slice u.at_ u.args.length u.cap] 36)) fun e w' => e = .returned (.bool r) ∧ Below W.heap.size W w' := by
  subst hb
  have h1 := ht.2
  have h2 := hu.2
  have y1 := ht.1
  have y2 := hu.1
  obtain ⟨s1, A1, c1, l1⟩ := t
  obtain ⟨s2, A2, c2, l2⟩ := u
  simp only at h1 h2 y1 y2 hr
  have z1 : s1.size ≤ 9223372036854775807 := by unfold maxLen at y1; exact y1
  have z2 : s2.size ≤ 9223372036854775807 := by unfold maxLen at y2; exact y2
  have m1 := weighN_hi s1 l1 600
  have m2 := weighN_hi s2 l2 (weighN s1 l1 600)
  have HR := Lib.hid hr
  have Q1 := Lib.hid (fun W' (h : Below W.heap.size W W') => weigh64 l1 A1 c1 (600 - 1 - (s1.size : Int) / 8) W' (h1.below h) (by omega) (by omega))
  have Q2 := Lib.hid (fun W' (m : Int) (h : Below W.heap.size W W') (g : 0 ≤ m) (g' : m ≤ 600) => weigh64 l2 A2 c2 (m - 1 - (s2.size : Int) / 8) W' (h2.below h) (by omega) (by omega))
  have w1 := Lib.hid (show weighN s1 l1 600 = weigh l1 (600 - 1 - (s1.size : Int) / 8) 64 by unfold weighN; rw [if_neg (by omega)])
  have w2 := Lib.hid (fun (h : 0 ≤ weighN s1 l1 600) => (show weighN s2 l2 (weighN s1 l1 600) = weigh l2 (weighN s1 l1 600 - 1 - (s2.size : Int) / 8) 64 by unfold weighN; rw [if_neg (by unfold weighN at h; omega)]))
  have w3 := Lib.hid (fun (h : weighN s1 l1 600 < 0) => (show weighN s2 l2 (weighN s1 l1 600) = weighN s1 l1 600 by rw [show weighN s2 l2 (weighN s1 l1 600) = if weighN s1 l1 600 < 0 then weighN s1 l1 600 else weigh l2 (weighN s1 l1 600 - 1 - (s2.size : Int) / 8) 64 from rfl, if_pos h]))
  have k0 : (W.alloc (.cells #[.string s1, .slice A1 l1.length c1, .string s2, .slice A2 l2.length c2] 36)).cell? ⟨W.heap.size, 0, none⟩ = some (.string s1) := by rw [World.cell?_alloc_at _ _ _ _ rfl]; rfl
  have k1 : (W.alloc (.cells #[.string s1, .slice A1 l1.length c1, .string s2, .slice A2 l2.length c2] 36)).cell? ⟨W.heap.size, 1, none⟩ = some (.slice A1 l1.length c1) := by rw [World.cell?_alloc_at _ _ _ _ rfl]; rfl
  have k2 : (W.alloc (.cells #[.string s1, .slice A1 l1.length c1, .string s2, .slice A2 l2.length c2] 36)).cell? ⟨W.heap.size, 2, none⟩ = some (.string s2) := by rw [World.cell?_alloc_at _ _ _ _ rfl]; rfl
  have k3 : (W.alloc (.cells #[.string s1, .slice A1 l1.length c1, .string s2, .slice A2 l2.length c2] 36)).cell? ⟨W.heap.size, 3, none⟩ = some (.slice A2 l2.length c2) := by rw [World.cell?_alloc_at _ _ _ _ rfl]; rfl
  obtain ⟨X, hX⟩ : ∃ X, (W.alloc (.cells #[.string s1, .slice A1 l1.length c1, .string s2, .slice A2 l2.length c2] 36)) = X := ⟨_, rfl⟩
  have hWX : Below W.heap.size W X := by rw [← hX]; exact below1 _ _
  show Calls _ _ #[.slice (some ⟨W.heap.size, 0, none⟩) 2 2, .int .i64 600] (W.alloc (.cells #[.string s1, .slice A1 l1.length c1, .string s2, .slice A2 l2.length c2] 36)) _
  rw [hX]
  rw [hX] at k0
  rw [hX] at k1
  rw [hX] at k2
  rw [hX] at k3
  generalize weighN s2 l2 (weighN s1 l1 600) = v2 at *
  generalize weighN s1 l1 600 = v1 at *
  clear hX hr y1 y2 h1 h2 ht hu
  go_enter Try.func15, Try.ntmps15
  go_wp2_with fail
  go_loopw [1, 5] (fun z i wr => ((i = .int .i64 0 ∧ z = .int .i64 600) ∨ (i = .int .i64 1 ∧ z = .int .i64 v1) ∨ (i = .int .i64 2 ∧ z = .int .i64 v2)) ∧ Hid (∃ n, wr = X.drewN n)) (fun _ i _ => 2 - (intOf i).toNat)
  case atStart => exact ⟨.inl ⟨rfl, rfl⟩, Lib.hid ⟨0, rfl⟩⟩
  case round =>
    obtain ⟨hc, hn⟩ := hrel
    have hxr : Below X.heap.size X wr := by obtain ⟨n, rfl⟩ := hn.out; exact below_drewN (Below.refl _ _) n
    have hb := hWX.trans (hxr.mono hWX.size)
    replace k0 := (hxr.cell (block_lt_of_cell k0)).trans k0
    replace k1 := (hxr.cell (block_lt_of_cell k1)).trans k1
    replace k2 := (hxr.cell (block_lt_of_cell k2)).trans k2
    replace k3 := (hxr.cell (block_lt_of_cell k3)).trans k3
    rcases hc with ⟨rfl, rfl⟩ | ⟨rfl, rfl⟩ | ⟨rfl, rfl⟩
    · have P1 := Lib.hid (fun n => Q1.out (wr.drewN n) (below_drewN hb n))
      rw [← w1.out] at P1
      clear Q1 Q2 w1 w2 w3
      go_wp2_with fail
      go_quiet ((go_at_call 31; exact Calls.quiet_of (P1.out _)))
      go_wp2_with fail
      go_roundw
      case rel => exact ⟨.inr (.inl ⟨rfl, rfl⟩), by obtain ⟨n, hn⟩ := hn.out; exact Lib.hid ⟨n + nq, by rw [hn, World.drewN_drewN]⟩⟩
      case measure => simp [intOf]
    · by_cases g : 0 ≤ v1
      · have P1 := Lib.hid (fun n => Q2.out (wr.drewN n) v1 (below_drewN hb n) g (by omega))
        rw [← w2.out g] at P1
        clear Q1 Q2 w1 w2 w3
        go_wp2_with fail
        go_quiet ((go_at_call 31; exact Calls.quiet_of (P1.out _)))
        go_wp2_with fail
        go_roundw
        case rel => exact ⟨.inr (.inr ⟨rfl, rfl⟩), by obtain ⟨n, hn⟩ := hn.out; exact Lib.hid ⟨n + nq, by rw [hn, World.drewN_drewN]⟩⟩
        case measure => simp [intOf]
      · have g' : v1 < 0 := by omega
        obtain rfl := w3.out g'
        clear Q1 Q2 w1 w2 w3
        go_wp2_with fail
        go_ret
        exact ⟨by rw [← HR.out, decide_eq_true g']; rfl, hb⟩
    · clear Q1 Q2 w1 w2 w3
      go_wp2_with fail
      go_ret
      exact ⟨by rw [← HR.out]; rfl, hb⟩

set_option maxHeartbeats 1000000 in
theorem great_goals_at (t u : Gl) (W : World) (b : Nat) (hb : b = W.heap.size) (ht : t.At W) (hu : u.At W) {r : Bool} (hr : decide (weighN u.name u.args (weighN t.name t.args 600) < 0) = r) :
    Calls Try.prog 18 #[.slice (some ⟨b, 0, none⟩) 2 2, .int .i64 600] (W.alloc (.cells #[.int .i64 t.op, .string t.name, .slice t.at_ t.args.length t.cap, .int .i64 u.op, .string u.name, .slice u.at_ u.args.length u.cap] 42)) fun e w' => e = .returned (.bool r) ∧ Below W.heap.size W w' := by
  subst hb
  have h1 := ht.2.2
  have h2 := hu.2.2
  have y1 := ht.2.1
  have y2 := hu.2.1
  obtain ⟨o1, s1, A1, c1, l1⟩ := t
  obtain ⟨o2, s2, A2, c2, l2⟩ := u
  simp only at h1 h2 y1 y2 hr
  have z1 : s1.size ≤ 9223372036854775807 := by unfold maxLen at y1; exact y1
  have z2 : s2.size ≤ 9223372036854775807 := by unfold maxLen at y2; exact y2
  have m1 := weighN_hi s1 l1 600
  have m2 := weighN_hi s2 l2 (weighN s1 l1 600)
  have HR := Lib.hid hr
  have Q1 := Lib.hid (fun W' (h : Below W.heap.size W W') => weigh64 l1 A1 c1 (600 - 1 - (s1.size : Int) / 8) W' (h1.below h) (by omega) (by omega))
  have Q2 := Lib.hid (fun W' (m : Int) (h : Below W.heap.size W W') (g : 0 ≤ m) (g' : m ≤ 600) => weigh64 l2 A2 c2 (m - 1 - (s2.size : Int) / 8) W' (h2.below h) (by omega) (by omega))
  have w1 := Lib.hid (show weighN s1 l1 600 = weigh l1 (600 - 1 - (s1.size : Int) / 8) 64 by unfold weighN; rw [if_neg (by omega)])
  have w2 := Lib.hid (fun (h : 0 ≤ weighN s1 l1 600) => (show weighN s2 l2 (weighN s1 l1 600) = weigh l2 (weighN s1 l1 600 - 1 - (s2.size : Int) / 8) 64 by unfold weighN; rw [if_neg (by unfold weighN at h; omega)]))
  have w3 := Lib.hid (fun (h : weighN s1 l1 600 < 0) => (show weighN s2 l2 (weighN s1 l1 600) = weighN s1 l1 600 by rw [show weighN s2 l2 (weighN s1 l1 600) = if weighN s1 l1 600 < 0 then weighN s1 l1 600 else weigh l2 (weighN s1 l1 600 - 1 - (s2.size : Int) / 8) 64 from rfl, if_pos h]))
  have k0 : (W.alloc (.cells #[.int .i64 o1, .string s1, .slice A1 l1.length c1, .int .i64 o2, .string s2, .slice A2 l2.length c2] 42)).cell? ⟨W.heap.size, 0, none⟩ = some (.int .i64 o1) := by rw [World.cell?_alloc_at _ _ _ _ rfl]; rfl
  have k1 : (W.alloc (.cells #[.int .i64 o1, .string s1, .slice A1 l1.length c1, .int .i64 o2, .string s2, .slice A2 l2.length c2] 42)).cell? ⟨W.heap.size, 1, none⟩ = some (.string s1) := by rw [World.cell?_alloc_at _ _ _ _ rfl]; rfl
  have k2 : (W.alloc (.cells #[.int .i64 o1, .string s1, .slice A1 l1.length c1, .int .i64 o2, .string s2, .slice A2 l2.length c2] 42)).cell? ⟨W.heap.size, 2, none⟩ = some (.slice A1 l1.length c1) := by rw [World.cell?_alloc_at _ _ _ _ rfl]; rfl
  have k3 : (W.alloc (.cells #[.int .i64 o1, .string s1, .slice A1 l1.length c1, .int .i64 o2, .string s2, .slice A2 l2.length c2] 42)).cell? ⟨W.heap.size, 3, none⟩ = some (.int .i64 o2) := by rw [World.cell?_alloc_at _ _ _ _ rfl]; rfl
  have k4 : (W.alloc (.cells #[.int .i64 o1, .string s1, .slice A1 l1.length c1, .int .i64 o2, .string s2, .slice A2 l2.length c2] 42)).cell? ⟨W.heap.size, 4, none⟩ = some (.string s2) := by rw [World.cell?_alloc_at _ _ _ _ rfl]; rfl
  have k5 : (W.alloc (.cells #[.int .i64 o1, .string s1, .slice A1 l1.length c1, .int .i64 o2, .string s2, .slice A2 l2.length c2] 42)).cell? ⟨W.heap.size, 5, none⟩ = some (.slice A2 l2.length c2) := by rw [World.cell?_alloc_at _ _ _ _ rfl]; rfl
  obtain ⟨X, hX⟩ : ∃ X, (W.alloc (.cells #[.int .i64 o1, .string s1, .slice A1 l1.length c1, .int .i64 o2, .string s2, .slice A2 l2.length c2] 42)) = X := ⟨_, rfl⟩
  have hWX : Below W.heap.size W X := by rw [← hX]; exact below1 _ _
  show Calls _ _ #[.slice (some ⟨W.heap.size, 0, none⟩) 2 2, .int .i64 600] (W.alloc (.cells #[.int .i64 o1, .string s1, .slice A1 l1.length c1, .int .i64 o2, .string s2, .slice A2 l2.length c2] 42)) _
  rw [hX]
  rw [hX] at k0
  rw [hX] at k1
  rw [hX] at k2
  rw [hX] at k3
  rw [hX] at k4
  rw [hX] at k5
  generalize weighN s2 l2 (weighN s1 l1 600) = v2 at *
  generalize weighN s1 l1 600 = v1 at *
  clear hX hr y1 y2 h1 h2 ht hu
  go_enter Try.func18, Try.ntmps18
  go_wp2_with fail
  go_loopw [1, 5] (fun z i wr => ((i = .int .i64 0 ∧ z = .int .i64 600) ∨ (i = .int .i64 1 ∧ z = .int .i64 v1) ∨ (i = .int .i64 2 ∧ z = .int .i64 v2)) ∧ Hid (∃ n, wr = X.drewN n)) (fun _ i _ => 2 - (intOf i).toNat)
  case atStart => exact ⟨.inl ⟨rfl, rfl⟩, Lib.hid ⟨0, rfl⟩⟩
  case round =>
    obtain ⟨hc, hn⟩ := hrel
    have hxr : Below X.heap.size X wr := by obtain ⟨n, rfl⟩ := hn.out; exact below_drewN (Below.refl _ _) n
    have hb := hWX.trans (hxr.mono hWX.size)
    replace k0 := (hxr.cell (block_lt_of_cell k0)).trans k0
    replace k1 := (hxr.cell (block_lt_of_cell k1)).trans k1
    replace k2 := (hxr.cell (block_lt_of_cell k2)).trans k2
    replace k3 := (hxr.cell (block_lt_of_cell k3)).trans k3
    replace k4 := (hxr.cell (block_lt_of_cell k4)).trans k4
    replace k5 := (hxr.cell (block_lt_of_cell k5)).trans k5
    rcases hc with ⟨rfl, rfl⟩ | ⟨rfl, rfl⟩ | ⟨rfl, rfl⟩
    · have P1 := Lib.hid (fun n => Q1.out (wr.drewN n) (below_drewN hb n))
      rw [← w1.out] at P1
      clear Q1 Q2 w1 w2 w3
      go_wp2_with fail
      go_quiet ((go_at_call 31; exact Calls.quiet_of (P1.out _)))
      go_wp2_with fail
      go_roundw
      case rel => exact ⟨.inr (.inl ⟨rfl, rfl⟩), by obtain ⟨n, hn⟩ := hn.out; exact Lib.hid ⟨n + nq, by rw [hn, World.drewN_drewN]⟩⟩
      case measure => simp [intOf]
    · by_cases g : 0 ≤ v1
      · have P1 := Lib.hid (fun n => Q2.out (wr.drewN n) v1 (below_drewN hb n) g (by omega))
        rw [← w2.out g] at P1
        clear Q1 Q2 w1 w2 w3
        go_wp2_with fail
        go_quiet ((go_at_call 31; exact Calls.quiet_of (P1.out _)))
        go_wp2_with fail
        go_roundw
        case rel => exact ⟨.inr (.inr ⟨rfl, rfl⟩), by obtain ⟨n, hn⟩ := hn.out; exact Lib.hid ⟨n + nq, by rw [hn, World.drewN_drewN]⟩⟩
        case measure => simp [intOf]
      · have g' : v1 < 0 := by omega
        obtain rfl := w3.out g'
        clear Q1 Q2 w1 w2 w3
        go_wp2_with fail
        go_ret
        exact ⟨by rw [← HR.out, decide_eq_true g']; rfl, hb⟩
    · clear Q1 Q2 w1 w2 w3
      go_wp2_with fail
      go_ret
      exact ⟨by rw [← HR.out]; rfl, hb⟩
end Go.Proofs.Ytceekaodhmncgaa
namespace Go.Proofs.Ytceekaodhmncgaa
open Go.ChangeShapes Go.WideShapes Go.ChangeAt Go.RowKit

theorem cmpA_self (a : Am) : cmpA a a = 0 := by simp [cmpA, texts_self, ints_self, cmp_self.2, lex]
theorem sameG_self (g : Gl) : sameG g g = true := by simp [sameG, cmp_self.2]
theorem not_great2 {s s' : ByteArray} {l l' : List Tm} (h : decide (weighN s' l' (weighN s l 600) < 0) = false) : sizeL l ≤ 1000000 ∧ sizeL l' ≤ 1000000 := by
  have h0 : 0 ≤ weighN s' l' (weighN s l 600) := by simpa using h
  have h1 : 0 ≤ weighN s l 600 := by
    rcases Int.lt_or_le (weighN s l 600) 0 with h' | h'
    · rw [show weighN s' l' (weighN s l 600) = weighN s l 600 by rw [weighN, if_pos h']] at h0
      omega
    · exact h'
  have e1 := weighN_size h1
  have e0 := weighN_size h0
  have e2 := weighN_hi s l 600
  have f1 := size_nodes.2 l
  have f2 := size_nodes.2 l'
  omega
theorem box2 {w w' : World} {v0 v1 u0 u1 : Value} {T : TypeId} (hb : Below ((w.alloc (.cells #[v0, v1] T)).alloc (.cells #[u0, u1] T)).heap.size ((w.alloc (.cells #[v0, v1] T)).alloc (.cells #[u0, u1] T)) w') :
    (w'.cell? ⟨w.heap.size, 0, none⟩ = some v0 ∧ w'.cell? ⟨w.heap.size, 1, none⟩ = some v1) ∧ (w'.cell? ⟨w.heap.size + 1, 0, none⟩ = some u0 ∧ w'.cell? ⟨w.heap.size + 1, 1, none⟩ = some u1) ∧ Below w.heap.size w w' := by
  have hz : (w.alloc (.cells #[v0, v1] T)).heap.size = w.heap.size + 1 := by simp
  have h : ∀ j, w'.cell? ⟨w.heap.size, j, none⟩ = (#[v0, v1] : Array Value)[j]? := fun j => by
    rw [hb.cell (p := ⟨w.heap.size, j, none⟩) (by simp; omega), World.cell?_alloc_lt _ _ _ (by simp), World.cell?_alloc_at _ _ _ _ rfl]
  have g : ∀ j, w'.cell? ⟨w.heap.size + 1, j, none⟩ = (#[u0, u1] : Array Value)[j]? := fun j => by
    rw [hb.cell (p := ⟨w.heap.size + 1, j, none⟩) (by simp), ← hz, World.cell?_alloc_at _ _ _ _ rfl]
  exact ⟨⟨h 0, h 1⟩, ⟨g 0, g 1⟩, (below2 _ _ _).trans (hb.mono (by simp; omega))⟩
theorem box3 {w w' : World} {v0 v1 v2 u0 u1 u2 : Value} {T : TypeId} (hb : Below ((w.alloc (.cells #[v0, v1, v2] T)).alloc (.cells #[u0, u1, u2] T)).heap.size ((w.alloc (.cells #[v0, v1, v2] T)).alloc (.cells #[u0, u1, u2] T)) w') :
    (w'.cell? ⟨w.heap.size, 0, none⟩ = some v0 ∧ w'.cell? ⟨w.heap.size, 1, none⟩ = some v1 ∧ w'.cell? ⟨w.heap.size, 2, none⟩ = some v2) ∧ (w'.cell? ⟨w.heap.size + 1, 0, none⟩ = some u0 ∧ w'.cell? ⟨w.heap.size + 1, 1, none⟩ = some u1 ∧ w'.cell? ⟨w.heap.size + 1, 2, none⟩ = some u2) ∧ Below w.heap.size w w' := by
  have hz : (w.alloc (.cells #[v0, v1, v2] T)).heap.size = w.heap.size + 1 := by simp
  have h : ∀ j, w'.cell? ⟨w.heap.size, j, none⟩ = (#[v0, v1, v2] : Array Value)[j]? := fun j => by
    rw [hb.cell (p := ⟨w.heap.size, j, none⟩) (by simp; omega), World.cell?_alloc_lt _ _ _ (by simp), World.cell?_alloc_at _ _ _ _ rfl]
  have g : ∀ j, w'.cell? ⟨w.heap.size + 1, j, none⟩ = (#[u0, u1, u2] : Array Value)[j]? := fun j => by
    rw [hb.cell (p := ⟨w.heap.size + 1, j, none⟩) (by simp), ← hz, World.cell?_alloc_at _ _ _ _ rfl]
  exact ⟨⟨h 0, h 1, h 2⟩, ⟨g 0, g 1, g 2⟩, (below2 _ _ _).trans (hb.mono (by simp; omega))⟩
end Go.Proofs.Ytceekaodhmncgaa
namespace Go.Proofs.Ytceekaodhmncgaa
open Go.RowKit

theorem ref_int_at (n : Int) (w : World) : Calls Try.prog 43 #[.int .i64 n] w fun e w' => e = .returned (.agg #[.int .i64 0, .int .i64 n, .string ⟨#[]⟩, .slice none 0 0]) ∧ Below w.heap.size w w' := by
  go_enter Try.func43, Try.ntmps43
  go_wp2
  exact bodyPost_ret (v := .agg #[.int .i64 0, .int .i64 n, .string ⟨#[]⟩, .slice none 0 0]) (by simp [results, Try.results43, go_sem]) rfl ⟨rfl, (Below.refl _ _).alloc (Nat.le_refl _) _⟩
theorem ref_var_at3 (n : Int) (w : World) : Calls Try.prog 33 #[.int .i64 n] w fun e w' => e = .returned (.agg #[.int .i64 1, .int .i64 n, .string ⟨#[]⟩, .slice none 0 0]) ∧ Below w.heap.size w w' := by
  go_enter Try.func33, Try.ntmps33
  go_wp2
  exact bodyPost_ret (v := .agg #[.int .i64 1, .int .i64 n, .string ⟨#[]⟩, .slice none 0 0]) (by simp [results, Try.results33, go_sem]) rfl ⟨rfl, (Below.refl _ _).alloc (Nat.le_refl _) _⟩

/-- A functor that was built, with the place of its arguments. -/
def BuiltR (w : World) (s : ByteArray) (l : List Tm) (e : Ending) (w' : World) : Prop :=
  ∃ g c : Nat, e = .returned (.agg #[.int .i64 2, .int .i64 0, .string s, .slice (some ⟨g, 0, none⟩) l.length c]) ∧ (Tm.mk 2 0 s (some ⟨g, 0, none⟩) c l).At w' ∧ Below w.heap.size w w'

set_option maxHeartbeats 2000000 in
set_option maxRecDepth 20000 in
theorem ref_fun_at (s : ByteArray) (l : List Tm) (b o c : Nat) (w : World) (h0 : 0 < l.length) (hl : RowAt w l b o) (hsz : l.length ≤ 1000000) (hs : s.size ≤ maxLen) :
    Calls Try.prog 32 #[.string s, .slice (some ⟨b, o, none⟩) l.length c] w (BuiltR w s l) := by
  obtain ⟨i0, hi, hz0, hz1, hz2⟩ := info_parts term_info
  have HAll := Lib.hid hl
  go_enter Try.func32, Try.ntmps32
  have hl1 : RowAt ((w.alloc (.cells #[.int .i64 0, .int .i64 0, .string ⟨#[]⟩, .slice none 0 0] 25)).alloc (.cells #[] 25)) l b o := (At_keep (((Below.refl _ _).alloc (Nat.le_refl _) _).alloc (by simp) _)).2 _ _ _ hl
  have HC := Lib.hid hl1.cells
  have HO0 := World.ownsRow_lit (base := (w.alloc (.cells #[.int .i64 0, .int .i64 0, .string ⟨#[]⟩, .slice none 0 0] 25)).heap.size) (e := 25) (size := 4) (w.alloc (.cells #[.int .i64 0, .int .i64 0, .string ⟨#[]⟩, .slice none 0 0] 25)) #[] 0 (Nat.le_refl _) (Nat.zero_le _) rfl
  rw [show (w.alloc (.cells #[.int .i64 0, .int .i64 0, .string ⟨#[]⟩, .slice none 0 0] 25)).heap.size = w.heap.size + 1 by simp] at HO0
  have HO := Lib.hid HO0
  clear HO0
  clear hl hl1
  go_wp2_with (at_builtin; refine wpList_append_own _ rfl _ _ 23 rfl (w.heap.size + 1) 25 i0 _ 4 56 Try.underlying23 hi hz0 hz1 hz2 rfl (by decide) _ 0 [] rfl HO.out ⟨b, o, none⟩ l.length c (tcells l) rfl (tcells_length l) HC.out (tcells_one l) (by unfold maxLen; omega) (by omega) (by simp) ?_; intro v' w1 hown1 hg1 _; rw [Nat.zero_add, List.nil_append] at hown1; obtain ⟨hlen, hv⟩ := id hown1; rcases hv with ⟨_, h⟩ | ⟨g, cap, cur, hv', hb, hheap, hle, hcap, _, hcur⟩; (exfalso; omega); subst hv'; have hb0 : Below (w.alloc (.cells #[.int .i64 0, .int .i64 0, .string ⟨#[]⟩, .slice none 0 0] 25)).heap.size (w.alloc (.cells #[.int .i64 0, .int .i64 0, .string ⟨#[]⟩, .slice none 0 0] 25)) w1 := ((Below.refl _ _).alloc (Nat.le_refl _) _).grown hg1 (by simp) (fun k hk => by have := (World.ownsRow.lt HO.out k hk).1; simpa using this); obtain ⟨d0, d1, d2, d3, hb1⟩ := box4 hb0; have f0 : ∀ j, w1.frozen? ⟨w.heap.size, j, none⟩ = false := fun j => (by rw [hb0.frozen (p := ⟨w.heap.size, j, none⟩) (by simp), World.frozen?_alloc_at _ _ _ _ rfl]); have f00 := f0 0; have f01 := f0 1; have f02 := f0 2; have f03 := f0 3; have HB := Lib.hid hb1; have HW := Lib.hid hown1; have hle' : l.length ≤ cap := hle; have hcm := Lib.hid hcap; have hgb : w.heap.size + 1 ≤ g := hb; have hg' : g < w1.heap.size := (own_lt hown1 g rfl).2; clear hb0 hb1 f0 hown1 hg1 hheap hle hcap hcur hlen hb)
  have hgw : w.heap.size < g := by omega
  have hc : ∀ (j : Nat) u, (tcells l)[j]? = some u → w1.cell? ⟨g, j, none⟩ = some u := fun j u hu => by
    have hj : j < (tcells l).length := (List.getElem?_eq_some_iff.1 hu).1
    rw [tcells_length] at hj
    rw [World.ownsRow.cellAt HW.out j (by omega)]
    simpa using hu
  have HX := Lib.hid hc
  clear hc
  have hb2 : Below w.heap.size w ((((w1.setCell ⟨w.heap.size, 0, none⟩ (.int .i64 2)).setCell ⟨w.heap.size, 1, none⟩ (.int .i64 0)).setCell ⟨w.heap.size, 2, none⟩ (.string s)).setCell ⟨w.heap.size, 3, none⟩ (.slice (some ⟨g, 0, none⟩) l.length cap)) :=
    (((HB.out.setCell (Nat.le_refl _) _).setCell (Nat.le_refl _) _).setCell (Nat.le_refl _) _).setCell (Nat.le_refl _) _
  refine bodyPost_ret (v := .agg #[.int .i64 2, .int .i64 0, .string s, .slice (some ⟨g, 0, none⟩) l.length cap]) (by simp [results, Try.results32, go_sem, d0, d1, d2, d3]) rfl ⟨g, cap, rfl, ?_, hb2⟩
  refine (At_iff _ _).2 ⟨⟨by simp only [Tm.kind]; unfold Fits; omega, by simp only [Tm.num]; unfold Fits; omega, hs⟩, hle', hcm.out, fun _ => ⟨g, 0, rfl, RowAt.of fun i hi => ⟨fun j u hu => ?_, (At_keep hb2).1 _ (HAll.out.get hi).2⟩⟩⟩
  have hj : j < 4 := by
    have := (List.getElem?_eq_some_iff.1 hu).1
    simpa [Tm.cells] using this
  have hne : ∀ q : Nat, (⟨g, 0 + 4 * i + j, none⟩ : Addr) ≠ ⟨w.heap.size, q, none⟩ := fun q e => by injection e with e _; omega
  rw [World.cell?_setCell_other _ _ _ _ (hne 3).symm, World.cell?_setCell_other _ _ _ _ (hne 2).symm, World.cell?_setCell_other _ _ _ _ (hne 1).symm, World.cell?_setCell_other _ _ _ _ (hne 0).symm, Nat.zero_add]
  exact HX.out _ _ ((tcells_get l hi hj).trans hu)
end Go.Proofs.Ytceekaodhmncgaa
namespace Go.Proofs.Ytceekaodhmncgaa
open Go.RowKit

def numT (k n : Int) : Tm := .mk k n ByteArray.empty none 0 []
theorem numT_val (k n : Int) : (numT k n).val = .agg #[.int .i64 k, .int .i64 n, .string ⟨#[]⟩, .slice none 0 0] := rfl
theorem numT_lie {k n : Int} (hk : Fits k) (hn : Fits n) {B : World → Prop} {lo : Nat} {X : Nat → Prop} {w : World} : Lie B lo X w (numT k n) :=
  fun W _ _ => (At_iff _ _).2 ⟨⟨hk, hn, by unfold maxLen; exact Nat.zero_le _⟩, Nat.zero_le _, by unfold maxLen; exact Nat.zero_le _, fun h => absurd h (Nat.lt_irrefl 0)⟩
theorem shiftV_fits {f v : Int} (hv : Fits v) : Fits (shiftV f v) := by
  unfold shiftV
  split
  · unfold Fits; omega
  · exact hv

theorem term_int_at (n : Int) (w : World) : Calls Try.prog 59 #[.int .i64 n] w fun e w' => e = .returned (numT 0 n).val ∧ Below w.heap.size w w' := by
  go_enter Try.func59, Try.ntmps59
  go_wp2
  exact bodyPost_ret (v := .agg #[.int .i64 0, .int .i64 n, .string ⟨#[]⟩, .slice none 0 0]) (by simp [results, Try.results59, go_sem]) rfl ⟨rfl, (Below.refl _ _).alloc (Nat.le_refl _) _⟩
theorem term_var_at (n : Int) (w : World) : Calls Try.prog 75 #[.int .i64 n] w fun e w' => e = .returned (numT 1 n).val ∧ Below w.heap.size w w' := by
  go_enter Try.func75, Try.ntmps75
  go_wp2
  exact bodyPost_ret (v := .agg #[.int .i64 1, .int .i64 n, .string ⟨#[]⟩, .slice none 0 0]) (by simp [results, Try.results75, go_sem]) rfl ⟨rfl, (Below.refl _ _).alloc (Nat.le_refl _) _⟩

set_option maxHeartbeats 1000000 in
theorem renamed_at (f v : Int) (hf : Fits f) (hv : Fits v) (w : World) : Calls Try.prog 62 #[.int .i64 f, .int .i64 v] w fun e w' => e = .returned (numT 1 (shiftV f v)).val ∧ Below w.heap.size w w' := by
  unfold Fits at hf hv
  have Q := Lib.hid (fun n W => term_var_at n W)
  have H := Lib.hid (held_new (v0 := .int .i64 0) (v1 := .int .i64 0) (v2 := .string ⟨#[]⟩) (v3 := .slice none 0 0) w 25)
  go_enter Try.func62, Try.ntmps62
  go_wp2_with fail
  all_goals
    refine (Q.out _ _).mono ?_
    rintro e w1 ⟨rfl, hb⟩
    rw [numT_val]
    have HB := Lib.hid ((below1 w zeroBox).trans (hb.mono (by simp)))
    obtain ⟨hz, e0, e1, e2, e3, f'⟩ := H.out.below hb
    have f0' := f' 0
    have f1' := f' 1
    have f2' := f' 2
    have f3' := f' 3
    clear f'
    go_wp2_with fail
    refine bodyPost_ret (v := _) (by simp [results, Try.results62, go_sem, e0, e1, e2, e3]; rfl) rfl ⟨?_, set4c HB.out (Nat.le_refl _)⟩
    rw [numT_val]
    refine congrArg (fun m => Ending.returned (.agg #[.int .i64 1, .int .i64 m, .string ⟨#[]⟩, .slice none 0 0])) ?_
    unfold shiftV
    (try unfold wrap64 at *)
    first | (rw [if_neg (by omega)]; done) | (rw [if_pos (by omega)]; try omega)
theorem leaves_at (f v : Int) (hf : Fits f) (hv : Fits v) (w : World) : Calls Try.prog 42 #[.int .i64 f, .int .i64 v] w fun e w' => e = .returned (.bool (!decide (-9223372036854775808 ≤ f + v ∧ f + v ≤ 9223372036854775807))) ∧ Below w.heap.size w w' := by
  unfold Fits at hf hv
  go_enter Try.func42, Try.ntmps42
  go_wp2_with fail
  all_goals
    go_ret
    refine ⟨congrArg (fun b => Ending.returned (Value.bool b)) ?_, Below.refl _ _⟩
    (try unfold wrap64 at *)
    rw [Bool.eq_iff_iff]
    simp
    omega
end Go.Proofs.Ytceekaodhmncgaa
namespace Go.Proofs.Ytceekaodhmncgaa
open Go.RowKit

set_option maxHeartbeats 4000000 in
theorem instances_at (b : List Bd) (f : Int) (D : Option Addr) (q : Nat) (l : List Tm) (A : Option Addr) (c : Nat) (w : World) (hl : Lst w A l c) (hsz : l.length ≤ 1000000)
    (ih : ∀ x ∈ l, ∀ W : World, Below w.heap.size w W → Calls Try.prog 40 #[.slice D b.length q, .int .i64 f, x.val] W (Made (x.inst b f) W)) :
    Calls Try.prog 45 #[.slice D b.length q, .int .i64 f, .slice A l.length c] w (MadeN l.length (instL b f l) w) := by
  by_cases h0 : l.length = 0
  · obtain rfl : l = [] := List.length_eq_zero_iff.1 h0
    have Q := Lib.hid (clone_none_at A c w)
    clear ih hl hsz h0
    show Calls Try.prog 45 #[.slice D b.length q, .int .i64 f, .slice A 0 c] w _
    go_enter Try.func45, Try.ntmps45
    go_wp2_with fail
    refine (Q.out).mono ?_
    rintro e w1 ⟨A', cap, rfl, h1, h2, _, hb⟩
    have HC := Lib.hid (show Lst w1 A' [] cap from ⟨h1, h2, fun h => by simp at h⟩)
    clear h1 h2
    go_wp2_with fail
    go_loopw [14] (fun i wr => i = .int .i64 0 ∧ Below w.heap.size w wr) (fun _ _ => 0)
    case atStart => exact ⟨rfl, hb⟩
    case round =>
      obtain ⟨rfl, hbw⟩ := hrel
      go_wp2_with fail
      go_ret
      exact ⟨A', cap, [], rfl, rfl, rfl, fun W _ => ⟨HC.out.1, HC.out.2.1, fun h => by simp at h⟩, hbw⟩
  · have hp : 0 < l.length := by omega
    obtain ⟨b0, o, rfl, hrow⟩ := hl.2.2 hp
    have hlen : l.length ≤ 9223372036854775807 := by omega
    have Q := Lib.hid (clone_at l b0 o c w hp hrow hsz)
    have QI := Lib.hid ih
    have HA := Lib.hid (instL_map b f l)
    have HLL := Lib.hid (fun W (h : Below w.heap.size w W) => (At_keep h).2 _ _ _ hrow)
    clear ih hrow hsz h0 hl
    go_enter Try.func45, Try.ntmps45
    go_wp2_with fail
    refine (Q.out).mono ?_
    rintro e w1 ⟨A', cap, rfl, h1, h2, h3, hb⟩
    obtain ⟨g, rfl, hg, hrow⟩ := h3 hp
    have HD := Lib.hid (Putting.start (f := (Tm.inst b f)) (lo := w.heap.size) hrow)
    have hcap : l.length ≤ cap := h1
    have hcap2 : cap ≤ 9223372036854775807 := by unfold maxLen at h2; exact h2
    have HG := Lib.hid hg
    clear hrow h3 h1 h2 hg
    go_wp2_with fail
    go_loopw [14] (fun i wr => ∃ j : Nat, j ≤ l.length ∧ i = .int .i64 j ∧ Hid (Putting ((Tm.inst b f)) l g w.heap.size j wr) ∧ Below w.heap.size w wr) (fun i _ => l.length - (intOf i).toNat)
    case atStart => exact ⟨0, Nat.zero_le _, rfl, HD, hb⟩
    case round =>
      obtain ⟨j, hj, rfl, HF, hbw⟩ := hrel
      clear hb HD
      by_cases hlt : j < l.length
      · obtain ⟨x, hx⟩ : ∃ x, x = l.getD j default := ⟨_, rfl⟩
        obtain ⟨⟨c0, c1, c2, c3⟩, _⟩ := (HLL.out _ hbw).get hlt
        rw [← hx] at c0 c1 c2 c3
        have hmem : x ∈ l := by rw [hx]; exact getD_mem hlt
        have Q1 := Lib.hid (fun W (h : Below w.heap.size w W) => QI.out x hmem W h)
        have HX := Lib.hid hx
        have hgs : g < wr.heap.size := HF.out.lt
        clear hx hmem QI
        obtain ⟨k', n', s', A', c', a'⟩ := x
        simp only [Tm.kind, Tm.num, Tm.name, Tm.at_, Tm.args, Tm.cap] at c0 c1 c2 c3
        go_wp2_with fail
        refine (Q1.out _ (hbw.alloc hbw.size _)).mono ?_
        rintro e w2 ⟨u, rfl, hu, hst, hb2⟩
        have hw : Below wr.heap.size wr w2 := (below1 wr _).trans (hb2.mono (by simp))
        have HN := Lib.hid (putting_next HF.out hlt HX.out hbw.size hu (hst.low (by simp)) hw _ rfl)
        have D2 := Lib.hid (HF.out.below hw)
        have hbx := hbw.trans (hw.mono hbw.size)
        have e0 := D2.out.cells hlt
        rw [← HX.out] at e0
        have q0 := e0 0 _ rfl
        have q1 := e0 1 _ rfl
        have q2 := e0 2 _ rfl
        have q3 := e0 3 _ rfl
        simp only [Nat.add_zero, Tm.kind, Tm.num, Tm.name, Tm.at_, Tm.args, Tm.cap] at q0 q1 q2 q3
        have f0 := D2.out.free (j * 4)
        have f1 := D2.out.free (j * 4 + 1)
        have f2 := D2.out.free (j * 4 + 2)
        have f3 := D2.out.free (j * 4 + 3)
        have hgz := D2.out.lt
        obtain ⟨k2, n2, s2, A2, p2, a2⟩ := u
        simp only [Tm.kind, Tm.num, Tm.name, Tm.at_, Tm.args, Tm.cap] at HN
        clear e0 hu hst hb2 c0 c1 c2 c3 hw
        go_wp2_with fail
        go_roundw
        case rel => exact ⟨j + 1, by omega, by go_num, HN, below4 hbx HG.out _ _ _ _⟩
        case measure => simp [intOf]; omega
      · obtain rfl : j = l.length := by omega
        clear QI
        obtain ⟨news, hn, hst, hL⟩ := HF.out.done (w' := wr) HG.out (Nat.le_refl _) (fun _ _ _ => rfl) cap hcap (by unfold maxLen; exact hcap2)
        have HL := Lib.hid hL
        have HN := Lib.hid hn
        have HS := Lib.hid (show stripL news = stripL (instL b f l) by rw [HA.out]; exact hst)
        clear hn hst hL HF
        go_wp2_with fail
        go_ret
        exact ⟨_, cap, news, rfl, HN.out, HS.out, HL.out, hbw⟩

end Go.Proofs.Ytceekaodhmncgaa
