/-
  Layer 15: the reference's Symbols.
-/
import Derived.Test.YtbhjapgioaiocaaDoorXi
import Derived.Test.YtbhjapgioaiocaaDoorEn
set_option maxRecDepth 100000
namespace Go.Proofs.YtbhjapgioaiocaaDoor
open Go.RowKit

theorem rb_keep {W w2 : World} {B A C w h : Nat} {q : St} (H : Rb W B A C w h q) (hk : ∀ k t cs, Blk W k t cs → t ≠ 35 → Blk w2 k t cs) : Rb w2 B A C w h q := by
  obtain ⟨c1, h1, _⟩ := H.grid
  exact H.keep ((hk _ _ _ H.obj (by decide)).trans H.obj.symm) ((hk _ _ _ h1 (by decide)).trans h1.symm)
theorem xsymbols_c0 (s : Option Addr) (l : List Int) (cp : Nat) (w h o : Int) (m : Mo) (W : World) (hf : ¬ fits w h) : Calls Tryd.prog 23 #[.slice s l.length cp, .int .i64 w, .int .i64 h, .int .i64 o, m.val] W (SGv W 2 []) := by
  obtain ⟨mb, mr, ms, mc, my⟩ := m
  unfold Mo.val at *
  have HM := Lib.hid (below_alloc (Below.refl _ W) (.cells #[.bool mb, .bool mr, .bool ms, .bool mc, .bool my] 26))
  have hcs : w < 1 ∨ (¬ w < 1 ∧ 64 < w) ∨ (¬ w < 1 ∧ ¬ 64 < w ∧ h < 1) ∨ (¬ w < 1 ∧ ¬ 64 < w ∧ ¬ h < 1 ∧ 64 < h) := by unfold fits at hf; omega
  clear hf
  rcases hcs with h1 | ⟨h1, h2⟩ | ⟨h1, h2, h3⟩ | ⟨h1, h2, h3, h4⟩ <;>
   (go_enter Tryd.func23, Tryd.ntmps23
    go_wp2_with fail
    go_ret2
    exact ⟨_, rfl, SsAt.nil _ _, HM.out⟩)
theorem xsymbols_c1 (s : Option Addr) (l : List Int) (cp : Nat) (w h : Nat) (o : Int) (m : Mo) (W : World) (hf : fits (w : Int) (h : Int)) (hl : l.length ≠ w * h) : Calls Tryd.prog 23 #[.slice s l.length cp, .int .i64 (w : Int), .int .i64 (h : Int), .int .i64 o, m.val] W (SGv W 4 []) := by
  obtain ⟨mb, mr, ms, mc, my⟩ := m
  unfold Mo.val at *
  have HM := Lib.hid (below_alloc (Below.refl _ W) (.cells #[.bool mb, .bool mr, .bool ms, .bool mc, .bool my] 26))
  have hwh : w * h ≤ 64 * 64 := Nat.mul_le_mul (by unfold fits at hf; omega) (by unfold fits at hf; omega)
  have wm : IntKind.i64.wrap ((w : Int) * (h : Int)) = ((w * h : Nat) : Int) := by rw [IntWalk.i64_left, ← Int.natCast_mul]; unfold wrap64; omega
  have hne : (((l.length : Nat) : Int) == ((w * h : Nat) : Int)) = false := by simp; omega
  have hne2 : (((l.length : Nat) : Int) != ((w * h : Nat) : Int)) = true := by simp; omega
  have g1 : ¬ (w : Int) < 1 ∧ ¬ 64 < (w : Int) ∧ ¬ (h : Int) < 1 ∧ ¬ 64 < (h : Int) := by unfold fits at hf; omega
  obtain ⟨g1, g2, g3, g4⟩ := g1
  clear hf hwh hl
  generalize w * h = N at *
  go_enter Tryd.func23, Tryd.ntmps23
  go_wp2_with fail
  go_ret2
  exact ⟨_, rfl, SsAt.nil _ _, HM.out⟩
theorem xsymbols_c2 (s : Option Addr) (l : List Int) (cp : Nat) (w h : Nat) (o : Int) (m : Mo) (W : World) (hf : fits (w : Int) (h : Int)) (hl : l.length = w * h) (ho : ¬ (0 ≤ o ∧ o ≤ 3)) : Calls Tryd.prog 23 #[.slice s l.length cp, .int .i64 (w : Int), .int .i64 (h : Int), .int .i64 o, m.val] W (SGv W 3 []) := by
  have kk := fun W => xvalid_c o W
  rw [decide_eq_false ho] at kk
  obtain ⟨mb, mr, ms, mc, my⟩ := m
  unfold Mo.val at *
  have HM := Lib.hid (below_alloc (Below.refl _ W) (.cells #[.bool mb, .bool mr, .bool ms, .bool mc, .bool my] 26))
  have hwh : w * h ≤ 64 * 64 := Nat.mul_le_mul (by unfold fits at hf; omega) (by unfold fits at hf; omega)
  have wm : IntKind.i64.wrap ((w : Int) * (h : Int)) = ((l.length : Nat) : Int) := by rw [IntWalk.i64_left, ← Int.natCast_mul]; unfold wrap64; omega
  have g1 : ¬ (w : Int) < 1 ∧ ¬ 64 < (w : Int) ∧ ¬ (h : Int) < 1 ∧ ¬ 64 < (h : Int) := by unfold fits at hf; omega
  obtain ⟨g1, g2, g3, g4⟩ := g1
  clear hf hwh hl ho
  generalize l.length = N at *
  go_enter Tryd.func23, Tryd.ntmps23
  go_wp2_with (first | (go_at_call 27; (with_reducible refine (kk _).mono ?_); rintro e wn ⟨rfl, rfl⟩))
  go_ret2
  exact ⟨_, rfl, SsAt.nil _ _, HM.out⟩
theorem xsymbols_c4 (s : Option Addr) (l : List Int) (cp : Nat) (w h : Nat) (o : Int) (m : Mo) (W : World) (hf : fits (w : Int) (h : Int)) (hl : l.length = w * h) (ho : 0 ≤ o ∧ o ≤ 3) (hH : HoldsI W s l) (hr : ∀ v ∈ l, i64R v) (hp : 60 < plnN l) : Calls Tryd.prog 23 #[.slice s l.length cp, .int .i64 (w : Int), .int .i64 (h : Int), .int .i64 o, m.val] W (SGv W 2 []) := by
  have kk := fun W => xvalid_c o W
  rw [decide_eq_true ho] at kk
  obtain ⟨mb, mr, ms, mc, my⟩ := m
  unfold Mo.val at *
  have hM := below_alloc (Below.refl _ W) (.cells #[.bool mb, .bool mr, .bool ms, .bool mc, .bool my] 26)
  have HM := Lib.hid hM
  have hwh : w * h ≤ 64 * 64 := Nat.mul_le_mul (by unfold fits at hf; omega) (by unfold fits at hf; omega)
  have wm : IntKind.i64.wrap ((w : Int) * (h : Int)) = ((l.length : Nat) : Int) := by rw [IntWalk.i64_left, ← Int.natCast_mul]; unfold wrap64; omega
  have g1 : ¬ (w : Int) < 1 ∧ ¬ 64 < (w : Int) ∧ ¬ (h : Int) < 1 ∧ ¬ 64 < (h : Int) := by unfold fits at hf; omega
  obtain ⟨g1, g2, g3, g4⟩ := g1
  have kp := xplanes_c s l cp _ (hH.below hM (Nat.le_refl _)) hr (by omega)
  generalize plnN l = pl at *
  have hp2 : (60 : Int) < (pl : Int) := by omega
  clear hf hwh hl ho hH hr hM hp
  generalize l.length = N at *
  go_enter Tryd.func23, Tryd.ntmps23
  go_wp2_with (first | (go_at_call 27; (with_reducible refine (kk _).mono ?_); rintro e wn ⟨rfl, rfl⟩) | (go_at_call 26; (with_reducible refine kp.mono ?_); rintro e wn ⟨rfl, rfl⟩))
  go_ret2
  exact ⟨_, rfl, SsAt.nil _ _, HM.out⟩
set_option maxHeartbeats 8000000 in
theorem xsymbols_c3 (s : Option Addr) (l : List Int) (cp : Nat) (w h : Nat) (o : Int) (m : Mo) (W : World) (hf : fits (w : Int) (h : Int)) (hl : l.length = w * h) (ho : 0 ≤ o ∧ o ≤ 3) (hH : HoldsI W s l) (hr : ∀ v ∈ l, i64R v) (hall : ∀ v ∈ l, okV v) (Ls : List (List Sy)) (hLs : Ls = symL w h (plnN l) o m (setV w h l l.length) (3 * plnN l - 2)) :
    Calls Tryd.prog 23 #[.slice s l.length cp, .int .i64 (w : Int), .int .i64 (h : Int), .int .i64 o, m.val] W (SGv W 0 Ls) := by
  have k := fun W => newR_yes w h hf W
  have kk := fun W => xvalid_c o W
  rw [decide_eq_true ho] at kk
  obtain ⟨i0, hi, hz0, hz1, hz2⟩ := info2_parts infoSs
  obtain ⟨M, hM⟩ : ∃ M : Mo, M = m := ⟨_, rfl⟩
  rw [← hM] at hLs
  have HMV := Lib.hid (show M.val = .agg #[.bool m.b, .bool m.r, .bool m.s, .bool m.c, .bool m.y] by rw [hM]; rfl)
  rw [← hM]
  obtain ⟨mb, mr, ms, mc, my⟩ := m
  rw [HMV.out]
  have hMm := below_alloc (Below.refl _ W) (.cells #[.bool mb, .bool mr, .bool ms, .bool mc, .bool my] 26)
  have HM := Lib.hid hMm
  have MB0 := Lib.hid (Blk.new W 26 #[.bool mb, .bool mr, .bool ms, .bool mc, .bool my])
  have hwh : w * h ≤ 64 * 64 := Nat.mul_le_mul (by unfold fits at hf; omega) (by unfold fits at hf; omega)
  have wm : IntKind.i64.wrap ((w : Int) * (h : Int)) = ((l.length : Nat) : Int) := by rw [IntWalk.i64_left, ← Int.natCast_mul]; unfold wrap64; omega
  have hl4 : l.length ≤ 4096 := by omega
  have g1 : ¬ (w : Int) < 1 ∧ ¬ 64 < (w : Int) ∧ ¬ (h : Int) < 1 ∧ ¬ 64 < (h : Int) := by unfold fits at hf; omega
  obtain ⟨g1, g2, g3, g4⟩ := g1
  have kp := xplanes_c s l cp _ (hH.below hMm (Nat.le_refl _)) hr (by omega)
  have hmx : mxN l < 1152921504606846976 := mxN_lt l _ (by decide) fun v hv => by have := hall v hv; unfold okV at this; omega
  have hpl : plnN l ≤ 60 := bit_le60 hmx
  obtain ⟨pl, hple⟩ : ∃ p, p = plnN l := ⟨_, rfl⟩
  rw [← hple] at kp hpl hLs
  have hpl2 : ¬ (60 : Int) < (pl : Int) := by omega
  have HL4 := Lib.hid hl4
  have HHL := Lib.hid hl
  have HHH := Lib.hid hH
  have HF := Lib.hid hf
  have HO := Lib.hid ho
  have HALL := Lib.hid hall
  have HPL := Lib.hid hpl
  clear hf hwh ho hH hr hMm hl hM hl4 hall hmx hpl hple
  generalize hN : l.length = N at *
  have HLS := Lib.hid hLs
  clear hLs
  have HN := Lib.hid hN
  clear hN
  go_enter Tryd.func23, Tryd.ntmps23
  go_wp2_with (first | (go_at_call 27; (with_reducible refine (kk _).mono ?_); rintro e wn ⟨rfl, rfl⟩) | (go_at_call 26; (with_reducible refine kp.mono ?_); rintro e wn ⟨rfl, rfl⟩) | (go_at_call 41; (with_reducible refine (k _).mono ?_); rintro e wn ⟨A, C, rfl, hC, hB⟩; have HC := Lib.hid hC; have HB := Lib.hid (below_call HM.out hB); have MB := Lib.hid (MB0.out.below hB); clear hC hB))
  obtain ⟨B1, hB1⟩ : ∃ b, b = (W.alloc (.cells #[.bool mb, .bool mr, .bool ms, .bool mc, .bool my] 26)).heap.size := ⟨_, rfl⟩
  have HCB := Lib.hid (show Rb wn B1 A C w h St.zero by rw [hB1]; exact HC.out)
  have HB1 := Lib.hid (show B1 = W.heap.size + 1 by rw [hB1, alloc_size])
  clear HC hB1 k kk kp MB0
  go_loopw [56] (fun i wr => ∃ k : Nat, k ≤ N ∧ i = .int .i64 (k : Int) ∧ Hid (Rb wr B1 A C w h (setV w h l k)) ∧ Hid (Below W.heap.size W wr) ∧ Hid (Blk wr W.heap.size 26 #[.bool mb, .bool mr, .bool ms, .bool mc, .bool my])) (fun i _ => (N - (intOf i).toNat))
  case atStart => exact ⟨0, by omega, rfl, HCB.out, HB.out, MB⟩
  case round =>
    obtain ⟨k, hk, rfl, hC, hB, hMB⟩ := hrel
    by_cases hlt : k < N
    · have hlt2 : k < l.length := by have := HN.out; omega
      obtain ⟨b, off, rfl, hA⟩ := (HHH.out.below hB.out (Nat.le_refl _)).resolve_left (fun h => by rw [h] at hlt2; simp at hlt2)
      have c0 := hA k hlt2
      have hgd : l[k]?.getD 0 = l[k] := by rw [List.getElem?_eq_getElem hlt2]; rfl
      have hmem := List.getElem_mem hlt2
      obtain ⟨v, hve⟩ : ∃ v, v = l[k] := ⟨_, rfl⟩
      rw [← hve] at c0 hgd hmem
      have hwn : ¬ w = 0 := by have := HF.out; unfold fits at this; omega
      have hwp : 0 < w := by have := HF.out; unfold fits at this; omega
      have hx1 := Nat.mod_lt k hwp
      have hy1 : k / w < h := Nat.div_lt_of_lt_mul (by have := HHL.out; omega)
      have m1 : ((k : Int) % (w : Int)) = ((k % w : Nat) : Int) := by rw [Int.natCast_emod]
      have m2 : ((k : Int) / (w : Int)) = ((k / w : Nat) : Int) := by rw [Int.natCast_ediv]
      have m3 : Int.tmod (k : Int) (w : Int) = ((k % w : Nat) : Int) := by rw [Int.tmod_eq_emod_of_nonneg (by omega), m1]
      have m4 : Int.tdiv (k : Int) (w : Int) = ((k / w : Nat) : Int) := by rw [Int.tdiv_eq_ediv_of_nonneg (by omega), m2]
      have hsv : setV w h l (k + 1) = setQ w h (setV w h l k) ((k % w : Nat) : Int) ((k / w : Nat) : Int) v := by show setQ _ _ _ _ _ _ = _; rw [hgd]
      obtain ⟨xn, hxn⟩ : ∃ x, x = k % w := ⟨_, rfl⟩
      obtain ⟨yn, hyn⟩ : ∃ x, x = k / w := ⟨_, rfl⟩
      rw [← hxn] at hx1 m1 m3 hsv
      rw [← hyn] at hy1 m2 m4 hsv
      clear hxn hyn
      have hin : inB w h (xn : Int) (yn : Int) := by unfold inB; omega
      have hyw : yn ≤ 64 := by have := HF.out; unfold fits at this; omega
      have m5 : IntKind.i64.wrap (yn : Int) = (yn : Int) := by rw [IntWalk.i64_left]; unfold wrap64; omega
      have ks := rset_c (hC.out.below (Below.refl wr.heap.size wr).drew) (xn : Int) (yn : Int) v
      rw [← hsv] at ks
      have m6 : IntKind.i64.wrap ((k : Int) / (w : Int)) = (yn : Int) := by rw [m2, m5]
      have wk : IntKind.i64.wrap ((k : Int) + 1) = ((k + 1 : Nat) : Int) := by have := HL4.out; rw [IntWalk.i64_left]; unfold wrap64; omega
      have HLT := Lib.hid hlt
      have VB := Lib.hid hC.out.geC
      have keepB : ∀ W', Kb [C] wr.drew W' → Below W.heap.size W W' ∧ Blk W' W.heap.size 26 #[.bool mb, .bool mr, .bool ms, .bool mc, .bool my] := fun W' K => by
        have K := (Kb.of_below [C] (Below.refl wr.heap.size wr).drew).trans K
        have hs := hB.out.size
        refine ⟨hB.out.trans ((K.below (fun j hj => by simp at hj; have := VB.out; have := HB1.out; omega) hs)), (K.block _ hMB.out.lt fun hm => ?_).trans hMB.out⟩
        simp at hm
        have := VB.out
        have := HB1.out
        omega
      have hov := HALL.out _ hmem
      have e0 : setE w h (xn : Int) (yn : Int) v = 0 := by unfold setE; rw [if_pos ⟨hin, hov⟩]
      rw [e0] at ks
      have KB := Lib.hid keepB
      clear e0 hin hgd hve hsv hov keepB hmem hA hx1 hy1 hyw
      go_wp2_with fail
      go_region_held3 (fun _ => True) (first | (with_reducible exact trivial) | fail) (first | (go_simp; go_at_call 43; (with_reducible refine ks.mono ?_); rintro e w5 ⟨rfl, hC5, hK5⟩; have C5 := Lib.hid hC5; have K5 := Lib.hid (KB.out _ hK5); clear hC5 hK5) | fail)
      all_goals
        go_wp2_with fail
        go_roundw
        case rel => exact ⟨k + 1, HLT.out, by go_num, C5, K5.out.1, K5.out.2⟩
        case measure => have := HLT.out; simp [intOf]; omega
    · have hkN : k = N := by omega
      subst hkN
      have hok := setV_ok w h l HALL.out k
      obtain ⟨q0, hq0⟩ : ∃ q, q = setV w h l k := ⟨_, rfl⟩
      rw [← hq0] at hC hok HLS
      obtain ⟨n, hn⟩ : ∃ n, n = 3 * pl - 2 := ⟨_, rfl⟩
      rw [← hn] at HLS
      have wp1 : IntKind.i64.wrap (3 * (pl : Int)) = 3 * (pl : Int) := by have := HPL.out; rw [IntWalk.i64_left]; unfold wrap64; omega
      have wp2 : IntKind.i64.wrap (3 * (pl : Int) - 2) = 3 * (pl : Int) - 2 := by have := HPL.out; rw [IntWalk.i64_left]; unfold wrap64; omega
      have HNN := Lib.hid hn
      have HOK := Lib.hid hok
      clear hok hq0 hn hk
      go_wp2_with fail
      obtain ⟨Wo, rfl⟩ : ∃ Wo, Wo = wr := ⟨_, rfl⟩
      go_loopw [17, 18] (fun z i wr => ∃ (k : Nat) (sv : Value), k ≤ n ∧ i = .int .i64 (k : Int) ∧ z = sv ∧ Hid (SsAt W wr sv (symL w h pl o M q0 k)) ∧ Hid (Rb wr B1 A C w h (blkP w h pl o M q0 k)) ∧ Hid (Below W.heap.size W wr) ∧ Hid (Blk wr W.heap.size 26 #[.bool mb, .bool mr, .bool ms, .bool mc, .bool my])) (fun _ i _ => (n - (intOf i).toNat))
      case atStart => exact ⟨0, _, by omega, rfl, rfl, SsAt.nil _ _, hC.out, hB.out, hMB⟩
      case round =>
        obtain ⟨j, sv, hj, rfl, hz, hS, hC, hB, hMB⟩ := hrel
        obtain ⟨s9, m9, rfl⟩ : ∃ s m, sv = .slice s (symL w h pl o M q0 j).length m := hS.out.ex.elim fun _ z => own_slice z.2.1
        subst hz
        by_cases hlt : (j : Int) < 3 * (pl : Int) - 2
        · have hjn : j < n := by have := HNN.out; omega
          have hrE : runE (j : Int) (pl : Int) o = 0 := by
            have := HPL.out
            have := HO.out
            unfold runE
            rw [if_neg (by omega), if_neg (by omega)]
          have kr := xrun_ok hC.out (by rw [blkP_v]; exact HOK.out) (j : Int) (pl : Int) o M hrE
          rw [HMV.out] at kr
          have hbk : (runQ w h (j : Int) (pl : Int) o M (blkP w h pl o M q0 j)).1 = blkP w h pl o M q0 (j + 1) := rfl
          have hsy : (runQ w h (j : Int) (pl : Int) o M (blkP w h pl o M q0 j)).2 = symP w h pl o M q0 j := rfl
          rw [hbk, hsy] at kr
          have hsl := symL_succ w h pl o M q0 j
          have hln : (symL w h pl o M q0 j).length = j := by unfold symL; simp
          generalize hL1 : symL w h pl o M q0 j = Ls1 at *
          obtain ⟨L1, hLL⟩ : ∃ x, x = symP w h pl o M q0 j := ⟨_, rfl⟩
          rw [← hLL] at kr hsl
          have hct : ∀ k ∈ [C], ∃ t cs, Blk wr k t cs ∧ t ≠ 52 ∧ t ≠ 35 := by
            intro k hk
            simp at hk
            subst hk
            obtain ⟨c1, h1, _⟩ := hC.out.grid
            exact ⟨_, _, h1, by decide, by decide⟩
          have hVB := hC.out.geC
          have keepR : ∀ W', Kb [C] wr W' → Below W.heap.size W W' ∧ Blk W' W.heap.size 26 #[.bool mb, .bool mr, .bool ms, .bool mc, .bool my] ∧ SsAt W W' (.slice s9 Ls1.length m9) Ls1 := fun W' K => by
            have hs := hB.out.size
            refine ⟨hB.out.trans (K.below (fun i hi => by simp at hi; have := HB1.out; omega) hs), (K.block _ hMB.out.lt fun hm => ?_).trans hMB.out, hS.out.kb K hct⟩
            simp at hm
            have := HB1.out
            omega
          have wj : IntKind.i64.wrap ((j : Int) + 1) = ((j + 1 : Nat) : Int) := by have := HPL.out; have := HNN.out; rw [IntWalk.i64_left]; unfold wrap64; omega
          obtain ⟨m0, m1, m2, m3, m4⟩ := md hMB.out
          have hszr := hB.out.size
          have KR := Lib.hid keepR
          have HSL := Lib.hid hsl
          have HLN := Lib.hid hln
          have HJN := Lib.hid hjn
          have HSZ := Lib.hid hszr
          have hj178 : j ≤ 178 := by have := HPL.out; have := HNN.out; omega
          have HJ178 := Lib.hid hj178
          clear keepR hVB hct hL1 hLL hsl hln hrE hbk hsy hS hB hMB hC hjn hszr hj178
          go_wp2_with (first | (go_at_call 19; (with_reducible refine kr.mono ?_); rintro e w5 ⟨v, rfl, hC5, hK5, hO5⟩; obtain ⟨s5, c5, rfl⟩ := own2_slice hO5; have C5 := Lib.hid hC5; have K5 := Lib.hid (KR.out _ hK5); have SZ5 := Lib.hid hK5.size; have O5 := Lib.hid (own2_lower hO5 HSZ.out); obtain ⟨vs, v1, v2, v3⟩ := K5.out.2.2.ex; have V1 := Lib.hid v1; have V2 := Lib.hid v2; have V3 := Lib.hid v3; clear hC5 hK5 hO5 v1 v2 v3) | (at_builtin; refine wpList_append_own_at _ rfl _ _ 43 rfl W.heap.size 35 i0 (.slice none 0 0) 1 24 Tryd.underlying43 hi hz0 hz1 hz2 rfl (by decide) _ Ls1.length _ rfl (own2_below V2.out ((Below.refl _ _).alloc (Nat.le_refl _) _)) ⟨w5.heap.size, 0, none⟩ 1 1 [.slice s5 L1.length c5] rfl rfl (one_new8 _ _ _) (by intro u hu; simp at hu; subst hu; rfl) (by have := HLN.out; have := HJ178.out; unfold maxLen; omega) (by have := HLN.out; have := HJ178.out; omega) (by have := HSZ.out; have := SZ5.out; simp; omega) ?_))
          intro v' w6 hown hgrow _ _
          have G6 := Lib.hid (SsAt.grow V1.out V2.out V3.out O5.out hown hgrow)
          have N6 := Lib.hid (grown_keep V2.out hgrow)
          have B6 := Lib.hid ((K5.out.1.alloc K5.out.1.size (.cells #[.slice s5 L1.length c5] 35)).grown hgrow (by have := HSZ.out; have := SZ5.out; rw [alloc_size]; omega) fun i hi => (own2_lt V2.out hi).1)
          clear hown hgrow
          go_wp2_with fail
          go_roundw
          case rel =>
            refine ⟨j + 1, v', HJN.out, by go_num, rfl, ?_, rb_keep C5.out N6.out, B6, N6.out _ _ _ K5.out.2.1 (by decide)⟩
            rw [HSL.out]
            exact G6.out
          case measure => have := HJN.out; simp [intOf]; omega
        · have hjn : j = n := by have := HNN.out; omega
          subst hjn
          go_wp2_with fail
          go_ret2
          rw [HLS.out]
          exact ⟨_, rfl, hS.out, hB.out⟩
end Go.Proofs.YtbhjapgioaiocaaDoor
