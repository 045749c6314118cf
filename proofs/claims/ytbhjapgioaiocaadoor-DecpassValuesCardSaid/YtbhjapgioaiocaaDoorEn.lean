/-
  Layer 15: Symbols of the code.
-/
import Derived.Test.YtbhjapgioaiocaaDoorEm
set_option maxRecDepth 100000
namespace Go.Proofs.YtbhjapgioaiocaaDoor
open Go.RowKit

instance (w h : Int) : Decidable (fits w h) := by unfold fits; infer_instance
/-- The error of Symbols; what it returns. -/
def symE (l : List Int) (w h o : Int) : Int := if ¬ fits w h then 2 else if (l.length : Int) ≠ w * h then 4 else if o < 0 ∨ 3 < o then 3 else if ∃ v ∈ l, ¬ okV v then 2 else 0
def SGv (w : World) (c : Int) (Ls : List (List Sy)) (E : Ending) (W' : World) : Prop := ∃ v, E = .returned (.tuple #[v, .int .i64 c]) ∧ SsAt w W' v Ls ∧ Below w.heap.size w W'
theorem cb_types {W : World} {B A V S T R w h : Nat} {q : St} (H : Cb W B A V S T R w h q) : ∀ k ∈ [V, S, T, R], ∃ t cs, Blk W k t cs ∧ t ≠ 52 ∧ t ≠ 35 := by
  intro k hk
  simp at hk
  obtain ⟨c1, h1, _⟩ := H.gv
  obtain ⟨c2, h2, _⟩ := H.gs
  obtain ⟨c3, h3, _⟩ := H.gt
  obtain ⟨c4, h4, _⟩ := H.gr
  rcases hk with rfl | rfl | rfl | rfl
  · exact ⟨_, _, h1, by decide, by decide⟩
  · exact ⟨_, _, h2, by decide, by decide⟩
  · exact ⟨_, _, h3, by decide, by decide⟩
  · exact ⟨_, _, h4, by decide, by decide⟩
theorem infoSs : (Tryd.prog.info? 35).map (fun i => (i.zero, i.size, i.bytes)) = some (some (.slice none 0 0), 1, 24) := by kernel_rfl
/-- What an append to a list of lists keeps. -/
theorem grown_keep {W w2 : World} {base n : Nat} {v : Value} {xs : List Value} {X : Obj} (h2 : W.ownsRow base 35 1 v n xs) (hg : (W.alloc X).grownBy w2 v.ownBlock) : ∀ k t cs, Blk W k t cs → t ≠ 35 → Blk w2 k t cs := fun k t cs hb hne => by
  refine (hb.alloc X).grown hg fun he => ?_
  exact own_blk_ne h2 hb (Ne.symm hne) he.symm
theorem cb_types_keep {W w2 : World} {B A V S T R w h : Nat} {q : St} (H : Cb W B A V S T R w h q) (hk : ∀ k t cs, Blk W k t cs → t ≠ 35 → Blk w2 k t cs) : Cb w2 B A V S T R w h q := by
  obtain ⟨c1, h1, _⟩ := H.gv
  obtain ⟨c2, h2, _⟩ := H.gs
  obtain ⟨c3, h3, _⟩ := H.gt
  obtain ⟨c4, h4, _⟩ := H.gr
  exact H.keep ((hk _ _ _ H.obj (by decide)).trans H.obj.symm) ((hk _ _ _ h1 (by decide)).trans h1.symm) ((hk _ _ _ h2 (by decide)).trans h2.symm) ((hk _ _ _ h3 (by decide)).trans h3.symm) ((hk _ _ _ h4 (by decide)).trans h4.symm)
theorem bit_le60 {x : Nat} (h : x < 1152921504606846976) : Lib.bitLen x ≤ 60 := by
  unfold Lib.bitLen
  have h1 := Lib.bitLenAux_fuel 60 x (by omega) 64 (by decide)
  rw [h1]
  have : ∀ f y, Lib.bitLenAux f y ≤ f := fun f => by
    induction f with
    | zero => intro y; exact Nat.le_refl _
    | succ f ih =>
      intro y
      unfold Lib.bitLenAux
      have := ih (y / 2)
      split <;> omega
  exact this 60 x
theorem tabs_lt {W : World} (h : Cx.Tabs W) : 3 ≤ W.heap.size := by
  have := cell_lt (h.sgn 0 0 (by decide) (by decide)).1
  omega
theorem symbols_c0 (s : Option Addr) (l : List Int) (cp : Nat) (w h o : Int) (m : Mo) (W : World) (hf : ¬ fits w h) : Calls Tryd.prog 22 #[.slice s l.length cp, .int .i64 w, .int .i64 h, .int .i64 o, m.val] W (SGv W 2 []) := by
  have k := fun W => new_no w h hf W
  obtain ⟨mb, mr, ms, mc, my⟩ := m
  unfold Mo.val at *
  have HM := Lib.hid (below_alloc (Below.refl _ W) (.cells #[.bool mb, .bool mr, .bool ms, .bool mc, .bool my] 26))
  clear hf
  go_enter Tryd.func22, Tryd.ntmps22
  go_wp2_with (first | (go_at_call 39; (with_reducible refine (k _).mono ?_); rintro e wn ⟨rfl, rfl⟩))
  go_ret2
  exact ⟨_, rfl, SsAt.nil _ _, HM.out⟩
theorem symbols_c1 (s : Option Addr) (l : List Int) (cp : Nat) (w h : Nat) (o : Int) (m : Mo) (W : World) (hf : fits (w : Int) (h : Int)) (hl : l.length ≠ w * h) : Calls Tryd.prog 22 #[.slice s l.length cp, .int .i64 (w : Int), .int .i64 (h : Int), .int .i64 o, m.val] W (SGv W 4 []) := by
  have k := fun W => new_yes w h hf W
  obtain ⟨mb, mr, ms, mc, my⟩ := m
  unfold Mo.val at *
  have HM := Lib.hid (below_alloc (Below.refl _ W) (.cells #[.bool mb, .bool mr, .bool ms, .bool mc, .bool my] 26))
  have hwh : w * h ≤ 64 * 64 := Nat.mul_le_mul (by unfold fits at hf; omega) (by unfold fits at hf; omega)
  have wm : IntKind.i64.wrap ((w : Int) * (h : Int)) = ((w * h : Nat) : Int) := by rw [IntWalk.i64_left, ← Int.natCast_mul]; unfold wrap64; omega
  have hne : (((l.length : Nat) : Int) == ((w * h : Nat) : Int)) = false := by simp; omega
  have hne2 : (((l.length : Nat) : Int) != ((w * h : Nat) : Int)) = true := by simp; omega
  clear hf hwh hl
  generalize w * h = N at *
  go_enter Tryd.func22, Tryd.ntmps22
  go_wp2_with (first | (go_at_call 39; (with_reducible refine (k _).mono ?_); rintro e wn ⟨A, V, S, T, R, rfl, hC, hB⟩; have HB := Lib.hid (below_call HM.out hB); clear hC hB))
  go_ret2
  exact ⟨_, rfl, SsAt.nil _ _, HB.out⟩
theorem symbols_c2 (s : Option Addr) (l : List Int) (cp : Nat) (w h : Nat) (o : Int) (m : Mo) (W : World) (hf : fits (w : Int) (h : Int)) (hl : l.length = w * h) (ho : ¬ (0 ≤ o ∧ o ≤ 3)) : Calls Tryd.prog 22 #[.slice s l.length cp, .int .i64 (w : Int), .int .i64 (h : Int), .int .i64 o, m.val] W (SGv W 3 []) := by
  have k := fun W => new_yes w h hf W
  have kk := fun W => known_c o W
  rw [decide_eq_false ho] at kk
  obtain ⟨mb, mr, ms, mc, my⟩ := m
  unfold Mo.val at *
  have HM := Lib.hid (below_alloc (Below.refl _ W) (.cells #[.bool mb, .bool mr, .bool ms, .bool mc, .bool my] 26))
  have hwh : w * h ≤ 64 * 64 := Nat.mul_le_mul (by unfold fits at hf; omega) (by unfold fits at hf; omega)
  have wm : IntKind.i64.wrap ((w : Int) * (h : Int)) = ((l.length : Nat) : Int) := by rw [IntWalk.i64_left, ← Int.natCast_mul]; unfold wrap64; omega
  clear hf hwh hl ho
  generalize l.length = N at *
  go_enter Tryd.func22, Tryd.ntmps22
  go_wp2_with (first | (go_at_call 39; (with_reducible refine (k _).mono ?_); rintro e wn ⟨A, V, S, T, R, rfl, hC, hB⟩; have HB := Lib.hid (below_call HM.out hB); clear hC hB) | (go_at_call 70; (with_reducible refine (kk _).mono ?_); rintro e wn ⟨rfl, rfl⟩))
  go_ret2
  exact ⟨_, rfl, SsAt.nil _ _, HB.out⟩
set_option maxHeartbeats 8000000 in
theorem symbols_c3 (s : Option Addr) (l : List Int) (cp : Nat) (w h : Nat) (o : Int) (m : Mo) (W : World) (hf : fits (w : Int) (h : Int)) (hl : l.length = w * h) (ho : 0 ≤ o ∧ o ≤ 3) (hH : HoldsI W s l) (hT : Cx.Tabs W) (hr : ∀ v ∈ l, i64R v) (c : Int) (Ls : List (List Sy)) (hc1 : (∃ v ∈ l, ¬ okV v) → c = 2 ∧ Ls = []) (hc2 : (∀ v ∈ l, okV v) → c = 0 ∧ Ls = symL w h (plnN l) o m (setV w h l l.length) (3 * plnN l - 2)) :
    Calls Tryd.prog 22 #[.slice s l.length cp, .int .i64 (w : Int), .int .i64 (h : Int), .int .i64 o, m.val] W (SGv W c Ls) := by
  have k := fun W => new_yes w h hf W
  have kk := fun W => known_c o W
  rw [decide_eq_true ho] at kk
  obtain ⟨i0, hi, hz0, hz1, hz2⟩ := info2_parts infoSs
  obtain ⟨M, hM⟩ : ∃ M : Mo, M = m := ⟨_, rfl⟩
  have HC1 := Lib.hid hc1
  rw [← hM] at hc2
  have HMV := Lib.hid (show M.val = .agg #[.bool m.b, .bool m.r, .bool m.s, .bool m.c, .bool m.y] by rw [hM]; rfl)
  rw [← hM]
  obtain ⟨mb, mr, ms, mc, my⟩ := m
  rw [HMV.out]
  have hMm := below_alloc (Below.refl _ W) (.cells #[.bool mb, .bool mr, .bool ms, .bool mc, .bool my] 26)
  have HM := Lib.hid hMm
  have hwh : w * h ≤ 64 * 64 := Nat.mul_le_mul (by unfold fits at hf; omega) (by unfold fits at hf; omega)
  have wm : IntKind.i64.wrap ((w : Int) * (h : Int)) = ((l.length : Nat) : Int) := by rw [IntWalk.i64_left, ← Int.natCast_mul]; unfold wrap64; omega
  have hl4 : l.length ≤ 4096 := by omega
  have hw0 : ((w : Int) == 0) = false := by unfold fits at hf; simp; omega
  have HL4 := Lib.hid hl4
  have HHL := Lib.hid hl
  have HHH := Lib.hid hH
  have HT := Lib.hid hT
  have HR := Lib.hid hr
  have HF := Lib.hid hf
  have HO := Lib.hid ho
  have H3 := Lib.hid (tabs_lt hT)
  clear hf hwh ho hH hT hr hMm hl hM hl4 hc1
  generalize hN : l.length = N at *
  have HC2 := Lib.hid hc2
  clear hc2
  have HN := Lib.hid hN
  clear hN
  go_enter Tryd.func22, Tryd.ntmps22
  go_wp2_with (first | (go_at_call 39; (with_reducible refine (k _).mono ?_); rintro e wn ⟨A, V, S, T, R, rfl, hC, hB⟩; have HC := Lib.hid hC; have HB := Lib.hid (below_call HM.out hB); have MB := Lib.hid ((Blk.new W 26 #[.bool mb, .bool mr, .bool ms, .bool mc, .bool my]).below hB); clear hC hB) | (go_at_call 70; (with_reducible refine (kk _).mono ?_); rintro e wn ⟨rfl, rfl⟩))
  obtain ⟨B1, hB1⟩ : ∃ b, b = (W.alloc (.cells #[.bool mb, .bool mr, .bool ms, .bool mc, .bool my] 26)).heap.size := ⟨_, rfl⟩
  have HCB := Lib.hid (show Cb wn B1 A V S T R w h St.zero by rw [hB1]; exact HC.out)
  have HB1 := Lib.hid (show B1 = W.heap.size + 1 by rw [hB1, alloc_size])
  clear HC hB1 k kk
  go_loopw [45] (fun i wr => ∃ k : Nat, k ≤ N ∧ i = .int .i64 (k : Int) ∧ Hid (∀ j, j < k → ∀ v, l[j]? = some v → okV v) ∧ Hid (Cb wr B1 A V S T R w h (setV w h l k)) ∧ Hid (Below W.heap.size W wr) ∧ Hid (Blk wr W.heap.size 26 #[.bool mb, .bool mr, .bool ms, .bool mc, .bool my])) (fun i _ => (N - (intOf i).toNat))
  case atStart => exact ⟨0, by omega, rfl, fun j hj => by omega, HCB.out, HB.out, MB⟩
  case round =>
    obtain ⟨k, hk, rfl, hV, hC, hB, hMB⟩ := hrel
    by_cases hlt : k < N
    · have hlt2 : k < l.length := by have := HN.out; omega
      obtain ⟨b, off, rfl, hA⟩ := (HHH.out.below hB.out (Nat.le_refl _)).resolve_left (fun h => by rw [h] at hlt2; simp at hlt2)
      have c0 := hA k hlt2
      have hgd : l[k]?.getD 0 = l[k] := by rw [List.getElem?_eq_getElem hlt2]; rfl
      have hge : l[k]? = some l[k] := List.getElem?_eq_getElem hlt2
      have hmem := List.getElem_mem hlt2
      obtain ⟨v, hve⟩ : ∃ v, v = l[k] := ⟨_, rfl⟩
      rw [← hve] at c0 hgd hge hmem
      have hwn : ¬ w = 0 := by have := HF.out; unfold fits at this; omega
      have hwp : 0 < w := by have := HF.out; unfold fits at this; omega
      have hx1 := Nat.mod_lt k hwp
      have hy1 : k / w < h := Nat.div_lt_of_lt_mul (by have := HHL.out; omega)
      have m1 : ((k : Int) % (w : Int)) = ((k % w : Nat) : Int) := by rw [Int.natCast_emod]
      have m2 : ((k : Int) / (w : Int)) = ((k / w : Nat) : Int) := by rw [Int.natCast_ediv]
      have m3 : Int.tmod (k : Int) (w : Int) = ((k % w : Nat) : Int) := by rw [Int.tmod_eq_emod_of_nonneg (by omega), m1]
      have m4 : Int.tdiv (k : Int) (w : Int) = ((k / w : Nat) : Int) := by rw [Int.tdiv_eq_ediv_of_nonneg (by omega), m2]
      have hsv : setV w h l (k + 1) = setQ w h (setV w h l k) ((k % w : Nat) : Int) ((k / w : Nat) : Int) v := by show setQ _ _ _ _ _ _ = _; rw [hgd]
      obtain ⟨xn, hxn⟩ : ∃ x, x = k % w := ⟨_, rfl⟩
      obtain ⟨yn, hyn⟩ : ∃ x, x = k / w := ⟨_, rfl⟩
      rw [← hxn] at hx1 m1 m3 hsv
      rw [← hyn] at hy1 m2 m4 hsv
      clear hxn hyn
      have hin : inB w h (xn : Int) (yn : Int) := by unfold inB; omega
      have hyw : yn ≤ 64 := by have := HF.out; unfold fits at this; omega
      have m5 : IntKind.i64.wrap (yn : Int) = (yn : Int) := by rw [IntWalk.i64_left]; unfold wrap64; omega
      have ks := set_c (hC.out.below (Below.refl wr.heap.size wr).drew) (xn : Int) (yn : Int) v
      rw [← hsv] at ks
      have m6 : IntKind.i64.wrap ((k : Int) / (w : Int)) = (yn : Int) := by rw [m2, m5]
      have wk : IntKind.i64.wrap ((k : Int) + 1) = ((k + 1 : Nat) : Int) := by have := HL4.out; rw [IntWalk.i64_left]; unfold wrap64; omega
      have HLT := Lib.hid hlt
      have HGE := Lib.hid hge
      have HMEM := Lib.hid hmem
      have VB := Lib.hid (show ∀ j ∈ [V, S, T, R], B1 ≤ j by
        intro j hj
        have h1 := hC.out.geV
        have h2 := hC.out.geS
        have h3 := hC.out.geT
        have h4 := hC.out.geR
        simp at hj
        omega)
      have keepB : ∀ W', Kb [V, S, T, R] wr.drew W' → Below W.heap.size W W' ∧ Blk W' W.heap.size 26 #[.bool mb, .bool mr, .bool ms, .bool mc, .bool my] := fun W' K => by
        have K := (Kb.of_below [V, S, T, R] (Below.refl wr.heap.size wr).drew).trans K
        have hs := hB.out.size
        refine ⟨hB.out.trans ((K.below (fun j hj => by have := VB.out j hj; have := HB1.out; omega) hs)), (K.block _ hMB.out.lt fun hm => ?_).trans hMB.out⟩
        have := VB.out _ hm
        have := HB1.out
        omega
      by_cases hov : okV v
      · have e0 : setE w h (xn : Int) (yn : Int) v = 0 := by unfold setE; rw [if_pos ⟨hin, hov⟩]
        rw [e0] at ks
        have HOV := Lib.hid hov
        have KB := Lib.hid keepB
        clear e0 hin hgd hge hve hsv hov keepB hmem hA hx1 hy1 hyw
        go_wp2_with fail
        go_region_held3 (fun _ => True) (first | (with_reducible exact trivial) | fail) (first | (go_simp; go_at_call 42; (with_reducible refine ks.mono ?_); rintro e w5 ⟨rfl, hC5, hK5⟩; have C5 := Lib.hid hC5; have K5 := Lib.hid (KB.out _ hK5); clear hC5 hK5) | fail)
        all_goals
          go_wp2_with fail
          go_roundw
          case rel =>
            refine ⟨k + 1, HLT.out, by go_num, fun j hj u hu => ?_, C5, K5.out.1, K5.out.2⟩
            rcases Nat.lt_or_ge j k with h | h
            · exact hV.out j h u hu
            · obtain rfl : j = k := by omega
              rw [HGE.out] at hu
              cases hu
              exact HOV.out
          case measure => have := HLT.out; simp [intOf]; omega
      · have e0 : setE w h (xn : Int) (yn : Int) v = 2 := by unfold setE; rw [if_neg fun h => hov h.2]
        rw [e0] at ks
        have hex : ∃ u ∈ l, ¬ okV u := ⟨v, hmem, hov⟩
        have R1 := Lib.hid (HC1.out hex)
        have KB := Lib.hid keepB
        clear e0 hin hgd hge hve hsv hov keepB hmem hA hx1 hy1 hyw hex
        go_wp2_with fail
        go_region_held3 (fun _ => True) (first | (with_reducible exact trivial) | fail) (first | (go_simp; go_at_call 42; (with_reducible refine ks.mono ?_); rintro e w5 ⟨rfl, hC5, hK5⟩; have K5 := Lib.hid (KB.out _ hK5); clear hC5 hK5) | fail)
        all_goals
          go_wp2_with fail
          go_ret2
          obtain ⟨ec, eL⟩ := R1.out
          rw [ec, eL]
          exact ⟨_, rfl, SsAt.nil _ _, K5.out.1⟩
    · have hkN : k = N := by omega
      subst hkN
      have hall : ∀ v ∈ l, okV v := fun v hv => by
        obtain ⟨j, hj, e⟩ := List.mem_iff_getElem.1 hv
        exact hV.out j (by have := HN.out; omega) v (by rw [List.getElem?_eq_getElem hj, e])
      obtain ⟨hc0, hLs⟩ := HC2.out hall
      have HNk := HN.out
      have kp := planes_c s l cp wr (HHH.out.below hB.out (Nat.le_refl _)) HR.out (by have := HL4.out; omega)
      rw [HNk] at kp
      have hmx : mxN l < 1152921504606846976 := mxN_lt l _ (by decide) fun v hv => by have := hall v hv; unfold okV at this; omega
      have hpl : plnN l ≤ 60 := bit_le60 hmx
      have hok := setV_ok w h l hall k
      obtain ⟨pl, hple⟩ : ∃ p, p = plnN l := ⟨_, rfl⟩
      rw [← hple] at kp hpl hLs
      obtain ⟨q0, hq0⟩ : ∃ q, q = setV w h l k := ⟨_, rfl⟩
      rw [← hq0] at hC hok hLs
      obtain ⟨n, hn⟩ : ∃ n, n = 3 * pl - 2 := ⟨_, rfl⟩
      rw [← hn] at hLs
      have wp1 : IntKind.i64.wrap (3 * (pl : Int)) = 3 * (pl : Int) := by rw [IntWalk.i64_left]; unfold wrap64; omega
      have wp2 : IntKind.i64.wrap (3 * (pl : Int) - 2) = 3 * (pl : Int) - 2 := by rw [IntWalk.i64_left]; unfold wrap64; omega
      have HPL := Lib.hid hpl
      have HNN := Lib.hid hn
      have HC0 := Lib.hid hc0
      have HLS := Lib.hid hLs
      have HOK := Lib.hid hok
      clear hall hc0 hLs hmx hpl hok hple hq0 hn hV hk HNk
      go_wp2_with (first | (go_at_call 25; (with_reducible refine kp.mono ?_); rintro e wn ⟨rfl, rfl⟩))
      clear kp
      obtain ⟨Wo, rfl⟩ : ∃ Wo, Wo = wr := ⟨_, rfl⟩
      go_loopw [18, 68] (fun z i wr => ∃ (k : Nat) (sv : Value), k ≤ n ∧ i = .int .i64 (k : Int) ∧ z = sv ∧ Hid (SsAt W wr sv (symL w h pl o M q0 k)) ∧ Hid (Cb wr B1 A V S T R w h (blkP w h pl o M q0 k)) ∧ Hid (Below W.heap.size W wr) ∧ Hid (Blk wr W.heap.size 26 #[.bool mb, .bool mr, .bool ms, .bool mc, .bool my])) (fun _ i _ => (n - (intOf i).toNat))
      case atStart => exact ⟨0, _, by omega, rfl, rfl, SsAt.nil _ _, hC.out, hB.out, hMB⟩
      case round =>
        obtain ⟨j, sv, hj, rfl, hz, hS, hC, hB, hMB⟩ := hrel
        obtain ⟨s9, m9, rfl⟩ : ∃ s m, sv = .slice s (symL w h pl o M q0 j).length m := hS.out.ex.elim fun _ z => own_slice z.2.1
        subst hz
        by_cases hlt : (j : Int) < 3 * (pl : Int) - 2
        · have hjn : j < n := by have := HNN.out; omega
          have hrE : runE (j : Int) (pl : Int) o = 0 := by
            have := HPL.out
            have := HO.out
            unfold runE
            rw [if_neg (by omega), if_neg (by omega)]
          have T1 := HT.out.below hB.out
          have kr := run_ok hC.out T1 (by rw [blkP_v]; exact HOK.out) (by have := HB1.out; have := H3.out; omega) (j : Int) (pl : Int) o M hrE
          rw [HMV.out] at kr
          have hbk : (runQ w h (j : Int) (pl : Int) o M (blkP w h pl o M q0 j)).1 = blkP w h pl o M q0 (j + 1) := rfl
          have hsy : (runQ w h (j : Int) (pl : Int) o M (blkP w h pl o M q0 j)).2 = symP w h pl o M q0 j := rfl
          rw [hbk, hsy] at kr
          have hsl := symL_succ w h pl o M q0 j
          have hln : (symL w h pl o M q0 j).length = j := by unfold symL; simp
          generalize hL1 : symL w h pl o M q0 j = Ls1 at *
          obtain ⟨L1, hLL⟩ : ∃ x, x = symP w h pl o M q0 j := ⟨_, rfl⟩
          rw [← hLL] at kr hsl
          have hct := cb_types hC.out
          have hVB : ∀ i ∈ [V, S, T, R], B1 ≤ i := by
            intro i hi
            have h1 := hC.out.geV
            have h2 := hC.out.geS
            have h3 := hC.out.geT
            have h4 := hC.out.geR
            simp at hi
            omega
          have keepR : ∀ W', Kb [V, S, T, R] wr W' → Below W.heap.size W W' ∧ Blk W' W.heap.size 26 #[.bool mb, .bool mr, .bool ms, .bool mc, .bool my] ∧ SsAt W W' (.slice s9 Ls1.length m9) Ls1 := fun W' K => by
            have hs := hB.out.size
            refine ⟨hB.out.trans (K.below (fun i hi => by have := hVB i hi; have := HB1.out; omega) hs), (K.block _ hMB.out.lt fun hm => ?_).trans hMB.out, hS.out.kb K hct⟩
            have := hVB _ hm
            have := HB1.out
            omega
          have wj : IntKind.i64.wrap ((j : Int) + 1) = ((j + 1 : Nat) : Int) := by have := HPL.out; have := HNN.out; rw [IntWalk.i64_left]; unfold wrap64; omega
          obtain ⟨m0, m1, m2, m3, m4⟩ := md hMB.out
          have hszr := hB.out.size
          have KR := Lib.hid keepR
          have HSL := Lib.hid hsl
          have HLN := Lib.hid hln
          have HJN := Lib.hid hjn
          have HSZ := Lib.hid hszr
          have hj178 : j ≤ 178 := by have := HPL.out; have := HNN.out; omega
          have HJ178 := Lib.hid hj178
          clear keepR hVB hct hL1 hLL hsl hln hrE T1 hbk hsy hS hB hMB hC hjn hszr hj178
          go_wp2_with (first | (go_at_call 18; (with_reducible refine kr.mono ?_); rintro e w5 ⟨v, rfl, hC5, hK5, hO5⟩; obtain ⟨s5, c5, rfl⟩ := own2_slice hO5; have C5 := Lib.hid hC5; have K5 := Lib.hid (KR.out _ hK5); have SZ5 := Lib.hid hK5.size; have O5 := Lib.hid (own2_lower hO5 HSZ.out); obtain ⟨vs, v1, v2, v3⟩ := K5.out.2.2.ex; have V1 := Lib.hid v1; have V2 := Lib.hid v2; have V3 := Lib.hid v3; clear hC5 hK5 hO5 v1 v2 v3) | (at_builtin; refine wpList_append_own_at _ rfl _ _ 43 rfl W.heap.size 35 i0 (.slice none 0 0) 1 24 Tryd.underlying43 hi hz0 hz1 hz2 rfl (by decide) _ Ls1.length _ rfl (own2_below V2.out ((Below.refl _ _).alloc (Nat.le_refl _) _)) ⟨w5.heap.size, 0, none⟩ 1 1 [.slice s5 L1.length c5] rfl rfl (one_new8 _ _ _) (by intro u hu; simp at hu; subst hu; rfl) (by have := HLN.out; have := HJ178.out; unfold maxLen; omega) (by have := HLN.out; have := HJ178.out; omega) (by have := HSZ.out; have := SZ5.out; simp; omega) ?_))
          intro v' w6 hown hgrow _ _
          have G6 := Lib.hid (SsAt.grow V1.out V2.out V3.out O5.out hown hgrow)
          have N6 := Lib.hid (grown_keep V2.out hgrow)
          have B6 := Lib.hid ((K5.out.1.alloc K5.out.1.size (.cells #[.slice s5 L1.length c5] 35)).grown hgrow (by have := HSZ.out; have := SZ5.out; rw [alloc_size]; omega) fun i hi => (own2_lt V2.out hi).1)
          clear hown hgrow
          go_wp2_with fail
          go_roundw
          case rel =>
            refine ⟨j + 1, v', HJN.out, by go_num, rfl, ?_, cb_types_keep C5.out N6.out, B6, N6.out _ _ _ K5.out.2.1 (by decide)⟩
            rw [HSL.out]
            exact G6.out
          case measure => have := HJN.out; simp [intOf]; omega
        · have hjn : j = n := by have := HNN.out; omega
          subst hjn
          go_wp2_with fail
          go_ret2
          rw [HC0.out, HLS.out]
          exact ⟨_, rfl, hS.out, hB.out⟩
end Go.Proofs.YtbhjapgioaiocaaDoor
