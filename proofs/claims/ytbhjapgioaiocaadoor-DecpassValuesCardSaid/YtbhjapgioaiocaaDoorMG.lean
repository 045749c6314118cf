/-
  Layer 16: Values.
  Layer 16: equal lists; the chapter's examples.
-/
import Derived.Test.YtbhjapgioaiocaaDoorMF
set_option maxRecDepth 100000
namespace Go.Proofs.YtbhjapgioaiocaaDoor
open Go.RowKit

theorem infoI6 : (Tryd.prog.info? 3).map (fun i => (i.zero, i.size, i.bytes)) = some (some (.int .i64 0), 1, 8) := by kernel_rfl
/-- A block older than a row of integers that grows. -/
theorem cb_int {Wl W w2 : World} {B A V S T R w h n : Nat} {q : St} {v : Value} {xs : List Value} {X : Obj} (H : Cb W B A V S T R w h q) (ho : ∀ k, k ∈ [A, V, S, T, R] → k < Wl.heap.size) (h2 : W.ownsRow Wl.heap.size 3 1 v n xs) (hg : (W.alloc X).grownBy w2 v.ownBlock) : Cb w2 B A V S T R w h q := by
  have hal := below_alloc (Below.refl _ W) X
  have k1 : ∀ k, k ∈ [A, V, S, T, R] → k < W.heap.size → w2.heap[k]? = W.heap[k]? := fun k hk hs => by
    have h1 := ho k hk
    have h3 := hal.size
    rw [hg.block k (by omega) (fun e => by have := (own2_lt h2 e.symm).1; omega)]
    exact hal.block k hs
  exact H.keep (k1 _ (by simp) H.obj.lt) (k1 _ (by simp) H.gv.lt) (k1 _ (by simp) H.gs.lt) (k1 _ (by simp) H.gt.lt) (k1 _ (by simp) H.gr.lt)
set_option maxHeartbeats 8000000 in
theorem dval_ok (s : Option Addr) (cp : Nat) (Ls : List (List Sy)) (planes : Int) (w h : Nat) (o : Int) (m : Mo) (W : World) (hf : fits (w : Int) (h : Int)) (hp : 0 ≤ planes ∧ planes ≤ 60) (hn : ¬ max 0 (3 * planes - 2) < (Ls.length : Int)) (ho : 0 ≤ o ∧ o ≤ 3) (hT : Cx.Tabs W) (hH : HoldsW W s Ls) (c : Int) (Qf : St) (hv : valR w h planes o m Ls 0 St.zero = (c, Qf)) :
    Calls Tryd.prog 32 #[.slice s Ls.length cp, .int .i64 planes, .int .i64 (w : Int), .int .i64 (h : Int), .int .i64 o, m.val] W (VG W (if c = 0 then rowL w Qf.v (w * h) else []) (if c = 0 then rowL w (lftM planes Ls.length Qf) (w * h) else []) c) := by
  have k := fun W => new_yes w h hf W
  have kk := fun W => dknown_c o W
  rw [decide_eq_true ho] at kk
  obtain ⟨i0, hi, hz0, hz1, hz2⟩ := info2_parts infoI6
  obtain ⟨XV, hXV⟩ : ∃ x, x = (if c = 0 then rowL w Qf.v (w * h) else []) := ⟨_, rfl⟩
  obtain ⟨XM, hXM⟩ : ∃ x, x = (if c = 0 then rowL w (lftM planes Ls.length Qf) (w * h) else []) := ⟨_, rfl⟩
  rw [← hXV, ← hXM]
  have HXV := Lib.hid hXV
  have HXM := Lib.hid hXM
  clear hXV hXM
  obtain ⟨M, hM⟩ : ∃ M : Mo, M = m := ⟨_, rfl⟩
  rw [← hM] at hv
  have HMV := Lib.hid (show M.val = .agg #[.bool m.b, .bool m.r, .bool m.s, .bool m.c, .bool m.y] by rw [hM]; rfl)
  rw [← hM]
  obtain ⟨mb, mr, ms, mc, my⟩ := m
  rw [HMV.out]
  have hMm := below_alloc (Below.refl _ W) (.cells #[.bool mb, .bool mr, .bool ms, .bool mc, .bool my] 26)
  have HM := Lib.hid hMm
  have h1 : ¬ planes < 0 := by omega
  have h2 : ¬ 60 < planes := by omega
  have wp1 : IntKind.i64.wrap (3 * planes) = 3 * planes := by rw [IntWalk.i64_left]; unfold wrap64; omega
  have wp2 : IntKind.i64.wrap (3 * planes - 2) = 3 * planes - 2 := by rw [IntWalk.i64_left]; unfold wrap64; omega
  have hmx := hmx
  have HN := Lib.hid hn
  have HP := Lib.hid hp
  have HT := Lib.hid hT
  have HF := Lib.hid hf
  have HO := Lib.hid ho
  have H3 := Lib.hid (tabs_lt hT)
  have HV := Lib.hid hv
  have hl178 : Ls.length ≤ 178 := by omega
  have HL178 := Lib.hid hl178
  have HHH := Lib.hid hH
  clear hf ho hH hT hMm hM hv hp hl178
  obtain ⟨N, hN⟩ : ∃ N, N = Ls.length := ⟨_, rfl⟩
  rw [← hN] at hn ⊢
  have HNN := Lib.hid hN
  clear hN
  go_enter Tryd.func32, Tryd.ntmps32
  go_wp2_with (first | (go_at_call 39; (with_reducible refine (k _).mono ?_); rintro e wn ⟨A, V, S, T, R, rfl, hC, hB⟩; have HC := Lib.hid hC; have HB := Lib.hid (below_call HM.out hB); have MB := Lib.hid ((Blk.new W 26 #[.bool mb, .bool mr, .bool ms, .bool mc, .bool my]).below hB); clear hC hB) | (go_at_call 74; (with_reducible refine (kk _).mono ?_); rintro e wn ⟨rfl, rfl⟩))
  obtain ⟨B1, hB1⟩ : ∃ b, b = (W.alloc (.cells #[.bool mb, .bool mr, .bool ms, .bool mc, .bool my] 26)).heap.size := ⟨_, rfl⟩
  have HCB := Lib.hid (show Cb wn B1 A V S T R w h St.zero by rw [hB1]; exact HC.out)
  have HB1 := Lib.hid (show B1 = W.heap.size + 1 by rw [hB1, alloc_size])
  clear HC hB1 k kk h1 h2 hn
  go_loopw [12, 13, 55] (fun v u i wr => ∃ k : Nat, k ≤ N ∧ i = .int .i64 (k : Int) ∧ v = .slice none 0 0 ∧ u = .slice none 0 0 ∧ Hid (∃ q, Cb wr B1 A V S T R w h q ∧ (∀ x y, okV (q.v x y)) ∧ valR w h planes o M (Ls.drop k) k q = (c, Qf)) ∧ Hid (Below W.heap.size W wr) ∧ Hid (Blk wr W.heap.size 26 #[.bool mb, .bool mr, .bool ms, .bool mc, .bool my])) (fun _ _ i _ => (N - (intOf i).toNat))
  case atStart => exact ⟨0, by omega, rfl, rfl, rfl, ⟨St.zero, HCB.out, fun x y => by show okV 0; decide, HV.out⟩, HB.out, MB⟩
  case round =>
    obtain ⟨k, hk, rfl, rfl, rfl, hC, hB, hMB⟩ := hrel
    by_cases hlt : k < N
    · have hlt2 : k < Ls.length := by have := HNN.out; omega
      obtain ⟨b, off, sk, mk, rfl, hA, hY, hmk⟩ := HHH.out.at hlt2
      have c0 := (hB.out.cell (p := ⟨b, off + k, none⟩) (cell_lt hA)).trans hA
      obtain ⟨q, hq1, hq2, hq3⟩ := hC.out
      rw [List.drop_eq_getElem_cons hlt2] at hq3
      obtain ⟨L, hL⟩ : ∃ L, L = Ls[k] := ⟨_, rfl⟩
      rw [← hL] at c0 hY hmk hq3
      have hrE : runE (k : Int) planes o = 0 := by
        have := HN.out
        have := HP.out
        have := HO.out
        have := HNN.out
        unfold runE
        rw [if_neg (by omega), if_neg (by omega)]
      have kr := dreplay_c hq1 (HT.out.below hB.out) hq2 (by have := HB1.out; have := H3.out; omega) (by have := HB1.out; omega) hB.out sk mk L hY hmk k planes o M hrE
      rw [HMV.out] at kr
      have hq4 : (if replE (replS w h planes o M q k L) = 0 then valR w h planes o M (Ls.drop (k + 1)) (k + 1) (replS w h planes o M q k L).1.1 else (replE (replS w h planes o M q k L), (replS w h planes o M q k L).1.1)) = (c, Qf) := hq3
      have hok := dpass_ok (ppR w h (k : Int) planes o M) lstO (kndP (k : Int)) M.y (q, (L, false)) hq2
      have hokq : ∀ x y, okV ((replS w h planes o M q k L).1.1.v x y) := hok
      obtain ⟨ec, hec⟩ : ∃ x, x = replE (replS w h planes o M q k L) := ⟨_, rfl⟩
      obtain ⟨q2, hq2e⟩ : ∃ x, x = (replS w h planes o M q k L).1.1 := ⟨_, rfl⟩
      rw [← hec, ← hq2e] at kr hq4
      rw [← hq2e] at hokq
      have wk : IntKind.i64.wrap ((k : Int) + 1) = ((k + 1 : Nat) : Int) := by have := HL178.out; have := HNN.out; rw [IntWalk.i64_left]; unfold wrap64; omega
      have hVB : ∀ i ∈ [V, S, T, R], B1 ≤ i := by
        intro i hi
        have h1 := hq1.geV
        have h2 := hq1.geS
        have h3 := hq1.geT
        have h4 := hq1.geR
        simp at hi
        omega
      have keepR : ∀ W', Kb [V, S, T, R] wr W' → Below W.heap.size W W' ∧ Blk W' W.heap.size 26 #[.bool mb, .bool mr, .bool ms, .bool mc, .bool my] := fun W' K => by
        have hs := hB.out.size
        refine ⟨hB.out.trans (K.below (fun i hi => by have := hVB i hi; have := HB1.out; omega) hs), (K.block _ hMB.out.lt fun hm => ?_).trans hMB.out⟩
        have := hVB _ hm
        have := HB1.out
        omega
      obtain ⟨m0, m1, m2, m3, m4⟩ := md hMB.out
      have KR := Lib.hid keepR
      have HLT := Lib.hid hlt
      have HQ := Lib.hid hq4
      have HOKQ := Lib.hid hokq
      clear keepR hVB hok hokq hq4 hq3 hq2 hq1 hrE hec hq2e hY hmk hL hA
      by_cases he : ec = 0
      · have HQ2 := Lib.hid (show valR w h planes o M (Ls.drop (k + 1)) (k + 1) q2 = (c, Qf) by have := HQ.out; rwa [if_pos he] at this)
        clear HQ
        subst he
        go_wp2_with (first | (go_at_call 75; (with_reducible refine kr.mono ?_); rintro e w5 ⟨rfl, hC5, hK5⟩; have C5 := Lib.hid hC5; have K5 := Lib.hid (KR.out _ hK5); clear hC5 hK5))
        go_roundw
        case rel => exact ⟨k + 1, HLT.out, by go_num, rfl, rfl, ⟨q2, C5.out, HOKQ.out, HQ2.out⟩, K5.out.1, K5.out.2⟩
        case measure => have := HLT.out; simp [intOf]; omega
      · have e1 : (ec == 0) = false := by simp [he]
        have e2 : (ec != 0) = true := by simp [he]
        have hce : (ec, q2) = (c, Qf) := by have := HQ.out; rwa [if_neg he] at this
        have HCE := Lib.hid (show ec = c from (Prod.mk.inj hce).1)
        have HE := Lib.hid he
        clear he hce
        go_wp2_with (first | (go_at_call 75; (with_reducible refine kr.mono ?_); rintro e w5 ⟨rfl, hC5, hK5⟩; have K5 := Lib.hid (KR.out _ hK5); clear hC5 hK5))
        go_ret3
        rw [← HCE.out, show XV = [] by rw [HXV.out, ← HCE.out, if_neg HE.out], show XM = [] by rw [HXM.out, ← HCE.out, if_neg HE.out]]
        exact ⟨_, _, rfl, Tw.nil _ _, K5.out.1⟩
    · have hkN : k = N := by omega
      subst hkN
      obtain ⟨q, hq1, hq2, hq3⟩ := hC.out
      have e0 : Ls.drop k = [] := List.drop_eq_nil_of_le (by have := HNN.out; omega)
      rw [e0] at hq3
      obtain ⟨rfl, rfl⟩ : 0 = c ∧ q = Qf := Prod.mk.inj hq3
      have HXV2 := Lib.hid (show XV = rowL w q.v (w * h) by rw [HXV.out, if_pos rfl])
      have HXM2 := Lib.hid (show XM = rowL w (lftM planes Ls.length q) (w * h) by rw [HXM.out, if_pos rfl])
      clear HXV HXM
      have kp := fun W => pass_c ((k : Int) - 1) (by have := HL178.out; have := HNN.out; omega) W
      have wn1 : IntKind.i64.wrap ((k : Int) - 1) = (k : Int) - 1 := by have := HL178.out; have := HNN.out; rw [IntWalk.i64_left]; unfold wrap64; omega
      have HC := Lib.hid hq1
      have hfn : ∃ f, f = lftM planes Ls.length q := ⟨_, rfl⟩
      obtain ⟨fm, hfm⟩ := hfn
      rw [show Ls.length = k from HNN.out.symm] at hfm
      have HFM := Lib.hid (show ∀ x y, fm x y = planes - 1 - plnP ((k : Int) - 1) + if (kndP ((k : Int) - 1) = 0 ∨ kndP ((k : Int) - 1) = 1) ∧ q.t x y = false then 1 else 0 by intro x y; rw [hfm]; rfl)
      have HXM3 := Lib.hid (show XM = rowL w fm (w * h) by rw [HXM2.out, show Ls.length = k from HNN.out.symm, hfm])
      have hpl : -1 ≤ plnP ((k : Int) - 1) ∧ plnP ((k : Int) - 1) ≤ 60 := by
        have := HN.out
        have := HP.out
        have := HNN.out
        unfold plnP
        split
        · omega
        split <;> omega
      generalize plnP ((k : Int) - 1) = pl at *
      generalize kndP ((k : Int) - 1) = kd at *
      have wl1 : IntKind.i64.wrap (planes - 1) = planes - 1 := by have := HP.out; rw [IntWalk.i64_left]; unfold wrap64; omega
      have wl2 : IntKind.i64.wrap (planes - 1 - pl) = planes - 1 - pl := by have := HP.out; rw [IntWalk.i64_left]; unfold wrap64; omega
      have wl3 : IntKind.i64.wrap (planes - 1 - pl + 1) = planes - 1 - pl + 1 := by have := HP.out; rw [IntWalk.i64_left]; unfold wrap64; omega
      have HWH := Lib.hid (show w ≤ 64 ∧ h ≤ 64 by have := HF.out; unfold fits at this; omega)
      have HWH2 := Lib.hid (show w * h ≤ 4096 from Nat.mul_le_mul HWH.out.1 HWH.out.2)
      have HOLD := Lib.hid (cb_old hq1)
      clear hq1 hq2 hq3 hC e0 hfm hpl hlt hk hMB HV HHH
      go_wp2_with (first | (go_at_call 51; (with_reducible refine (kp _).mono ?_); rintro e wn ⟨rfl, rfl⟩))
      clear kp wn1
      obtain ⟨Wl, hWl⟩ : ∃ Wl, Wl = wr := ⟨_, rfl⟩
      rw [← hWl] at HOLD
      have HBL := Lib.hid (show Below W.heap.size W Wl by rw [hWl]; exact hB.out)
      have HWL := Lib.hid hWl
      clear hWl
      go_loopw [12, 13, 79] (fun v u i wr => ∃ (y : Nat) (v1 u1 : Value), y ≤ h ∧ i = .int .i64 (y : Int) ∧ v = v1 ∧ u = u1 ∧ Hid (Tw Wl wr v1 u1 (rowL w q.v (y * w)) (rowL w fm (y * w))) ∧ Hid (Below Wl.heap.size Wl wr) ∧ Hid (Cb wr B1 A V S T R w h q)) (fun _ _ i _ => (h - (intOf i).toNat))
      case atStart => exact ⟨0, _, _, Nat.zero_le _, rfl, rfl, rfl, by rw [Nat.zero_mul]; exact Tw.nil _ _, by rw [HWL.out]; exact Below.refl _ _, HC⟩
      case round =>
        obtain ⟨y, v0, u0, hy, rfl, hv0, hu0, T0, B0w, C0⟩ := hrel
        subst hv0
        subst hu0
        by_cases hyh : y < h
        · have HY := Lib.hid hyh
          have wy : IntKind.i64.wrap ((y : Int) + 1) = ((y + 1 : Nat) : Int) := by have := HWH.out; rw [IntWalk.i64_left]; unfold wrap64; omega
          go_wp2_with fail
          obtain ⟨Wo, rfl⟩ : ∃ Wo, Wo = wr := ⟨_, rfl⟩
          go_loopw [12, 13, 83] (fun v u i wr => ∃ (x : Nat) (v1 u1 : Value), x ≤ w ∧ i = .int .i64 (x : Int) ∧ v = v1 ∧ u = u1 ∧ Hid (Tw Wl wr v1 u1 (rowL w q.v (y * w + x)) (rowL w fm (y * w + x))) ∧ Hid (Below Wl.heap.size Wl wr) ∧ Hid (Cb wr B1 A V S T R w h q)) (fun _ _ i _ => (w - (intOf i).toNat))
          case atStart => exact ⟨0, _, _, Nat.zero_le _, rfl, rfl, rfl, by rw [Nat.add_zero]; exact T0, B0w, C0⟩
          case round =>
            obtain ⟨x, v0, u0, hx, rfl, hv0, hu0, T1, B1w, C1⟩ := hrel
            subst hv0
            subst hu0
            by_cases hxw : x < w
            · have HX := Lib.hid hxw
              have NV := Lib.hid (show rowL w q.v (y * w + (x + 1)) = rowL w q.v (y * w + x) ++ [q.v (x : Int) (y : Int)] from rowL_succ w q.v y x hxw)
              have NM := Lib.hid (show rowL w fm (y * w + (x + 1)) = rowL w fm (y * w + x) ++ [fm (x : Int) (y : Int)] from rowL_succ w fm y x hxw)
              have L1 := Lib.hid (show (rowL w q.v (y * w + x)).length ≤ 4096 ∧ (rowL w fm (y * w + x)).length ≤ 4096 by
                rw [rowL_len, rowL_len]
                have := grid_lt hxw HY.out
                have := HWH2.out
                omega)
              have wx : IntKind.i64.wrap ((x : Int) + 1) = ((x + 1 : Nat) : Int) := by have := HWH.out; rw [IntWalk.i64_left]; unfold wrap64; omega
              have kt := touched_c C1.out (x : Int) (y : Int)
              have kv := value_c C1.out (x : Int) (y : Int)
              have hfx := HFM.out (x : Int) (y : Int)
              obtain ⟨s1, m1, rfl⟩ := own2_slice T1.out.a
              obtain ⟨s2, m2, rfl⟩ := own2_slice T1.out.b
              obtain ⟨tt, htt⟩ : ∃ t, t = q.t (x : Int) (y : Int) := ⟨_, rfl⟩
              rw [← htt] at kt hfx
              generalize rowL w q.v (y * w + x) = P1 at *
              generalize rowL w fm (y * w + x) = P2 at *
              clear htt hxw
              obtain ⟨lf, hlf⟩ : ∃ l, l = fm (x : Int) (y : Int) := ⟨_, rfl⟩
              rw [← hlf] at hfx
              have HLF := Lib.hid hlf
              clear hlf
              by_cases k0 : kd = 0
              · subst k0
                cases tt
                · simp at hfx
                  subst hfx
                  go_wp2_with (first | (go_at_call 66; (with_reducible refine kt.mono ?_); rintro e wn ⟨rfl, rfl⟩) | (go_at_call 62; (with_reducible refine kv.mono ?_); rintro e wn ⟨rfl, rfl⟩) | (at_builtin; refine wpList_append_own_at _ rfl _ _ 22 rfl Wl.heap.size 3 i0 (.int .i64 0) 1 8 Tryd.underlying22 hi hz0 hz1 hz2 rfl (by decide) _ P1.length _ rfl (own2_below T1.out.a ((Below.refl _ _).alloc (Nat.le_refl _) _)) ⟨wr.heap.size, 0, none⟩ 1 1 [.int .i64 _] rfl rfl (cell_one_new _ _ _) (by intro u hu; simp at hu; subst hu; rfl) (by have := L1.out; unfold maxLen; omega) (by have := L1.out; omega) (by have := B1w.out.size; simp; omega) ?_))
                  intro v1 w6 hown hgrow _ hat
                  obtain ⟨s6, m6, rfl⟩ := own2_slice hown
                  have T2 := Lib.hid (T1.out.growA hown hgrow hat)
                  have B2w := Lib.hid (tw_below B1w.out rfl hgrow (fun k hk => (own2_lt T1.out.a hk).1))
                  have C2 := Lib.hid (cb_int C1.out HOLD.out T1.out.a hgrow)
                  clear hown hgrow hat
                  go_wp2_with (first | (at_builtin; refine wpList_append_own_at _ rfl _ _ 22 rfl Wl.heap.size 3 i0 (.int .i64 0) 1 8 Tryd.underlying22 hi hz0 hz1 hz2 rfl (by decide) _ P2.length _ rfl (own2_below T2.out.b ((Below.refl _ _).alloc (Nat.le_refl _) _)) ⟨w6.heap.size, 0, none⟩ 1 1 [.int .i64 _] rfl rfl (cell_one_new _ _ _) (by intro u hu; simp at hu; subst hu; rfl) (by have := L1.out; unfold maxLen; omega) (by have := L1.out; omega) (by have := B2w.out.size; simp; omega) ?_))
                  intro u1 w7 hown hgrow _ hat
                  obtain ⟨s7, m7, rfl⟩ := own2_slice hown
                  have T3 := Lib.hid (T2.out.growB hown hgrow hat)
                  have B3w := Lib.hid (tw_below B2w.out rfl hgrow (fun k hk => (own2_lt T2.out.b hk).1))
                  have C3 := Lib.hid (cb_int C2.out HOLD.out T2.out.b hgrow)
                  clear hown hgrow hat
                  go_wp2_with fail
                  go_roundw
                  case rel =>
                    refine ⟨x + 1, _, _, HX.out, by go_num, rfl, rfl, ?_, B3w, C3⟩
                    rw [NV.out, NM.out, ← HLF.out]
                    exact T3.out
                  case measure => have := HX.out; simp [intOf]; omega
                · simp at hfx
                  subst hfx
                  go_wp2_with (first | (go_at_call 66; (with_reducible refine kt.mono ?_); rintro e wn ⟨rfl, rfl⟩) | (go_at_call 62; (with_reducible refine kv.mono ?_); rintro e wn ⟨rfl, rfl⟩) | (at_builtin; refine wpList_append_own_at _ rfl _ _ 22 rfl Wl.heap.size 3 i0 (.int .i64 0) 1 8 Tryd.underlying22 hi hz0 hz1 hz2 rfl (by decide) _ P1.length _ rfl (own2_below T1.out.a ((Below.refl _ _).alloc (Nat.le_refl _) _)) ⟨wr.heap.size, 0, none⟩ 1 1 [.int .i64 _] rfl rfl (cell_one_new _ _ _) (by intro u hu; simp at hu; subst hu; rfl) (by have := L1.out; unfold maxLen; omega) (by have := L1.out; omega) (by have := B1w.out.size; simp; omega) ?_))
                  intro v1 w6 hown hgrow _ hat
                  obtain ⟨s6, m6, rfl⟩ := own2_slice hown
                  have T2 := Lib.hid (T1.out.growA hown hgrow hat)
                  have B2w := Lib.hid (tw_below B1w.out rfl hgrow (fun k hk => (own2_lt T1.out.a hk).1))
                  have C2 := Lib.hid (cb_int C1.out HOLD.out T1.out.a hgrow)
                  clear hown hgrow hat
                  go_wp2_with (first | (at_builtin; refine wpList_append_own_at _ rfl _ _ 22 rfl Wl.heap.size 3 i0 (.int .i64 0) 1 8 Tryd.underlying22 hi hz0 hz1 hz2 rfl (by decide) _ P2.length _ rfl (own2_below T2.out.b ((Below.refl _ _).alloc (Nat.le_refl _) _)) ⟨w6.heap.size, 0, none⟩ 1 1 [.int .i64 _] rfl rfl (cell_one_new _ _ _) (by intro u hu; simp at hu; subst hu; rfl) (by have := L1.out; unfold maxLen; omega) (by have := L1.out; omega) (by have := B2w.out.size; simp; omega) ?_))
                  intro u1 w7 hown hgrow _ hat
                  obtain ⟨s7, m7, rfl⟩ := own2_slice hown
                  have T3 := Lib.hid (T2.out.growB hown hgrow hat)
                  have B3w := Lib.hid (tw_below B2w.out rfl hgrow (fun k hk => (own2_lt T2.out.b hk).1))
                  have C3 := Lib.hid (cb_int C2.out HOLD.out T2.out.b hgrow)
                  clear hown hgrow hat
                  go_wp2_with fail
                  go_roundw
                  case rel =>
                    refine ⟨x + 1, _, _, HX.out, by go_num, rfl, rfl, ?_, B3w, C3⟩
                    rw [NV.out, NM.out, ← HLF.out]
                    exact T3.out
                  case measure => have := HX.out; simp [intOf]; omega
              · have f0 : (kd == 0) = false := by simp [k0]
                by_cases k1 : kd = 1
                · subst k1
                  clear k0
                  cases tt
                  · simp at hfx
                    subst hfx
                    go_wp2_with (first | (go_at_call 66; (with_reducible refine kt.mono ?_); rintro e wn ⟨rfl, rfl⟩) | (go_at_call 62; (with_reducible refine kv.mono ?_); rintro e wn ⟨rfl, rfl⟩) | (at_builtin; refine wpList_append_own_at _ rfl _ _ 22 rfl Wl.heap.size 3 i0 (.int .i64 0) 1 8 Tryd.underlying22 hi hz0 hz1 hz2 rfl (by decide) _ P1.length _ rfl (own2_below T1.out.a ((Below.refl _ _).alloc (Nat.le_refl _) _)) ⟨wr.heap.size, 0, none⟩ 1 1 [.int .i64 _] rfl rfl (cell_one_new _ _ _) (by intro u hu; simp at hu; subst hu; rfl) (by have := L1.out; unfold maxLen; omega) (by have := L1.out; omega) (by have := B1w.out.size; simp; omega) ?_))
                    intro v1 w6 hown hgrow _ hat
                    obtain ⟨s6, m6, rfl⟩ := own2_slice hown
                    have T2 := Lib.hid (T1.out.growA hown hgrow hat)
                    have B2w := Lib.hid (tw_below B1w.out rfl hgrow (fun k hk => (own2_lt T1.out.a hk).1))
                    have C2 := Lib.hid (cb_int C1.out HOLD.out T1.out.a hgrow)
                    clear hown hgrow hat
                    go_wp2_with (first | (at_builtin; refine wpList_append_own_at _ rfl _ _ 22 rfl Wl.heap.size 3 i0 (.int .i64 0) 1 8 Tryd.underlying22 hi hz0 hz1 hz2 rfl (by decide) _ P2.length _ rfl (own2_below T2.out.b ((Below.refl _ _).alloc (Nat.le_refl _) _)) ⟨w6.heap.size, 0, none⟩ 1 1 [.int .i64 _] rfl rfl (cell_one_new _ _ _) (by intro u hu; simp at hu; subst hu; rfl) (by have := L1.out; unfold maxLen; omega) (by have := L1.out; omega) (by have := B2w.out.size; simp; omega) ?_))
                    intro u1 w7 hown hgrow _ hat
                    obtain ⟨s7, m7, rfl⟩ := own2_slice hown
                    have T3 := Lib.hid (T2.out.growB hown hgrow hat)
                    have B3w := Lib.hid (tw_below B2w.out rfl hgrow (fun k hk => (own2_lt T2.out.b hk).1))
                    have C3 := Lib.hid (cb_int C2.out HOLD.out T2.out.b hgrow)
                    clear hown hgrow hat
                    go_wp2_with fail
                    go_roundw
                    case rel =>
                      refine ⟨x + 1, _, _, HX.out, by go_num, rfl, rfl, ?_, B3w, C3⟩
                      rw [NV.out, NM.out, ← HLF.out]
                      exact T3.out
                    case measure => have := HX.out; simp [intOf]; omega
                  · simp at hfx
                    subst hfx
                    go_wp2_with (first | (go_at_call 66; (with_reducible refine kt.mono ?_); rintro e wn ⟨rfl, rfl⟩) | (go_at_call 62; (with_reducible refine kv.mono ?_); rintro e wn ⟨rfl, rfl⟩) | (at_builtin; refine wpList_append_own_at _ rfl _ _ 22 rfl Wl.heap.size 3 i0 (.int .i64 0) 1 8 Tryd.underlying22 hi hz0 hz1 hz2 rfl (by decide) _ P1.length _ rfl (own2_below T1.out.a ((Below.refl _ _).alloc (Nat.le_refl _) _)) ⟨wr.heap.size, 0, none⟩ 1 1 [.int .i64 _] rfl rfl (cell_one_new _ _ _) (by intro u hu; simp at hu; subst hu; rfl) (by have := L1.out; unfold maxLen; omega) (by have := L1.out; omega) (by have := B1w.out.size; simp; omega) ?_))
                    intro v1 w6 hown hgrow _ hat
                    obtain ⟨s6, m6, rfl⟩ := own2_slice hown
                    have T2 := Lib.hid (T1.out.growA hown hgrow hat)
                    have B2w := Lib.hid (tw_below B1w.out rfl hgrow (fun k hk => (own2_lt T1.out.a hk).1))
                    have C2 := Lib.hid (cb_int C1.out HOLD.out T1.out.a hgrow)
                    clear hown hgrow hat
                    go_wp2_with (first | (at_builtin; refine wpList_append_own_at _ rfl _ _ 22 rfl Wl.heap.size 3 i0 (.int .i64 0) 1 8 Tryd.underlying22 hi hz0 hz1 hz2 rfl (by decide) _ P2.length _ rfl (own2_below T2.out.b ((Below.refl _ _).alloc (Nat.le_refl _) _)) ⟨w6.heap.size, 0, none⟩ 1 1 [.int .i64 _] rfl rfl (cell_one_new _ _ _) (by intro u hu; simp at hu; subst hu; rfl) (by have := L1.out; unfold maxLen; omega) (by have := L1.out; omega) (by have := B2w.out.size; simp; omega) ?_))
                    intro u1 w7 hown hgrow _ hat
                    obtain ⟨s7, m7, rfl⟩ := own2_slice hown
                    have T3 := Lib.hid (T2.out.growB hown hgrow hat)
                    have B3w := Lib.hid (tw_below B2w.out rfl hgrow (fun k hk => (own2_lt T2.out.b hk).1))
                    have C3 := Lib.hid (cb_int C2.out HOLD.out T2.out.b hgrow)
                    clear hown hgrow hat
                    go_wp2_with fail
                    go_roundw
                    case rel =>
                      refine ⟨x + 1, _, _, HX.out, by go_num, rfl, rfl, ?_, B3w, C3⟩
                      rw [NV.out, NM.out, ← HLF.out]
                      exact T3.out
                    case measure => have := HX.out; simp [intOf]; omega
                · have f1 : (kd == 1) = false := by simp [k1]
                  simp [k0, k1] at hfx
                  subst hfx
                  clear k0 k1
                  go_wp2_with (first | (go_at_call 66; (with_reducible refine kt.mono ?_); rintro e wn ⟨rfl, rfl⟩) | (go_at_call 62; (with_reducible refine kv.mono ?_); rintro e wn ⟨rfl, rfl⟩) | (at_builtin; refine wpList_append_own_at _ rfl _ _ 22 rfl Wl.heap.size 3 i0 (.int .i64 0) 1 8 Tryd.underlying22 hi hz0 hz1 hz2 rfl (by decide) _ P1.length _ rfl (own2_below T1.out.a ((Below.refl _ _).alloc (Nat.le_refl _) _)) ⟨wr.heap.size, 0, none⟩ 1 1 [.int .i64 _] rfl rfl (cell_one_new _ _ _) (by intro u hu; simp at hu; subst hu; rfl) (by have := L1.out; unfold maxLen; omega) (by have := L1.out; omega) (by have := B1w.out.size; simp; omega) ?_))
                  intro v1 w6 hown hgrow _ hat
                  obtain ⟨s6, m6, rfl⟩ := own2_slice hown
                  have T2 := Lib.hid (T1.out.growA hown hgrow hat)
                  have B2w := Lib.hid (tw_below B1w.out rfl hgrow (fun k hk => (own2_lt T1.out.a hk).1))
                  have C2 := Lib.hid (cb_int C1.out HOLD.out T1.out.a hgrow)
                  clear hown hgrow hat
                  go_wp2_with (first | (at_builtin; refine wpList_append_own_at _ rfl _ _ 22 rfl Wl.heap.size 3 i0 (.int .i64 0) 1 8 Tryd.underlying22 hi hz0 hz1 hz2 rfl (by decide) _ P2.length _ rfl (own2_below T2.out.b ((Below.refl _ _).alloc (Nat.le_refl _) _)) ⟨w6.heap.size, 0, none⟩ 1 1 [.int .i64 _] rfl rfl (cell_one_new _ _ _) (by intro u hu; simp at hu; subst hu; rfl) (by have := L1.out; unfold maxLen; omega) (by have := L1.out; omega) (by have := B2w.out.size; simp; omega) ?_))
                  intro u1 w7 hown hgrow _ hat
                  obtain ⟨s7, m7, rfl⟩ := own2_slice hown
                  have T3 := Lib.hid (T2.out.growB hown hgrow hat)
                  have B3w := Lib.hid (tw_below B2w.out rfl hgrow (fun k hk => (own2_lt T2.out.b hk).1))
                  have C3 := Lib.hid (cb_int C2.out HOLD.out T2.out.b hgrow)
                  clear hown hgrow hat
                  go_wp2_with fail
                  go_roundw
                  case rel =>
                    refine ⟨x + 1, _, _, HX.out, by go_num, rfl, rfl, ?_, B3w, C3⟩
                    rw [NV.out, NM.out, ← HLF.out]
                    exact T3.out
                  case measure => have := HX.out; simp [intOf]; omega
            · obtain rfl : x = w := by omega
              go_wp2_with fail
              go_roundw
              case rel => exact ⟨y + 1, _, _, HY.out, by go_num, rfl, rfl, by rw [Nat.succ_mul]; exact T1, B1w, C1⟩
              case measure => have := HY.out; simp [intOf]; omega
        · obtain rfl : y = h := by omega
          go_wp2_with fail
          go_ret3
          refine ⟨_, _, rfl, ?_, HBL.out.trans (B0w.out.mono HBL.out.size)⟩
          rw [HXV2.out, HXM3.out, Nat.mul_comm]
          have T := T0.out
          exact ⟨own2_lower T.a HBL.out.size, own2_lower T.b HBL.out.size, T.d⟩
end Go.Proofs.YtbhjapgioaiocaaDoor
set_option maxRecDepth 100000
namespace Go.Proofs.YtbhjapgioaiocaaDoor
open Go.RowKit

theorem same03_t (w : World) (l : List Int) (s t : Option Addr) (n m k : Nat) (hn : n = l.length) (ha : HoldsI w s l) (hb : HoldsI w t l) (hl : l.length ≤ 1000000000) :
    Calls Tryd.prog 34 #[.slice s n m, .slice t n k] w fun e w' => e = .returned (.bool true) ∧ Below w.heap.size w w' := by
  subst hn
  have HA := Lib.hid ha
  have HB := Lib.hid hb
  clear ha hb
  go_enter Tryd.func34, Tryd.ntmps34
  go_wp2_with fail
  go_loopw [13] (fun i wr => ∃ j : Nat, j ≤ l.length ∧ i = .int .i64 (j : Int) ∧ Below w.heap.size w wr) (fun i _ => l.length - (intOf i).toNat)
  case atStart => exact ⟨0, Nat.zero_le _, rfl, Below.refl _ _⟩
  case round =>
    obtain ⟨j, hj, rfl, hW⟩ := hrel
    by_cases hlt : j < l.length
    · obtain ⟨g, off, rfl, hc⟩ := (HA.out.call hW).at hlt
      obtain ⟨g2, off2, rfl, hc2⟩ := (HB.out.call hW).at hlt
      generalize l.getD j 0 = x at *
      have hxx : (x != x) = false := by simp
      have wj : IntKind.i64.wrap ((j : Int) + 1) = ((j + 1 : Nat) : Int) := by rw [IntWalk.i64_left]; unfold wrap64; omega
      go_wp2_with fail
      go_quiet (fail)
      go_wp2_with fail
      go_roundw
      case rel => exact ⟨j + 1, by omega, by go_num, hW.trans ((drewN_below wr nq).mono hW.size)⟩
      case measure => simp [intOf]; omega
    · obtain rfl : j = l.length := by omega
      go_wp2_with fail
      go_ret
      exact ⟨rfl, hW⟩
/-- Values, as one contract. -/
theorem dval_c (s : Option Addr) (cp : Nat) (Ls : List (List Sy)) (planes w h o : Int) (m : Mo) (W : World) (hT : Cx.Tabs W) (hH : HoldsW W s Ls) :
    Calls Tryd.prog 32 #[.slice s Ls.length cp, .int .i64 planes, .int .i64 w, .int .i64 h, .int .i64 o, m.val] W (VG W (valV w h planes o m Ls) (valM2 w h planes o m Ls) (valC w h planes o m Ls)) := by
  by_cases hf : fits w h
  · obtain ⟨w0, rfl⟩ : ∃ n : Nat, w = n := ⟨w.toNat, by unfold fits at hf; omega⟩
    obtain ⟨h0, rfl⟩ : ∃ n : Nat, h = n := ⟨h.toNat, by unfold fits at hf; omega⟩
    by_cases hp : planes < 0 ∨ 60 < planes
    · have e0 : valC (w0 : Int) (h0 : Int) planes o m Ls = 2 := by unfold valC; rw [if_pos (.inr hp)]
      have e1 : valV (w0 : Int) (h0 : Int) planes o m Ls = [] := by unfold valV; rw [e0]; rfl
      have e2 : valM2 (w0 : Int) (h0 : Int) planes o m Ls = [] := by unfold valM2; rw [e0]; rfl
      rw [e0, e1, e2]
      exact dval_e1 s _ cp planes w0 h0 o m W hf hp
    by_cases hn : max 0 (3 * planes - 2) < (Ls.length : Int)
    · have e0 : valC (w0 : Int) (h0 : Int) planes o m Ls = 4 := by unfold valC; rw [if_neg (fun z => z.elim (fun k => k hf) hp), if_pos hn]
      have e1 : valV (w0 : Int) (h0 : Int) planes o m Ls = [] := by unfold valV; rw [e0]; rfl
      have e2 : valM2 (w0 : Int) (h0 : Int) planes o m Ls = [] := by unfold valM2; rw [e0]; rfl
      rw [e0, e1, e2]
      exact dval_e2 s _ cp planes w0 h0 o m W hf (by omega) hn
    by_cases ho : o < 0 ∨ 3 < o
    · have e0 : valC (w0 : Int) (h0 : Int) planes o m Ls = 3 := by unfold valC; rw [if_neg (fun z => z.elim (fun k => k hf) hp), if_neg hn, if_pos ho]
      have e1 : valV (w0 : Int) (h0 : Int) planes o m Ls = [] := by unfold valV; rw [e0]; rfl
      have e2 : valM2 (w0 : Int) (h0 : Int) planes o m Ls = [] := by unfold valM2; rw [e0]; rfl
      rw [e0, e1, e2]
      exact dval_e3 s _ cp planes w0 h0 o m W hf (by omega) hn (by omega)
    have e0 : valC (w0 : Int) (h0 : Int) planes o m Ls = (valR w0 h0 planes o m Ls 0 St.zero).1 := by unfold valC; rw [if_neg (fun z => z.elim (fun k => k hf) hp), if_neg hn, if_neg ho]; rfl
    have k := dval_ok s cp Ls planes w0 h0 o m W hf (by omega) hn (by omega) hT hH (valR w0 h0 planes o m Ls 0 St.zero).1 (valR w0 h0 planes o m Ls 0 St.zero).2 rfl
    unfold valV valM2 valQ
    rw [e0]
    exact k
  · have e0 : valC w h planes o m Ls = 2 := by unfold valC; rw [if_pos (.inl hf)]
    have e1 : valV w h planes o m Ls = [] := by unfold valV; rw [e0]; rfl
    have e2 : valM2 w h planes o m Ls = [] := by unfold valM2; rw [e0]; rfl
    rw [e0, e1, e2]
    exact dval_e0 s _ cp planes w h o m W hf
def exA : List (List Sy) := [[(17, 1), (18, 1), (18, 0), (9, 0), (3, 0)], [(3, 0), (3, 1), (10, 0)]]
def exB : List (List Sy) := [[(0, 1), (9, 1)]]
def moS : Mo := ⟨false, false, false, false, true⟩
theorem exA_is : valC 1 4 2 0 mo0 exA = 0 ∧ valV 1 4 2 0 mo0 exA = [0, 0, 2, 1] ∧ valM2 1 4 2 0 mo0 exA = [1, 0, 1, 0] := by decide +kernel
theorem exB_is : valC 1 1 1 0 moS exB = 8 ∧ valV 1 1 1 0 moS exB = [] ∧ valM2 1 1 1 0 moS exB = [] := by decide +kernel
def exWA (w : World) : World := ((w.alloc (.cells #[.int .i64 17, .int .i64 1, .int .i64 18, .int .i64 1, .int .i64 18, .int .i64 0, .int .i64 9, .int .i64 0, .int .i64 3, .int .i64 0] 52)).alloc (.cells #[.int .i64 3, .int .i64 0, .int .i64 3, .int .i64 1, .int .i64 10, .int .i64 0] 52)).alloc (.cells #[.slice (some ⟨w.heap.size, 0, none⟩) 5 5, .slice (some ⟨w.heap.size + 1, 0, none⟩) 3 3] 35)
def exWB (w : World) : World := (w.alloc (.cells #[.int .i64 0, .int .i64 1, .int .i64 9, .int .i64 1] 52)).alloc (.cells #[.slice (some ⟨w.heap.size, 0, none⟩) 2 2] 35)
theorem exWA_holds (w : World) : HoldsW (exWA w) (some ⟨w.heap.size + 1 + 1, 0, none⟩) exA ∧ Below w.heap.size w (exWA w) := by
  obtain ⟨w1, h1⟩ : ∃ x, x = w.alloc (.cells #[.int .i64 17, .int .i64 1, .int .i64 18, .int .i64 1, .int .i64 18, .int .i64 0, .int .i64 9, .int .i64 0, .int .i64 3, .int .i64 0] 52) := ⟨_, rfl⟩
  obtain ⟨w2, h2⟩ : ∃ x, x = w1.alloc (.cells #[.int .i64 3, .int .i64 0, .int .i64 3, .int .i64 1, .int .i64 10, .int .i64 0] 52) := ⟨_, rfl⟩
  obtain ⟨w3, h3⟩ : ∃ x, x = w2.alloc (.cells #[.slice (some ⟨w.heap.size, 0, none⟩) 5 5, .slice (some ⟨w.heap.size + 1, 0, none⟩) 3 3] 35) := ⟨_, rfl⟩
  have e : exWA w = w3 := by rw [h3, h2, h1]; rfl
  have z1 : w1.heap.size = w.heap.size + 1 := by rw [h1, alloc_size]
  have z2 : w2.heap.size = w.heap.size + 2 := by rw [h2, alloc_size, z1]
  have b1 : Below w.heap.size w w1 := by rw [h1]; exact below_alloc (Below.refl _ _) _
  have b2 : Below w1.heap.size w1 w2 := by rw [h2]; exact below_alloc (Below.refl _ _) _
  have b3 : Below w2.heap.size w2 w3 := by rw [h3]; exact below_alloc (Below.refl _ _) _
  have y1 : HoldsY w1 (some ⟨w.heap.size, 0, none⟩) [(17, 1), (18, 1), (18, 0), (9, 0), (3, 0)] := by rw [h1]; exact pair_new w _ _ rfl
  have y2 : HoldsY w2 (some ⟨w.heap.size + 1, 0, none⟩) [(3, 0), (3, 1), (10, 0)] := by rw [h2, ← z1]; exact pair_new w1 _ _ rfl
  have hb : Blk w3 (w.heap.size + 2) 35 #[.slice (some ⟨w.heap.size, 0, none⟩) 5 5, .slice (some ⟨w.heap.size + 1, 0, none⟩) 3 3] := by rw [h3, ← z2]; exact Blk.new _ _ _
  rw [e]
  refine ⟨.inr ⟨_, 0, rfl, fun k hk => ?_⟩, below_call (below_call b1 b2) b3⟩
  have hk2 : k < 2 := hk
  match k, hk2 with
  | 0, _ => exact ⟨_, _, hb.cell 0, (y1.call b2).call b3, Nat.le_refl 5⟩
  | 1, _ => exact ⟨_, _, hb.cell 1, y2.call b3, Nat.le_refl 3⟩
theorem exWB_holds (w : World) : HoldsW (exWB w) (some ⟨w.heap.size + 1, 0, none⟩) exB ∧ Below w.heap.size w (exWB w) := by
  obtain ⟨w1, h1⟩ : ∃ x, x = w.alloc (.cells #[.int .i64 0, .int .i64 1, .int .i64 9, .int .i64 1] 52) := ⟨_, rfl⟩
  obtain ⟨w2, h2⟩ : ∃ x, x = w1.alloc (.cells #[.slice (some ⟨w.heap.size, 0, none⟩) 2 2] 35) := ⟨_, rfl⟩
  have e : exWB w = w2 := by rw [h2, h1]; rfl
  have z1 : w1.heap.size = w.heap.size + 1 := by rw [h1, alloc_size]
  have b1 : Below w.heap.size w w1 := by rw [h1]; exact below_alloc (Below.refl _ _) _
  have b2 : Below w1.heap.size w1 w2 := by rw [h2]; exact below_alloc (Below.refl _ _) _
  have y1 : HoldsY w1 (some ⟨w.heap.size, 0, none⟩) [(0, 1), (9, 1)] := by rw [h1]; exact pair_new w _ _ rfl
  have hb : Blk w2 (w.heap.size + 1) 35 #[.slice (some ⟨w.heap.size, 0, none⟩) 2 2] := by rw [h2, ← z1]; exact Blk.new _ _ _
  rw [e]
  refine ⟨.inr ⟨_, 0, rfl, fun k hk => ?_⟩, below_call b1 b2⟩
  have hk1 : k < 1 := hk
  match k, hk1 with
  | 0, _ => exact ⟨_, _, hb.cell 0, y1.call b2, Nat.le_refl 2⟩
theorem tw_holdA {W0 W : World} {v u : Value} {x y : List Int} (n : Nat) (hn : x.length = n) (H : Tw W0 W v u x y) : ∃ s m, v = .slice s n m ∧ HoldsI W s x := by
  subst hn
  obtain ⟨s, m, rfl⟩ := own2_slice H.a
  exact ⟨s, m, rfl, (own_holds H.a).2⟩
theorem tw_holdB {W0 W : World} {v u : Value} {x y : List Int} (n : Nat) (hn : y.length = n) (H : Tw W0 W v u x y) : ∃ s m, u = .slice s n m ∧ HoldsI W s y := by
  subst hn
  obtain ⟨s, m, rfl⟩ := own2_slice H.b
  exact ⟨s, m, rfl, (own_holds H.b).2⟩
set_option maxHeartbeats 4000000 in
theorem ex16_c (W : World) (hT : Cx.Tabs W) : Calls Tryd.prog 31 #[] W fun e w' => e = .returned (.bool true) ∧ Below W.heap.size W w' := by
  have k1 : Calls Tryd.prog 32 #[.slice (some ⟨W.heap.size + 1 + 1, 0, none⟩) 2 2, .int .i64 2, .int .i64 1, .int .i64 4, .int .i64 0, .agg #[.bool false, .bool false, .bool false, .bool false, .bool false]] (exWA W) (VG (exWA W) [0, 0, 2, 1] [1, 0, 1, 0] 0) := by
    obtain ⟨h1, h2⟩ := exWA_holds W
    have := dval_c _ 2 exA 2 1 4 0 mo0 (exWA W) (hT.below h2) h1
    rw [exA_is.1, exA_is.2.1, exA_is.2.2] at this
    exact this
  have k2 : ∀ w1, Below W.heap.size W w1 → Calls Tryd.prog 32 #[.slice (some ⟨w1.heap.size + 1, 0, none⟩) 1 1, .int .i64 1, .int .i64 1, .int .i64 1, .int .i64 0, .agg #[.bool false, .bool false, .bool false, .bool false, .bool true]] (exWB w1) (VG (exWB w1) [] [] 8) := fun w1 hb => by
    obtain ⟨h1, h2⟩ := exWB_holds w1
    have := dval_c _ 1 exB 1 1 1 0 moS (exWB w1) (hT.below (below_call hb h2)) h1
    rw [exB_is.1, exB_is.2.1, exB_is.2.2] at this
    exact this
  have bA := Lib.hid (exWA_holds W).2
  have bB := fun w1 => Lib.hid (exWB_holds w1).2
  clear hT
  unfold exWA at k1 bA
  unfold exWB at k2 bB
  go_enter Tryd.func31, Tryd.ntmps31
  go_wp2_with (first | (go_at_call 32; first | ((with_reducible refine k1.mono ?_); rintro e wa ⟨va, ua, rfl, hS, hb⟩; obtain ⟨sa, ma, rfl, ha⟩ := tw_holdA 4 rfl hS; obtain ⟨sb, mb, rfl, hb2⟩ := tw_holdB 4 rfl hS; have SA := Lib.hid ha; have SB := Lib.hid hb2; clear ha hb2 hS; have BA := Lib.hid (below_call bA.out hb); have k2a := k2 _ BA.out; have bBa := bB wa; clear hb) | ((with_reducible refine k2a.mono ?_); rintro e wb ⟨vb, ub, rfl, hS, hb⟩; have HAB := Lib.hid (below_call bBa.out hb); have BB := Lib.hid (below_call BA.out HAB.out); clear hS hb)))
  have h3 := below_alloc (Below.refl _ wb) (.cells #[.int .i64 0, .int .i64 0, .int .i64 2, .int .i64 1] 3)
  have k3 := same03_t (wb.alloc (.cells #[.int .i64 0, .int .i64 0, .int .i64 2, .int .i64 1] 3)) [0, 0, 2, 1] sa (some ⟨wb.heap.size, 0, none⟩) 4 ma 4 rfl ((SA.out.call HAB.out).call h3) (holds_new _ _ rfl _ _ rfl) (by decide)
  have k4 := fun wc (hc : Below wb.heap.size wb wc) => same03_t (wc.alloc (.cells #[.int .i64 1, .int .i64 0, .int .i64 1, .int .i64 0] 3)) [1, 0, 1, 0] sb (some ⟨wc.heap.size, 0, none⟩) 4 mb 4 rfl (((SB.out.call HAB.out).call hc).call (below_alloc (Below.refl _ wc) _)) (holds_new _ _ rfl _ _ rfl) (by decide)
  have H3 := Lib.hid h3
  clear h3 k1 k2 k2a
  go_wp2_with (first | (go_at_call 34; first | ((with_reducible refine k3.mono ?_); rintro e wc ⟨rfl, hc⟩; have HC := Lib.hid (below_call H3.out hc); have k4c := k4 _ HC.out; clear hc) | ((with_reducible refine k4c.mono ?_); rintro e wd ⟨rfl, hd⟩; have HD := Lib.hid (below_call (below_call HC.out (below_alloc (Below.refl _ wc) _)) hd); clear hd)))
  go_ret
  exact ⟨rfl, below_call BB.out HD.out⟩
end Go.Proofs.YtbhjapgioaiocaaDoor
