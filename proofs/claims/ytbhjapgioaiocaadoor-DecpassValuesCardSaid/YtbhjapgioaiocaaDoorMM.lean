/-
  Layer 16: the reference's Values.
  Layer 16: a list of lists of symbols as an argument, with its sizes.
-/
import Derived.Test.YtbhjapgioaiocaaDoorML
import Derived.Test.YtbhjapgioaiocaaDoorMG
import Derived.Test.YtbhjapgioaiocaaDoorMH
import Derived.SizedLaws
set_option maxRecDepth 100000
namespace Go.Proofs.YtbhjapgioaiocaaDoor
open Go.RowKit

theorem yval_e0 (s : Option Addr) (n cp : Nat) (planes w h o : Int) (m : Mo) (W : World) (hf : ¬ fits w h ∨ planes < 0 ∨ 60 < planes) : Calls Tryd.prog 33 #[.slice s n cp, .int .i64 planes, .int .i64 w, .int .i64 h, .int .i64 o, m.val] W (VG W [] [] 2) := by
  obtain ⟨mb, mr, ms, mc, my⟩ := m
  unfold Mo.val at *
  have HM := Lib.hid (below_alloc (Below.refl _ W) (.cells #[.bool mb, .bool mr, .bool ms, .bool mc, .bool my] 26))
  have h6 : w < 1 ∨ (¬ w < 1 ∧ 64 < w) ∨ (¬ w < 1 ∧ ¬ 64 < w ∧ h < 1) ∨ (¬ w < 1 ∧ ¬ 64 < w ∧ ¬ h < 1 ∧ 64 < h) ∨ (¬ w < 1 ∧ ¬ 64 < w ∧ ¬ h < 1 ∧ ¬ 64 < h ∧ planes < 0) ∨ (¬ w < 1 ∧ ¬ 64 < w ∧ ¬ h < 1 ∧ ¬ 64 < h ∧ ¬ planes < 0 ∧ 60 < planes) := by unfold fits at hf; omega
  clear hf
  rcases h6 with h1 | ⟨h1, h2⟩ | ⟨h1, h2, h3⟩ | ⟨h1, h2, h3, h4⟩ | ⟨h1, h2, h3, h4, h5⟩ | ⟨h1, h2, h3, h4, h5, h6⟩
  all_goals
    go_enter Tryd.func33, Tryd.ntmps33
    go_wp2_with fail
    go_ret3
    exact ⟨_, _, rfl, Tw.nil _ _, HM.out⟩
theorem yval_e2 (s : Option Addr) (n cp : Nat) (planes w h o : Int) (m : Mo) (W : World) (hf : fits w h) (hp : 0 ≤ planes ∧ planes ≤ 60) (hn : max 0 (3 * planes - 2) < (n : Int)) : Calls Tryd.prog 33 #[.slice s n cp, .int .i64 planes, .int .i64 w, .int .i64 h, .int .i64 o, m.val] W (VG W [] [] 4) := by
  obtain ⟨mb, mr, ms, mc, my⟩ := m
  unfold Mo.val at *
  have HM := Lib.hid (below_alloc (Below.refl _ W) (.cells #[.bool mb, .bool mr, .bool ms, .bool mc, .bool my] 26))
  obtain ⟨h1, h2, h3, h4⟩ : ¬ w < 1 ∧ ¬ 64 < w ∧ ¬ h < 1 ∧ ¬ 64 < h := by unfold fits at hf; omega
  have h5 : ¬ planes < 0 := by omega
  have h6 : ¬ 60 < planes := by omega
  have wp1 : IntKind.i64.wrap (3 * planes) = 3 * planes := by rw [IntWalk.i64_left]; unfold wrap64; omega
  have wp2 : IntKind.i64.wrap (3 * planes - 2) = 3 * planes - 2 := by rw [IntWalk.i64_left]; unfold wrap64; omega
  have hmx := hmx
  clear hf hp
  go_enter Tryd.func33, Tryd.ntmps33
  go_wp2_with fail
  go_ret3
  exact ⟨_, _, rfl, Tw.nil _ _, HM.out⟩
theorem yval_e3 (s : Option Addr) (n cp : Nat) (planes w h o : Int) (m : Mo) (W : World) (hf : fits w h) (hp : 0 ≤ planes ∧ planes ≤ 60) (hn : ¬ max 0 (3 * planes - 2) < (n : Int)) (ho : ¬ (0 ≤ o ∧ o ≤ 3)) : Calls Tryd.prog 33 #[.slice s n cp, .int .i64 planes, .int .i64 w, .int .i64 h, .int .i64 o, m.val] W (VG W [] [] 3) := by
  have kk := fun W => xvalid_c o W
  rw [decide_eq_false ho] at kk
  obtain ⟨mb, mr, ms, mc, my⟩ := m
  unfold Mo.val at *
  have HM := Lib.hid (below_alloc (Below.refl _ W) (.cells #[.bool mb, .bool mr, .bool ms, .bool mc, .bool my] 26))
  obtain ⟨h1, h2, h3, h4⟩ : ¬ w < 1 ∧ ¬ 64 < w ∧ ¬ h < 1 ∧ ¬ 64 < h := by unfold fits at hf; omega
  have h5 : ¬ planes < 0 := by omega
  have h6 : ¬ 60 < planes := by omega
  have wp1 : IntKind.i64.wrap (3 * planes) = 3 * planes := by rw [IntWalk.i64_left]; unfold wrap64; omega
  have wp2 : IntKind.i64.wrap (3 * planes - 2) = 3 * planes - 2 := by rw [IntWalk.i64_left]; unfold wrap64; omega
  have hmx := hmx
  clear hf hp ho
  go_enter Tryd.func33, Tryd.ntmps33
  go_wp2_with (first | (go_at_call 27; (with_reducible refine (kk _).mono ?_); rintro e wn ⟨rfl, rfl⟩))
  go_ret3
  exact ⟨_, _, rfl, Tw.nil _ _, HM.out⟩
theorem rb_int {Wl W w2 : World} {B A C w h n : Nat} {q : St} {v : Value} {xs : List Value} {X : Obj} (H : Rb W B A C w h q) (ho : A < Wl.heap.size ∧ C < Wl.heap.size) (h2 : W.ownsRow Wl.heap.size 3 1 v n xs) (hg : (W.alloc X).grownBy w2 v.ownBlock) : Rb w2 B A C w h q := by
  have hal := below_alloc (Below.refl _ W) X
  have k1 : ∀ k, k < Wl.heap.size → k < W.heap.size → w2.heap[k]? = W.heap[k]? := fun k h1 hs => by
    have h3 := hal.size
    rw [hg.block k (by omega) (fun e => by have := (own2_lt h2 e.symm).1; omega)]
    exact hal.block k hs
  exact H.keep (k1 _ ho.1 H.obj.lt) (k1 _ ho.2 H.ltC)
set_option maxHeartbeats 8000000 in
theorem yval_ok (s : Option Addr) (cp : Nat) (Ls : List (List Sy)) (planes : Int) (w h : Nat) (o : Int) (m : Mo) (W : World) (hf : fits (w : Int) (h : Int)) (hp : 0 ≤ planes ∧ planes ≤ 60) (hn : ¬ max 0 (3 * planes - 2) < (Ls.length : Int)) (ho : 0 ≤ o ∧ o ≤ 3) (hH : HoldsW W s Ls) (hLL : ∀ L ∈ Ls, L.length ≤ 700000) (c : Int) (Qf : St) (hv : valR w h planes o m Ls 0 St.zero = (c, Qf)) :
    Calls Tryd.prog 33 #[.slice s Ls.length cp, .int .i64 planes, .int .i64 (w : Int), .int .i64 (h : Int), .int .i64 o, m.val] W (VG W (if c = 0 then rowL w Qf.v (w * h) else []) (if c = 0 then rowL w (lftM planes Ls.length Qf) (w * h) else []) c) := by
  have k := fun W => newR_yes w h hf W
  have kk := fun W => xvalid_c o W
  rw [decide_eq_true ho] at kk
  obtain ⟨i0, hi, hz0, hz1, hz2⟩ := info2_parts infoI6
  obtain ⟨XV, hXV⟩ : ∃ x, x = (if c = 0 then rowL w Qf.v (w * h) else []) := ⟨_, rfl⟩
  obtain ⟨XM, hXM⟩ : ∃ x, x = (if c = 0 then rowL w (lftM planes Ls.length Qf) (w * h) else []) := ⟨_, rfl⟩
  rw [← hXV, ← hXM]
  have HXV := Lib.hid hXV
  have HXM := Lib.hid hXM
  clear hXV hXM
  obtain ⟨M, hM⟩ : ∃ M : Mo, M = m := ⟨_, rfl⟩
  rw [← hM] at hv
  have HMV := Lib.hid (show M.val = .agg #[.bool m.b, .bool m.r, .bool m.s, .bool m.c, .bool m.y] by rw [hM]; rfl)
  rw [← hM]
  obtain ⟨mb, mr, ms, mc, my⟩ := m
  rw [HMV.out]
  have hMm := below_alloc (Below.refl _ W) (.cells #[.bool mb, .bool mr, .bool ms, .bool mc, .bool my] 26)
  have HM := Lib.hid hMm
  obtain ⟨g1, g2, g3, g4⟩ : ¬ (w : Int) < 1 ∧ ¬ 64 < (w : Int) ∧ ¬ (h : Int) < 1 ∧ ¬ 64 < (h : Int) := by unfold fits at hf; omega
  have h1 : ¬ planes < 0 := by omega
  have h2 : ¬ 60 < planes := by omega
  have wp1 : IntKind.i64.wrap (3 * planes) = 3 * planes := by rw [IntWalk.i64_left]; unfold wrap64; omega
  have wp2 : IntKind.i64.wrap (3 * planes - 2) = 3 * planes - 2 := by rw [IntWalk.i64_left]; unfold wrap64; omega
  have hmx := hmx
  have HN := Lib.hid hn
  have HP := Lib.hid hp
  have HF := Lib.hid hf
  have HO := Lib.hid ho
  have HV := Lib.hid hv
  have HLL := Lib.hid hLL
  have hl178 : Ls.length ≤ 178 := by omega
  have HL178 := Lib.hid hl178
  have HHH := Lib.hid hH
  have HWH0 := Lib.hid (show w ≠ 0 by unfold fits at hf; omega)
  clear hf ho hH hMm hM hv hp hl178 hLL
  obtain ⟨N, hN⟩ : ∃ N, N = Ls.length := ⟨_, rfl⟩
  rw [← hN] at hn ⊢
  have HNN := Lib.hid hN
  clear hN
  go_enter Tryd.func33, Tryd.ntmps33
  go_wp2_with (first | (go_at_call 41; (with_reducible refine (k _).mono ?_); rintro e wn ⟨A, C, rfl, hC, hB⟩; have HC := Lib.hid hC; have HB := Lib.hid (below_call HM.out hB); have MB := Lib.hid ((Blk.new W 26 #[.bool mb, .bool mr, .bool ms, .bool mc, .bool my]).below hB); clear hC hB) | (go_at_call 27; (with_reducible refine (kk _).mono ?_); rintro e wn ⟨rfl, rfl⟩))
  obtain ⟨B1, hB1⟩ : ∃ b, b = (W.alloc (.cells #[.bool mb, .bool mr, .bool ms, .bool mc, .bool my] 26)).heap.size := ⟨_, rfl⟩
  have HCB := Lib.hid (show Rb wn B1 A C w h St.zero by rw [hB1]; exact HC.out)
  have HB1 := Lib.hid (show B1 = W.heap.size + 1 by rw [hB1, alloc_size])
  clear HC hB1 k kk h1 h2 hn g1 g2 g3 g4
  go_loopw [12, 13, 17] (fun v u i wr => ∃ k : Nat, k ≤ N ∧ i = .int .i64 (k : Int) ∧ v = .slice none 0 0 ∧ u = .slice none 0 0 ∧ Hid (∃ q, Rb wr B1 A C w h q ∧ (∀ x y, okV (q.v x y)) ∧ valR w h planes o M (Ls.drop k) k q = (c, Qf)) ∧ Hid (Below W.heap.size W wr) ∧ Hid (Blk wr W.heap.size 26 #[.bool mb, .bool mr, .bool ms, .bool mc, .bool my])) (fun _ _ i _ => (N - (intOf i).toNat))
  case atStart => exact ⟨0, by omega, rfl, rfl, rfl, ⟨St.zero, HCB.out, fun x y => by show okV 0; decide, HV.out⟩, HB.out, MB⟩
  case round =>
    obtain ⟨k, hk, rfl, rfl, rfl, hC, hB, hMB⟩ := hrel
    by_cases hlt : k < N
    · have hlt2 : k < Ls.length := by have := HNN.out; omega
      obtain ⟨b, off, sk, mk, rfl, hA, hY, hmk⟩ := HHH.out.at hlt2
      have c0 := (hB.out.cell (p := ⟨b, off + k, none⟩) (cell_lt hA)).trans hA
      obtain ⟨q, hq1, hq2, hq3⟩ := hC.out
      rw [List.drop_eq_getElem_cons hlt2] at hq3
      have hlk := HLL.out _ (List.getElem_mem hlt2)
      obtain ⟨L, hL⟩ : ∃ L, L = Ls[k] := ⟨_, rfl⟩
      rw [← hL] at c0 hY hmk hq3 hlk hA
      have hrE : runE (k : Int) planes o = 0 := by
        have := HN.out
        have := HP.out
        have := HO.out
        have := HNN.out
        unfold runE
        rw [if_neg (by omega), if_neg (by omega)]
      have kr := fun (w1 : World) (h1 : Rb w1 B1 A C w h q) (h2 : Below W.heap.size W w1) => yperf_c h1 hq2 (by have := HB1.out; omega) h2 sk mk L hY hmk hlk k planes o M hrE
      rw [HMV.out] at kr
      have hq4 : (if replE (replS w h planes o M q k L) = 0 then valR w h planes o M (Ls.drop (k + 1)) (k + 1) (replS w h planes o M q k L).1.1 else (replE (replS w h planes o M q k L), (replS w h planes o M q k L).1.1)) = (c, Qf) := hq3
      obtain ⟨ec, hec⟩ : ∃ x, x = replE (replS w h planes o M q k L) := ⟨_, rfl⟩
      obtain ⟨q2, hq2e⟩ : ∃ x, x = (replS w h planes o M q k L).1.1 := ⟨_, rfl⟩
      rw [← hec, ← hq2e] at kr hq4
      have wk : IntKind.i64.wrap ((k : Int) + 1) = ((k + 1 : Nat) : Int) := by have := HL178.out; have := HNN.out; rw [IntWalk.i64_left]; unfold wrap64; omega
      have hCB : B1 ≤ C := hq1.geC
      have keepR : ∀ w1 W', Below W.heap.size W w1 → Blk w1 W.heap.size 26 #[.bool mb, .bool mr, .bool ms, .bool mc, .bool my] → Kb [C] w1 W' → Below W.heap.size W W' ∧ Blk W' W.heap.size 26 #[.bool mb, .bool mr, .bool ms, .bool mc, .bool my] := fun w1 W' b1 m1 K => by
        have hs := b1.size
        have h9 := HB1.out
        refine ⟨b1.trans (K.below (fun i hi => by simp at hi; omega) hs), (K.block _ m1.lt fun hm => ?_).trans m1⟩
        simp at hm
        omega
      have DB := Lib.hid (below_call hB.out (Below.refl _ wr).drew)
      have DM := Lib.hid (hMB.out.below (Below.refl _ wr).drew)
      have kr1 := kr _ (hq1.below (Below.refl _ wr).drew) DB.out
      have KR := Lib.hid keepR
      have HLT := Lib.hid hlt
      have HQ := Lib.hid hq4
      have HYC := Lib.hid hA
      clear keepR hCB hq4 hq3 hq2 hq1 hrE hec hq2e hY hmk hL hlk kr hA
      obtain ⟨m0, m1, m2, m3, m4⟩ := md DM.out
      have c0 : wr.drew.cell? ⟨b, off + k, none⟩ = some (.slice sk L.length mk) := c0
      have hkN : (k : Int) < (N : Int) := by omega
      by_cases he : ec = 0
      · have HQ2 := Lib.hid (show valR w h planes o M (Ls.drop (k + 1)) (k + 1) q2 = (c, Qf) by have := HQ.out; rwa [if_pos he] at this)
        clear HQ
        subst he
        go_wp2_with fail
        go_region_held3 (fun w' => w'.cell? ⟨W.heap.size, 0, none⟩ = some (.bool mb) ∧ w'.cell? ⟨W.heap.size, 1, none⟩ = some (.bool mr) ∧ w'.cell? ⟨W.heap.size, 2, none⟩ = some (.bool ms) ∧ w'.cell? ⟨W.heap.size, 3, none⟩ = some (.bool mc) ∧ w'.cell? ⟨W.heap.size, 4, none⟩ = some (.bool my) ∧ w'.cell? ⟨b, off + k, none⟩ = some (.slice sk L.length mk))
          (first | (with_reducible exact ⟨m0, m1, m2, m3, m4, c0⟩) | (with_reducible exact ⟨n0, n1, n2, n3, n4, d0⟩) | fail)
          (first | (go_simp; go_at_call 76; (with_reducible refine kr1.mono ?_); rintro e w5 ⟨rfl, hC5, hK5⟩; have C5 := Lib.hid hC5; have K5 := Lib.hid (KR.out _ _ DB.out DM.out hK5); have d0 := (K5.out.1.cell (p := ⟨b, off + k, none⟩) (cell_lt HYC.out)).trans HYC.out; obtain ⟨n0, n1, n2, n3, n4⟩ := md K5.out.2; clear hC5 hK5) | fail)
        all_goals
          go_wp2_with fail
          go_roundw
          case rel => exact ⟨k + 1, HLT.out, by go_num, rfl, rfl, ⟨q2, by obtain ⟨q', z1, z2, z3⟩ := C5.out; rw [← z3 trivial]; exact z1, by obtain ⟨q', z1, z2, z3⟩ := C5.out; rw [← z3 trivial]; exact z2, HQ2.out⟩, K5.out.1, K5.out.2⟩
          case measure => have := HLT.out; simp [intOf]; omega
      · have e1 : (ec == 0) = false := by simp [he]
        have e2 : (ec != 0) = true := by simp [he]
        have hce : (ec, q2) = (c, Qf) := by have := HQ.out; rwa [if_neg he] at this
        have HCE := Lib.hid (show ec = c from (Prod.mk.inj hce).1)
        have HE := Lib.hid he
        clear he hce
        go_wp2_with fail
        go_region_held3 (fun w' => w'.cell? ⟨W.heap.size, 0, none⟩ = some (.bool mb) ∧ w'.cell? ⟨W.heap.size, 1, none⟩ = some (.bool mr) ∧ w'.cell? ⟨W.heap.size, 2, none⟩ = some (.bool ms) ∧ w'.cell? ⟨W.heap.size, 3, none⟩ = some (.bool mc) ∧ w'.cell? ⟨W.heap.size, 4, none⟩ = some (.bool my) ∧ w'.cell? ⟨b, off + k, none⟩ = some (.slice sk L.length mk))
          (first | (with_reducible exact ⟨m0, m1, m2, m3, m4, c0⟩) | (with_reducible exact ⟨n0, n1, n2, n3, n4, d0⟩) | fail)
          (first | (go_simp; go_at_call 76; (with_reducible refine kr1.mono ?_); rintro e w5 ⟨rfl, hC5, hK5⟩; have C5 := Lib.hid hC5; have K5 := Lib.hid (KR.out _ _ DB.out DM.out hK5); have d0 := (K5.out.1.cell (p := ⟨b, off + k, none⟩) (cell_lt HYC.out)).trans HYC.out; obtain ⟨n0, n1, n2, n3, n4⟩ := md K5.out.2; clear hC5 hK5) | fail)
        all_goals
          go_wp2_with fail
          go_ret3
          rw [← HCE.out, show XV = [] by rw [HXV.out, ← HCE.out, if_neg HE.out], show XM = [] by rw [HXM.out, ← HCE.out, if_neg HE.out]]
          exact ⟨_, _, rfl, Tw.nil _ _, K5.out.1⟩
    · have hkN : k = N := by omega
      subst hkN
      obtain ⟨q, hq1, hq2, hq3⟩ := hC.out
      have e0 : Ls.drop k = [] := List.drop_eq_nil_of_le (by have := HNN.out; omega)
      rw [e0] at hq3
      obtain ⟨rfl, rfl⟩ : 0 = c ∧ q = Qf := Prod.mk.inj hq3
      have HXV2 := Lib.hid (show XV = rowL w q.v (w * h) by rw [HXV.out, if_pos rfl])
      have HXM2 := Lib.hid (show XM = rowL w (lftM planes Ls.length q) (w * h) by rw [HXM.out, if_pos rfl])
      clear HXV HXM
      have kp := fun W => passR_c ((k : Int) - 1) (by have := HL178.out; have := HNN.out; omega) W
      have wn1 : IntKind.i64.wrap ((k : Int) - 1) = (k : Int) - 1 := by have := HL178.out; have := HNN.out; rw [IntWalk.i64_left]; unfold wrap64; omega
      have HC := Lib.hid hq1
      obtain ⟨fm, hfm⟩ : ∃ f, f = lftM planes Ls.length q := ⟨_, rfl⟩
      rw [show Ls.length = k from HNN.out.symm] at hfm
      have HFM := Lib.hid (show ∀ x y, fm x y = planes - 1 - plnP ((k : Int) - 1) + if (kndP ((k : Int) - 1) = 0 ∨ kndP ((k : Int) - 1) = 1) ∧ q.t x y = false then 1 else 0 by intro x y; rw [hfm]; rfl)
      have HXM3 := Lib.hid (show XM = rowL w fm (w * h) by rw [HXM2.out, show Ls.length = k from HNN.out.symm, hfm])
      have hpl : -1 ≤ plnP ((k : Int) - 1) ∧ plnP ((k : Int) - 1) ≤ 60 := by
        have := HN.out
        have := HP.out
        have := HNN.out
        unfold plnP
        split
        · omega
        split <;> omega
      have HKD := Lib.hid (show (k = 0 ∧ plnP ((k : Int) - 1) = -1 ∧ kndP ((k : Int) - 1) = -1) ∨ (¬ k = 0 ∧ (kndP ((k : Int) - 1) = 0 ∨ kndP ((k : Int) - 1) = 1 ∨ kndP ((k : Int) - 1) = 2)) by
        by_cases h0 : k = 0
        · subst h0; exact .inl ⟨rfl, rfl, rfl⟩
        · exact .inr ⟨h0, knd_in _ (by omega)⟩)
      generalize plnP ((k : Int) - 1) = pl at *
      generalize kndP ((k : Int) - 1) = kd at *
      have wl1 : IntKind.i64.wrap (planes - 1) = planes - 1 := by have := HP.out; rw [IntWalk.i64_left]; unfold wrap64; omega
      have wl2 : IntKind.i64.wrap (planes - 1 - pl) = planes - 1 - pl := by have := HP.out; rw [IntWalk.i64_left]; unfold wrap64; omega
      have wl3 : IntKind.i64.wrap (planes - pl) = planes - pl := by have := HP.out; rw [IntWalk.i64_left]; unfold wrap64; omega
      have HWH := Lib.hid (show w ≤ 64 ∧ h ≤ 64 by have := HF.out; unfold fits at this; omega)
      have HWH2 := Lib.hid (show w * h ≤ 4096 from Nat.mul_le_mul HWH.out.1 HWH.out.2)
      have wwh : IntKind.i64.wrap ((w : Int) * (h : Int)) = ((w * h : Nat) : Int) := by
        have h9 : ((w : Int) * (h : Int)) = ((w * h : Nat) : Int) := by push_cast; rfl
        rw [h9]
        have := HWH2.out
        rw [IntWalk.i64_left]; unfold wrap64; omega
      have HOLD := Lib.hid (show A < wr.heap.size ∧ C < wr.heap.size from ⟨hq1.obj.lt, hq1.ltC⟩)
      clear hq1 hq2 hq3 hC e0 hfm hpl hlt hk hMB HV HHH HLL
      rcases HKD.out with ⟨a1, a2, a3⟩ | ⟨a1, a2⟩
      · subst a1
        subst a2
        subst a3
        clear HKD kp
        have kp : ∀ W, Calls Tryd.prog 29 #[.int .i64 (-1)] W fun e w' => e = .returned (.tuple #[.int .i64 (-1), .int .i64 (-1)]) ∧ W = w' := fun W => passR_c (-1) (by omega) W
        go_wp2_with (first | (go_at_call 29; (with_reducible refine (kp _).mono ?_); rintro e wn ⟨rfl, rfl⟩))
        clear kp wn1
        obtain ⟨Wl, hWl⟩ : ∃ Wl, Wl = wr := ⟨_, rfl⟩
        rw [← hWl] at HOLD
        have HBL := Lib.hid (show Below W.heap.size W Wl by rw [hWl]; exact hB.out)
        have HWL := Lib.hid hWl
        clear hWl
        obtain ⟨wh, hwh⟩ : ∃ n, n = w * h := ⟨_, rfl⟩
        rw [← hwh] at wwh HXV2 HXM3 HWH2
        have HWH3 := Lib.hid hwh
        clear hwh
        go_loopw [12, 13, 21] (fun v u i wr => ∃ (j : Nat) (v1 u1 : Value), j ≤ wh ∧ i = .int .i64 (j : Int) ∧ v = v1 ∧ u = u1 ∧ Hid (Tw Wl wr v1 u1 (rowL w q.v j) (rowL w fm j)) ∧ Hid (Below Wl.heap.size Wl wr) ∧ Hid (Rb wr B1 A C w h q)) (fun _ _ i _ => (wh - (intOf i).toNat))
        case atStart => exact ⟨0, _, _, Nat.zero_le _, rfl, rfl, rfl, Tw.nil _ _, by rw [HWL.out]; exact Below.refl _ _, HC⟩
        case round =>
          obtain ⟨j, v0, u0, hj, rfl, hv0, hu0, T0, B0w, C0⟩ := hrel
          subst hv0
          subst hu0
          by_cases hjw : j < wh
          · have HJ := Lib.hid hjw
            have hjI : (j : Int) < (wh : Int) := by omega
            have wj : IntKind.i64.wrap ((j : Int) + 1) = ((j + 1 : Nat) : Int) := by have := HWH2.out; rw [IntWalk.i64_left]; unfold wrap64; omega
            have NV := Lib.hid (show rowL w q.v (j + 1) = rowL w q.v j ++ [q.v ((j % w : Nat) : Int) ((j / w : Nat) : Int)] by unfold rowL; rw [List.range_succ, List.map_append]; rfl)
            have NM := Lib.hid (show rowL w fm (j + 1) = rowL w fm j ++ [fm ((j % w : Nat) : Int) ((j / w : Nat) : Int)] by unfold rowL; rw [List.range_succ, List.map_append]; rfl)
            have L1 := Lib.hid (show (rowL w q.v j).length ≤ 4096 ∧ (rowL w fm j).length ≤ 4096 by rw [rowL_len, rowL_len]; have := HWH2.out; omega)
            have hw0 : ¬ w = 0 := HWH0.out
            obtain ⟨X, hX⟩ : ∃ X : Int, X = ((j % w : Nat) : Int) := ⟨_, rfl⟩
            obtain ⟨Y, hY⟩ : ∃ X : Int, X = ((j / w : Nat) : Int) := ⟨_, rfl⟩
            have hx : (j : Int) % (w : Int) = X := by rw [hX]; push_cast; rfl
            have hy : wrap64 ((j : Int) / (w : Int)) = Y := by
              rw [hY]
              have h8 : (j : Int) / (w : Int) = ((j / w : Nat) : Int) := by push_cast; rfl
              rw [h8]
              have h9 : j / w ≤ j := Nat.div_le_self _ _
              have := HWH2.out
              clear h8
              generalize j / w = z at h9 ⊢
              unfold wrap64
              omega
            rw [← hX, ← hY] at NV NM
            have kv := fun n => (rvalue_c (C0.out.below (drewN_below wr n)) X Y)
            have D0w := Lib.hid (fun n => below_call B0w.out (drewN_below wr n))
            have E0w := Lib.hid (fun n => C0.out.below (drewN_below wr n))
            have F0w := Lib.hid (fun n => T0.out.below (drewN_below wr n))
            have hfx := HFM.out X Y
            obtain ⟨s1, m1, rfl⟩ := own2_slice T0.out.a
            obtain ⟨s2, m2, rfl⟩ := own2_slice T0.out.b
            obtain ⟨tt, htt⟩ : ∃ t, t = q.t X Y := ⟨_, rfl⟩
            rw [← htt] at hfx
            have kt := fun W (K : Rb W B1 A C w h q) => rtouched_c K X Y
            rw [← htt] at kt
            obtain ⟨vv, hvv⟩ : ∃ v, v = q.v X Y := ⟨_, rfl⟩
            rw [← hvv] at kv NV
            generalize rowL w q.v j = P1 at *
            generalize rowL w fm j = P2 at *
            obtain ⟨lf, hlf⟩ : ∃ l, l = fm X Y := ⟨_, rfl⟩
            rw [← hlf] at hfx NM
            clear htt hX hY hvv hlf C0 hjw hj T0 B0w
            have h4 : lf = planes := by rw [if_neg (by omega)] at hfx; omega
            clear hfx
            subst h4
            skip
            · clear HFM HWH
              go_wp2_with fail
              go_quiet (fail)
              have kv1 := kv nq
              have B1w := Lib.hid (D0w.out nq)
              have C1 := Lib.hid (E0w.out nq)
              have T1 := Lib.hid (F0w.out nq)
              clear kv D0w E0w F0w
              generalize wr.drewN nq = W1 at *
              go_wp2_with (first | (go_at_call 63; (with_reducible refine kv1.mono ?_); rintro e w2 ⟨rfl, hb⟩; have B2w := Lib.hid (below_call B1w.out hb); have C2 := Lib.hid (C1.out.below hb); have T2 := Lib.hid (T1.out.below hb); clear hb) | (at_builtin; refine wpList_append_own_at _ rfl _ _ 22 rfl Wl.heap.size 3 i0 (.int .i64 0) 1 8 Tryd.underlying22 hi hz0 hz1 hz2 rfl (by decide) _ P1.length _ rfl (own2_below T2.out.a ((Below.refl _ _).alloc (Nat.le_refl _) _)) ⟨w2.heap.size, 0, none⟩ 1 1 [.int .i64 _] rfl rfl (cell_one_new _ _ _) (by intro u hu; simp at hu; subst hu; rfl) (by have := L1.out; unfold maxLen; omega) (by have := L1.out; omega) (by have := B2w.out.size; simp; omega) ?_))
              intro v1 w6 hown hgrow _ hat
              obtain ⟨s6, m6, rfl⟩ := own2_slice hown
              have T3 := Lib.hid (T2.out.growA hown hgrow hat)
              have B3w := Lib.hid (tw_below B2w.out rfl hgrow (fun k hk => (own2_lt T2.out.a hk).1))
              have C3 := Lib.hid (rb_int C2.out HOLD.out T2.out.a hgrow)
              clear hown hgrow hat
              go_wp2_with (first | (at_builtin; refine wpList_append_own_at _ rfl _ _ 22 rfl Wl.heap.size 3 i0 (.int .i64 0) 1 8 Tryd.underlying22 hi hz0 hz1 hz2 rfl (by decide) _ P2.length _ rfl (own2_below T3.out.b ((Below.refl _ _).alloc (Nat.le_refl _) _)) ⟨w6.heap.size, 0, none⟩ 1 1 [.int .i64 _] rfl rfl (cell_one_new _ _ _) (by intro u hu; simp at hu; subst hu; rfl) (by have := L1.out; unfold maxLen; omega) (by have := L1.out; omega) (by have := B3w.out.size; simp; omega) ?_))
              intro u1 w8 hown hgrow _ hat
              obtain ⟨s7, m7, rfl⟩ := own2_slice hown
              have T5 := Lib.hid (T3.out.growB hown hgrow hat)
              have B5w := Lib.hid (tw_below B3w.out rfl hgrow (fun k hk => (own2_lt T3.out.b hk).1))
              have C5 := Lib.hid (rb_int C3.out HOLD.out T3.out.b hgrow)
              clear hown hgrow hat
              go_wp2_with fail
              go_roundw
              case rel =>
                refine ⟨j + 1, _, _, HJ.out, by go_num, rfl, rfl, ?_, B5w, C5⟩
                rw [NV.out, NM.out]
                exact T5.out
              case measure => have := HJ.out; simp [intOf]; omega
          · obtain rfl : j = wh := by omega
            go_wp2_with fail
            go_ret3
            rw [HXV2.out, HXM3.out]
            exact ⟨_, _, rfl, ⟨own2_lower T0.out.a HBL.out.size, own2_lower T0.out.b HBL.out.size, T0.out.d⟩, HBL.out.trans (B0w.out.mono HBL.out.size)⟩
      · have HA2 := Lib.hid a2
        clear a2 HKD
        go_wp2_with (first | (go_at_call 29; (with_reducible refine (kp _).mono ?_); rintro e wn ⟨rfl, rfl⟩))
        clear kp wn1
        obtain ⟨Wl, hWl⟩ : ∃ Wl, Wl = wr := ⟨_, rfl⟩
        rw [← hWl] at HOLD
        have HBL := Lib.hid (show Below W.heap.size W Wl by rw [hWl]; exact hB.out)
        have HWL := Lib.hid hWl
        clear hWl
        obtain ⟨wh, hwh⟩ : ∃ n, n = w * h := ⟨_, rfl⟩
        rw [← hwh] at wwh HXV2 HXM3 HWH2
        have HWH3 := Lib.hid hwh
        clear hwh
        go_loopw [12, 13, 21] (fun v u i wr => ∃ (j : Nat) (v1 u1 : Value), j ≤ wh ∧ i = .int .i64 (j : Int) ∧ v = v1 ∧ u = u1 ∧ Hid (Tw Wl wr v1 u1 (rowL w q.v j) (rowL w fm j)) ∧ Hid (Below Wl.heap.size Wl wr) ∧ Hid (Rb wr B1 A C w h q)) (fun _ _ i _ => (wh - (intOf i).toNat))
        case atStart => exact ⟨0, _, _, Nat.zero_le _, rfl, rfl, rfl, Tw.nil _ _, by rw [HWL.out]; exact Below.refl _ _, HC⟩
        case round =>
          obtain ⟨j, v0, u0, hj, rfl, hv0, hu0, T0, B0w, C0⟩ := hrel
          subst hv0
          subst hu0
          by_cases hjw : j < wh
          · have HJ := Lib.hid hjw
            have hjI : (j : Int) < (wh : Int) := by omega
            have wj : IntKind.i64.wrap ((j : Int) + 1) = ((j + 1 : Nat) : Int) := by have := HWH2.out; rw [IntWalk.i64_left]; unfold wrap64; omega
            have NV := Lib.hid (show rowL w q.v (j + 1) = rowL w q.v j ++ [q.v ((j % w : Nat) : Int) ((j / w : Nat) : Int)] by unfold rowL; rw [List.range_succ, List.map_append]; rfl)
            have NM := Lib.hid (show rowL w fm (j + 1) = rowL w fm j ++ [fm ((j % w : Nat) : Int) ((j / w : Nat) : Int)] by unfold rowL; rw [List.range_succ, List.map_append]; rfl)
            have L1 := Lib.hid (show (rowL w q.v j).length ≤ 4096 ∧ (rowL w fm j).length ≤ 4096 by rw [rowL_len, rowL_len]; have := HWH2.out; omega)
            have hw0 : ¬ w = 0 := HWH0.out
            obtain ⟨X, hX⟩ : ∃ X : Int, X = ((j % w : Nat) : Int) := ⟨_, rfl⟩
            obtain ⟨Y, hY⟩ : ∃ X : Int, X = ((j / w : Nat) : Int) := ⟨_, rfl⟩
            have hx : (j : Int) % (w : Int) = X := by rw [hX]; push_cast; rfl
            have hy : wrap64 ((j : Int) / (w : Int)) = Y := by
              rw [hY]
              have h8 : (j : Int) / (w : Int) = ((j / w : Nat) : Int) := by push_cast; rfl
              rw [h8]
              have h9 : j / w ≤ j := Nat.div_le_self _ _
              have := HWH2.out
              clear h8
              generalize j / w = z at h9 ⊢
              unfold wrap64
              omega
            rw [← hX, ← hY] at NV NM
            have kv := fun n => (rvalue_c (C0.out.below (drewN_below wr n)) X Y)
            have D0w := Lib.hid (fun n => below_call B0w.out (drewN_below wr n))
            have E0w := Lib.hid (fun n => C0.out.below (drewN_below wr n))
            have F0w := Lib.hid (fun n => T0.out.below (drewN_below wr n))
            have hfx := HFM.out X Y
            obtain ⟨s1, m1, rfl⟩ := own2_slice T0.out.a
            obtain ⟨s2, m2, rfl⟩ := own2_slice T0.out.b
            obtain ⟨tt, htt⟩ : ∃ t, t = q.t X Y := ⟨_, rfl⟩
            rw [← htt] at hfx
            have kt := fun W (K : Rb W B1 A C w h q) => rtouched_c K X Y
            rw [← htt] at kt
            obtain ⟨vv, hvv⟩ : ∃ v, v = q.v X Y := ⟨_, rfl⟩
            rw [← hvv] at kv NV
            generalize rowL w q.v j = P1 at *
            generalize rowL w fm j = P2 at *
            obtain ⟨lf, hlf⟩ : ∃ l, l = fm X Y := ⟨_, rfl⟩
            rw [← hlf] at hfx NM
            clear htt hX hY hvv hlf C0 hjw hj T0 B0w
            have h4 : (kd = 2 ∧ lf = planes - 1 - pl) ∨ ((kd == 2) = false ∧ tt = true ∧ lf = planes - 1 - pl) ∨ ((kd == 2) = false ∧ tt = false ∧ lf = planes - pl) := by
              have a2 := HA2.out
              by_cases z : kd = 2
              · exact .inl ⟨z, by rw [if_neg (by omega)] at hfx; omega⟩
              · have z2 : (kd == 2) = false := by simp [z]
                cases tt
                · exact .inr (.inr ⟨z2, rfl, by rw [if_pos ⟨by omega, rfl⟩] at hfx; omega⟩)
                · exact .inr (.inl ⟨z2, rfl, by rw [if_neg (by simp)] at hfx; omega⟩)
            clear hfx
            rcases h4 with ⟨rfl, rfl⟩ | ⟨a2, rfl, rfl⟩ | ⟨a2, rfl, rfl⟩
            · clear HFM HWH
              go_wp2_with fail
              go_quiet (fail)
              have kv1 := kv nq
              have B1w := Lib.hid (D0w.out nq)
              have C1 := Lib.hid (E0w.out nq)
              have T1 := Lib.hid (F0w.out nq)
              clear kv D0w E0w F0w
              generalize wr.drewN nq = W1 at *
              go_wp2_with (first | (go_at_call 63; (with_reducible refine kv1.mono ?_); rintro e w2 ⟨rfl, hb⟩; have B2w := Lib.hid (below_call B1w.out hb); have C2 := Lib.hid (C1.out.below hb); have T2 := Lib.hid (T1.out.below hb); clear hb) | (at_builtin; refine wpList_append_own_at _ rfl _ _ 22 rfl Wl.heap.size 3 i0 (.int .i64 0) 1 8 Tryd.underlying22 hi hz0 hz1 hz2 rfl (by decide) _ P1.length _ rfl (own2_below T2.out.a ((Below.refl _ _).alloc (Nat.le_refl _) _)) ⟨w2.heap.size, 0, none⟩ 1 1 [.int .i64 _] rfl rfl (cell_one_new _ _ _) (by intro u hu; simp at hu; subst hu; rfl) (by have := L1.out; unfold maxLen; omega) (by have := L1.out; omega) (by have := B2w.out.size; simp; omega) ?_))
              intro v1 w6 hown hgrow _ hat
              obtain ⟨s6, m6, rfl⟩ := own2_slice hown
              have T3 := Lib.hid (T2.out.growA hown hgrow hat)
              have B3w := Lib.hid (tw_below B2w.out rfl hgrow (fun k hk => (own2_lt T2.out.a hk).1))
              have C3 := Lib.hid (rb_int C2.out HOLD.out T2.out.a hgrow)
              clear hown hgrow hat
              go_wp2_with (first | (at_builtin; refine wpList_append_own_at _ rfl _ _ 22 rfl Wl.heap.size 3 i0 (.int .i64 0) 1 8 Tryd.underlying22 hi hz0 hz1 hz2 rfl (by decide) _ P2.length _ rfl (own2_below T3.out.b ((Below.refl _ _).alloc (Nat.le_refl _) _)) ⟨w6.heap.size, 0, none⟩ 1 1 [.int .i64 _] rfl rfl (cell_one_new _ _ _) (by intro u hu; simp at hu; subst hu; rfl) (by have := L1.out; unfold maxLen; omega) (by have := L1.out; omega) (by have := B3w.out.size; simp; omega) ?_))
              intro u1 w8 hown hgrow _ hat
              obtain ⟨s7, m7, rfl⟩ := own2_slice hown
              have T5 := Lib.hid (T3.out.growB hown hgrow hat)
              have B5w := Lib.hid (tw_below B3w.out rfl hgrow (fun k hk => (own2_lt T3.out.b hk).1))
              have C5 := Lib.hid (rb_int C3.out HOLD.out T3.out.b hgrow)
              clear hown hgrow hat
              go_wp2_with fail
              go_roundw
              case rel =>
                refine ⟨j + 1, _, _, HJ.out, by go_num, rfl, rfl, ?_, B5w, C5⟩
                rw [NV.out, NM.out]
                exact T5.out
              case measure => have := HJ.out; simp [intOf]; omega
            · clear HFM HWH
              go_wp2_with fail
              go_quiet (fail)
              have kv1 := kv nq
              have B1w := Lib.hid (D0w.out nq)
              have C1 := Lib.hid (E0w.out nq)
              have T1 := Lib.hid (F0w.out nq)
              clear kv D0w E0w F0w
              generalize wr.drewN nq = W1 at *
              go_wp2_with (first | (go_at_call 63; (with_reducible refine kv1.mono ?_); rintro e w2 ⟨rfl, hb⟩; have B2w := Lib.hid (below_call B1w.out hb); have C2 := Lib.hid (C1.out.below hb); have T2 := Lib.hid (T1.out.below hb); clear hb) | (at_builtin; refine wpList_append_own_at _ rfl _ _ 22 rfl Wl.heap.size 3 i0 (.int .i64 0) 1 8 Tryd.underlying22 hi hz0 hz1 hz2 rfl (by decide) _ P1.length _ rfl (own2_below T2.out.a ((Below.refl _ _).alloc (Nat.le_refl _) _)) ⟨w2.heap.size, 0, none⟩ 1 1 [.int .i64 _] rfl rfl (cell_one_new _ _ _) (by intro u hu; simp at hu; subst hu; rfl) (by have := L1.out; unfold maxLen; omega) (by have := L1.out; omega) (by have := B2w.out.size; simp; omega) ?_))
              intro v1 w6 hown hgrow _ hat
              obtain ⟨s6, m6, rfl⟩ := own2_slice hown
              have T3 := Lib.hid (T2.out.growA hown hgrow hat)
              have B3w := Lib.hid (tw_below B2w.out rfl hgrow (fun k hk => (own2_lt T2.out.a hk).1))
              have C3 := Lib.hid (rb_int C2.out HOLD.out T2.out.a hgrow)
              clear hown hgrow hat
              have kt3 := kt _ C3.out
              go_wp2_with (first | (go_at_call 67; (with_reducible refine kt3.mono ?_); rintro e w7 ⟨rfl, hb⟩; have B4w := Lib.hid (below_call B3w.out hb); have C4 := Lib.hid (C3.out.below hb); have T4 := Lib.hid (T3.out.below hb); clear hb) | (at_builtin; refine wpList_append_own_at _ rfl _ _ 22 rfl Wl.heap.size 3 i0 (.int .i64 0) 1 8 Tryd.underlying22 hi hz0 hz1 hz2 rfl (by decide) _ P2.length _ rfl (own2_below T4.out.b ((Below.refl _ _).alloc (Nat.le_refl _) _)) ⟨w7.heap.size, 0, none⟩ 1 1 [.int .i64 _] rfl rfl (cell_one_new _ _ _) (by intro u hu; simp at hu; subst hu; rfl) (by have := L1.out; unfold maxLen; omega) (by have := L1.out; omega) (by have := B4w.out.size; simp; omega) ?_))
              intro u1 w8 hown hgrow _ hat
              obtain ⟨s7, m7, rfl⟩ := own2_slice hown
              have T5 := Lib.hid (T4.out.growB hown hgrow hat)
              have B5w := Lib.hid (tw_below B4w.out rfl hgrow (fun k hk => (own2_lt T4.out.b hk).1))
              have C5 := Lib.hid (rb_int C4.out HOLD.out T4.out.b hgrow)
              clear hown hgrow hat
              go_wp2_with fail
              go_roundw
              case rel =>
                refine ⟨j + 1, _, _, HJ.out, by go_num, rfl, rfl, ?_, B5w, C5⟩
                rw [NV.out, NM.out]
                exact T5.out
              case measure => have := HJ.out; simp [intOf]; omega
            · clear HFM HWH
              go_wp2_with fail
              go_quiet (fail)
              have kv1 := kv nq
              have B1w := Lib.hid (D0w.out nq)
              have C1 := Lib.hid (E0w.out nq)
              have T1 := Lib.hid (F0w.out nq)
              clear kv D0w E0w F0w
              generalize wr.drewN nq = W1 at *
              go_wp2_with (first | (go_at_call 63; (with_reducible refine kv1.mono ?_); rintro e w2 ⟨rfl, hb⟩; have B2w := Lib.hid (below_call B1w.out hb); have C2 := Lib.hid (C1.out.below hb); have T2 := Lib.hid (T1.out.below hb); clear hb) | (at_builtin; refine wpList_append_own_at _ rfl _ _ 22 rfl Wl.heap.size 3 i0 (.int .i64 0) 1 8 Tryd.underlying22 hi hz0 hz1 hz2 rfl (by decide) _ P1.length _ rfl (own2_below T2.out.a ((Below.refl _ _).alloc (Nat.le_refl _) _)) ⟨w2.heap.size, 0, none⟩ 1 1 [.int .i64 _] rfl rfl (cell_one_new _ _ _) (by intro u hu; simp at hu; subst hu; rfl) (by have := L1.out; unfold maxLen; omega) (by have := L1.out; omega) (by have := B2w.out.size; simp; omega) ?_))
              intro v1 w6 hown hgrow _ hat
              obtain ⟨s6, m6, rfl⟩ := own2_slice hown
              have T3 := Lib.hid (T2.out.growA hown hgrow hat)
              have B3w := Lib.hid (tw_below B2w.out rfl hgrow (fun k hk => (own2_lt T2.out.a hk).1))
              have C3 := Lib.hid (rb_int C2.out HOLD.out T2.out.a hgrow)
              clear hown hgrow hat
              have kt3 := kt _ C3.out
              go_wp2_with (first | (go_at_call 67; (with_reducible refine kt3.mono ?_); rintro e w7 ⟨rfl, hb⟩; have B4w := Lib.hid (below_call B3w.out hb); have C4 := Lib.hid (C3.out.below hb); have T4 := Lib.hid (T3.out.below hb); clear hb) | (at_builtin; refine wpList_append_own_at _ rfl _ _ 22 rfl Wl.heap.size 3 i0 (.int .i64 0) 1 8 Tryd.underlying22 hi hz0 hz1 hz2 rfl (by decide) _ P2.length _ rfl (own2_below T4.out.b ((Below.refl _ _).alloc (Nat.le_refl _) _)) ⟨w7.heap.size, 0, none⟩ 1 1 [.int .i64 _] rfl rfl (cell_one_new _ _ _) (by intro u hu; simp at hu; subst hu; rfl) (by have := L1.out; unfold maxLen; omega) (by have := L1.out; omega) (by have := B4w.out.size; simp; omega) ?_))
              intro u1 w8 hown hgrow _ hat
              obtain ⟨s7, m7, rfl⟩ := own2_slice hown
              have T5 := Lib.hid (T4.out.growB hown hgrow hat)
              have B5w := Lib.hid (tw_below B4w.out rfl hgrow (fun k hk => (own2_lt T4.out.b hk).1))
              have C5 := Lib.hid (rb_int C4.out HOLD.out T4.out.b hgrow)
              clear hown hgrow hat
              go_wp2_with fail
              go_roundw
              case rel =>
                refine ⟨j + 1, _, _, HJ.out, by go_num, rfl, rfl, ?_, B5w, C5⟩
                rw [NV.out, NM.out]
                exact T5.out
              case measure => have := HJ.out; simp [intOf]; omega
          · obtain rfl : j = wh := by omega
            go_wp2_with fail
            go_ret3
            rw [HXV2.out, HXM3.out]
            exact ⟨_, _, rfl, ⟨own2_lower T0.out.a HBL.out.size, own2_lower T0.out.b HBL.out.size, T0.out.d⟩, HBL.out.trans (B0w.out.mono HBL.out.size)⟩
end Go.Proofs.YtbhjapgioaiocaaDoor
set_option maxRecDepth 100000
namespace Go.Proofs.YtbhjapgioaiocaaDoor
open Go.ChangeShapes Go.WideShapes Go.ChangeAt Go.RowKit Go.Joins Go.Deep

theorem cellsSym : Tryd.prog.cellsOf 52 = 2 := by kernel_rfl
theorem cellsSyms : Tryd.prog.cellsOf 35 = 1 := by kernel_rfl
theorem weights_mem_all {H : Type} {P : Program} {e : TypeId} : ∀ {ds : List (DataW H)} {d : DataW H}, d ∈ ds → ∀ n ∈ d.weights P e, n ∈ DataW.weightsAll P e ds
  | d0 :: ds, d, hd, n, hn => by
    simp only [DataW.weightsAll, List.mem_append]
    rcases List.mem_cons.1 hd with rfl | hd
    · exact .inl hn
    · exact .inr (weights_mem_all hd n hn)
  | [], _, hd, _, _ => by simp at hd
/-- A slice of symbols, opened. -/
theorem open_symsF {H : Type} {enc : TypeId × Value → H} {w : World} {fuel : Nat} {v : Value} {x : DataW H × List MemPlace}
    (h : DataW.trod enc Tryd.prog w 0 (fun _ => true) true fuel 35 [v] = some x) :
    ∃ (a : Option Addr) (l : List Sy) (cap : Nat), v = .slice a l.length cap ∧ HoldsY w a l ∧ l.length ≤ cap ∧ (l = [] ∨ ∃ es sp, x.1 = .slice es sp ∧ es.length = l.length) := by
  rcases open_slice Tryd.underlying35 h with ⟨hcs, _⟩ | ⟨a', len, cap', m, n, D, Pl, hcs, _, hl, hm, hmm, hx, hi⟩
  · simp at hcs
    subst hcs
    exact ⟨none, [], 0, rfl, .inl rfl, Nat.le_refl _, .inl rfl⟩
  · simp at hcs
    subst hcs
    have hmm' : m = cap' := by simpa using hmm
    by_cases hn0 : len = 0
    · subst hn0
      exact ⟨some a', [], cap', rfl, .inl rfl, Nat.zero_le _, .inl rfl⟩
    · have key : ∀ i, i < len → ∃ q : Sy, w.cell? (a'.add (i * 2)) = some (.int .i64 q.1) ∧ w.cell? (a'.add (i * 2 + 1)) = some (.int .i64 q.2) := by
        intro i hin
        obtain ⟨cs', hc, ht'⟩ := hi i (by omega)
        rw [cellsSym] at hc
        obtain ⟨ys, n', _, hy, hlen, hyl, hf⟩ := DataW.trod_struct Tryd.underlying52 ht'
        obtain ⟨_, hcl, hat⟩ := World.cells?_some hc
        have hc0 := hat 0 (by omega)
        have hc1 := hat 1 (by omega)
        obtain ⟨u0, u1, rfl⟩ : ∃ u0 u1, cs' = [u0, u1] := by
          match cs', hcl with
          | [u0, u1], _ => exact ⟨u0, u1, rfl⟩
        have hx2 : ∀ j, j < 2 → ∃ y, ys[j]? = some y := fun j hj => ⟨_, List.getElem?_eq_getElem (by rw [hyl]; exact hj)⟩
        obtain ⟨y0, e0⟩ := hx2 0 (by decide)
        obtain ⟨y1, e1⟩ := hx2 1 (by decide)
        have t0 : DataW.trod enc Tryd.prog w 0 (fun _ => true) true n' 3 [u0] = some y0 := (hf 0 _ rfl).trans e0
        have t1 : DataW.trod enc Tryd.prog w 0 (fun _ => true) true n' 3 [u1] = some y1 := (hf 1 _ rfl).trans e1
        obtain ⟨q0, f0, _⟩ := DataW.trod_int Tryd.underlying3 t0
        obtain ⟨q1, f1, _⟩ := DataW.trod_int Tryd.underlying3 t1
        simp at f0 f1
        subst f0 f1
        rw [Go.Deep.add_add] at hc0 hc1
        exact ⟨(q0, q1), hc0, hc1⟩
      obtain ⟨b, off, spot⟩ := a'
      obtain ⟨q, hq, _⟩ := key 0 (by omega)
      have hspot : spot = none := by
        have := World.cell?_spot hq
        simpa [Addr.add] using this
      subst hspot
      have key' : ∀ i, i < len → ∃ q : Sy, w.cell? ⟨b, off + i * 2, none⟩ = some (.int .i64 q.1) ∧ w.cell? ⟨b, off + i * 2 + 1, none⟩ = some (.int .i64 q.2) := fun i hi => by
        obtain ⟨q, h0, h1⟩ := key i hi
        rw [add_plain] at h0 h1
        exact ⟨q, h0, by rw [Nat.add_assoc]; exact h1⟩
      refine ⟨some ⟨b, off, none⟩, List.ofFn (fun i : Fin len => Classical.choose (key' i.1 i.2)), cap', by simp, .inr ⟨b, off, rfl, fun k hk => ?_⟩, by simpa using hl, .inr ⟨_, _, by rw [hx], by simp⟩⟩
      have hk' : k < len := by simpa using hk
      rw [List.getElem_ofFn]
      exact Classical.choose_spec (key' k hk')
/-- A slice of slices of symbols, opened. -/
theorem open_symssF {H : Type} {enc : TypeId × Value → H} {w : World} {fuel : Nat} {v : Value} {x : DataW H × List MemPlace}
    (h : DataW.trod enc Tryd.prog w 0 (fun _ => true) true fuel 43 [v] = some x) (hz : ∀ n ∈ x.1.weights Tryd.prog 43, n ≤ reachBytes) :
    ∃ (a : Option Addr) (Ls : List (List Sy)) (cap : Nat), v = .slice a Ls.length cap ∧ HoldsW w a Ls ∧ Ls.length ≤ cap ∧ (∀ L ∈ Ls, L.length * 16 ≤ reachBytes) ∧ Ls.length * 24 ≤ reachBytes := by
  rcases open_slice1 Tryd.underlying43 cellsSyms h with ⟨hcs, _⟩ | ⟨a', len, cap', m, k, V, D, Pl', hcs, _, hl, hm, hmm, hx, hi⟩
  · simp at hcs
    subst hcs
    exact ⟨none, [], 0, rfl, .inl rfl, Nat.le_refl _, fun L hL => by simp at hL, by simp⟩
  · simp at hcs
    subst hcs
    have hmm' : m = cap' := by simpa using hmm
    have hz0 : len * 24 ≤ reachBytes := by
      have h1 : (len + (m - len)) * Tryd.prog.bytesOf 35 ≤ reachBytes := by
        refine hz _ ?_
        rw [hx]
        simp [DataW.weights, Tryd.underlying43]
      have h2 : Tryd.prog.bytesOf 35 = 24 := by kernel_rfl
      rw [h2] at h1
      omega
    by_cases hn0 : len = 0
    · subst hn0
      exact ⟨some a', [], cap', rfl, .inl rfl, Nat.zero_le _, fun L hL => by simp at hL, by simp⟩
    · have key : ∀ i, i < len → ∃ (L : List Sy) (sk : Option Addr) (mk : Nat), w.cell? (a'.add i) = some (.slice sk L.length mk) ∧ HoldsY w sk L ∧ L.length ≤ mk ∧ L.length * 16 ≤ reachBytes := by
        intro i hin
        obtain ⟨h1, h2⟩ := hi i (by omega)
        obtain ⟨sk, L, mk, e, hY, hmk, hw⟩ := open_symsF h2
        refine ⟨L, sk, mk, by rw [h1, e], hY, hmk, ?_⟩
        rcases hw with rfl | ⟨es, sp, ex, el⟩
        · simp
        · have h3 : (es.length + sp.length) * Tryd.prog.bytesOf 52 ≤ reachBytes := by
            refine hz _ ?_
            rw [hx]
            have hmem : (DataW.slice es sp : DataW H) ∈ (List.range len).map D := List.mem_map.2 ⟨i, List.mem_range.2 hin, ex⟩
            simp only [DataW.weights, Tryd.underlying43]
            refine List.mem_cons_of_mem _ (List.mem_append_left _ (weights_mem_all hmem _ ?_))
            simp [DataW.weights, Tryd.underlying35]
          have h4 : Tryd.prog.bytesOf 52 = 16 := by kernel_rfl
          rw [h4] at h3
          omega
      obtain ⟨b, off, spot⟩ := a'
      obtain ⟨_, _, _, hq, _⟩ := key 0 (by omega)
      have hspot : spot = none := by
        have := World.cell?_spot hq
        simpa [Addr.add] using this
      subst hspot
      have key' : ∀ i, i < len → ∃ L : List Sy, ∃ (sk : Option Addr) (mk : Nat), w.cell? ⟨b, off + i, none⟩ = some (.slice sk L.length mk) ∧ HoldsY w sk L ∧ L.length ≤ mk ∧ L.length * 16 ≤ reachBytes := fun i hi => by
        obtain ⟨L, sk, mk, h0, h1⟩ := key i hi
        rw [add_plain] at h0
        exact ⟨L, sk, mk, h0, h1⟩
      refine ⟨some ⟨b, off, none⟩, List.ofFn (fun i : Fin len => Classical.choose (key' i.1 i.2)), cap', by simp, .inr ⟨b, off, rfl, fun k hk => ?_⟩, by simpa using hl, fun L hL => ?_, by simpa using hz0⟩
      · have hk' : k < len := by simpa using hk
        rw [List.getElem_ofFn]
        obtain ⟨sk, mk, h0, h1, h2, _⟩ := Classical.choose_spec (key' k hk')
        exact ⟨sk, mk, h0, h1, h2⟩
      · obtain ⟨i, rfl⟩ := (List.mem_ofFn (f := fun i : Fin len => Classical.choose (key' i.1 i.2))).1 hL
        obtain ⟨sk, mk, _, _, _, h3⟩ := Classical.choose_spec (key' i.1 i.2)
        exact h3
/-- The law's input: lists of symbols, planes, sizes, orientation, mode. -/
structure IV where
  s : Option Addr
  Ls : List (List Sy)
  cp : Nat
  pl : Int
  W : Int
  H : Int
  o : Int
  m : Mo
def IV.cs (b : IV) : Array Value := #[.slice b.s b.Ls.length b.cp, .int .i64 b.pl, .int .i64 b.W, .int .i64 b.H, .int .i64 b.o, .bool b.m.b, .bool b.m.r, .bool b.m.s, .bool b.m.c, .bool b.m.y]
def IV.val (b : IV) : Value := .agg b.cs
structure IVk (w : World) (b : IV) : Prop where
  h : HoldsW w b.s b.Ls
  cp : b.Ls.length ≤ b.cp
  z1 : ∀ L ∈ b.Ls, L.length * 16 ≤ reachBytes
  z2 : b.Ls.length * 24 ≤ reachBytes
theorem open_In {H : Type} {enc : TypeId × Value → H} {w : World} {r : Reach} {b0 : Nat} {v : Value} {d : DataW H} {p : List MemPlace}
    (hv : Value.okWide Tryd.prog w r b0 63 v) (h : DataW.Trod enc Tryd.prog w 0 (fun _ => true) true 63 v d p) (hz : ∀ n ∈ d.weights Tryd.prog 63, n ≤ reachBytes) : ∃ b : IV, v = b.val ∧ IVk w b := by
  obtain ⟨cs, rfl, hsz⟩ := okWide_struct Tryd.underlying63 hv
  obtain ⟨c0, c1, c2, c3, c4, c5, c6, c7, c8, c9, rfl⟩ := arr10 _ (hsz.trans (by kernel_rfl))
  obtain ⟨fuel, hf⟩ := h
  obtain ⟨xs, n, _, hxd, _, hl, hg⟩ := DataW.trod_struct Tryd.underlying63 hf
  have hx : ∀ j, j < 6 → ∃ y, xs[j]? = some y := fun j hj => ⟨_, List.getElem?_eq_getElem (by rw [hl]; exact hj)⟩
  obtain ⟨y0, e0⟩ := hx 0 (by decide)
  obtain ⟨y1, e1⟩ := hx 1 (by decide)
  obtain ⟨y2, e2⟩ := hx 2 (by decide)
  obtain ⟨y3, e3⟩ := hx 3 (by decide)
  obtain ⟨y4, e4⟩ := hx 4 (by decide)
  obtain ⟨y5, e5⟩ := hx 5 (by decide)
  have t0 : DataW.trod enc Tryd.prog w 0 (fun _ => true) true n 43 [c0] = some y0 := (hg 0 _ rfl).trans e0
  have t1 : DataW.trod enc Tryd.prog w 0 (fun _ => true) true n 3 [c1] = some y1 := (hg 1 _ rfl).trans e1
  have t2 : DataW.trod enc Tryd.prog w 0 (fun _ => true) true n 3 [c2] = some y2 := (hg 2 _ rfl).trans e2
  have t3 : DataW.trod enc Tryd.prog w 0 (fun _ => true) true n 3 [c3] = some y3 := (hg 3 _ rfl).trans e3
  have t4 : DataW.trod enc Tryd.prog w 0 (fun _ => true) true n 24 [c4] = some y4 := (hg 4 _ rfl).trans e4
  have t5 : DataW.trod enc Tryd.prog w 0 (fun _ => true) true n 26 [c5, c6, c7, c8, c9] = some y5 := (hg 5 _ rfl).trans e5
  have hz0 : ∀ n ∈ y0.1.weights Tryd.prog 43, n ≤ reachBytes := fun n hn => hz n (by
    have hd : d = .agg (xs.map (·.1)) := by simp only [Prod.mk.injEq] at hxd; exact hxd.1
    rw [hd]
    simp only [DataW.weights, Tryd.underlying63]
    exact DataW.weights_mem_each (j := 0) rfl (by rw [List.getElem?_map, e0]; rfl) n hn)
  obtain ⟨s, Ls, cp, f0, q1, q2, q3, q4⟩ := open_symssF t0 hz0
  obtain ⟨P, f1, _⟩ := DataW.trod_int Tryd.underlying3 t1
  obtain ⟨W, f2, _⟩ := DataW.trod_int Tryd.underlying3 t2
  obtain ⟨Hh, f3, _⟩ := DataW.trod_int Tryd.underlying3 t3
  obtain ⟨o, f4, _⟩ := DataW.trod_int Tryd.underlying24 t4
  obtain ⟨z0, z1, z2, z3, z4, rfl, rfl, rfl, rfl, rfl⟩ := open_modeF t5
  simp at f1 f2 f3 f4
  subst f0 f1 f2 f3 f4
  exact ⟨⟨s, Ls, cp, P, W, Hh, o, ⟨z0, z1, z2, z3, z4⟩⟩, rfl, ⟨q1, q2, q3, q4⟩⟩
/-- Values of the reference, as one contract. -/
theorem yval_c (s : Option Addr) (cp : Nat) (Ls : List (List Sy)) (planes w h o : Int) (m : Mo) (W : World) (hH : HoldsW W s Ls) (hLL : ∀ L ∈ Ls, L.length ≤ 700000) :
    Calls Tryd.prog 33 #[.slice s Ls.length cp, .int .i64 planes, .int .i64 w, .int .i64 h, .int .i64 o, m.val] W (VG W (valV w h planes o m Ls) (valM2 w h planes o m Ls) (valC w h planes o m Ls)) := by
  by_cases hr : ¬ fits w h ∨ planes < 0 ∨ 60 < planes
  · have e0 : valC w h planes o m Ls = 2 := by unfold valC; rw [if_pos hr]
    have e1 : valV w h planes o m Ls = [] := by unfold valV; rw [e0]; rfl
    have e2 : valM2 w h planes o m Ls = [] := by unfold valM2; rw [e0]; rfl
    rw [e0, e1, e2]
    exact yval_e0 s _ cp planes w h o m W hr
  have hf : fits w h := Classical.byContradiction fun z => hr (.inl z)
  have hp : 0 ≤ planes ∧ planes ≤ 60 := by
    constructor
    · exact Int.not_lt.1 fun z => hr (.inr (.inl z))
    · exact Int.not_lt.1 fun z => hr (.inr (.inr z))
  by_cases hn : max 0 (3 * planes - 2) < (Ls.length : Int)
  · have e0 : valC w h planes o m Ls = 4 := by unfold valC; rw [if_neg hr, if_pos hn]
    have e1 : valV w h planes o m Ls = [] := by unfold valV; rw [e0]; rfl
    have e2 : valM2 w h planes o m Ls = [] := by unfold valM2; rw [e0]; rfl
    rw [e0, e1, e2]
    exact yval_e2 s _ cp planes w h o m W hf hp hn
  by_cases ho : o < 0 ∨ 3 < o
  · have e0 : valC w h planes o m Ls = 3 := by unfold valC; rw [if_neg hr, if_neg hn, if_pos ho]
    have e1 : valV w h planes o m Ls = [] := by unfold valV; rw [e0]; rfl
    have e2 : valM2 w h planes o m Ls = [] := by unfold valM2; rw [e0]; rfl
    rw [e0, e1, e2]
    exact yval_e3 s _ cp planes w h o m W hf hp hn (by omega)
  obtain ⟨w0, rfl⟩ : ∃ n : Nat, w = n := ⟨w.toNat, by unfold fits at hf; omega⟩
  obtain ⟨h0, rfl⟩ : ∃ n : Nat, h = n := ⟨h.toNat, by unfold fits at hf; omega⟩
  have e0 : valC (w0 : Int) (h0 : Int) planes o m Ls = (valR w0 h0 planes o m Ls 0 St.zero).1 := by unfold valC; rw [if_neg hr, if_neg hn, if_neg ho]; rfl
  have k := yval_ok s cp Ls planes w0 h0 o m W hf hp hn (by omega) hH hLL (valR w0 h0 planes o m Ls 0 St.zero).1 (valR w0 h0 planes o m Ls 0 St.zero).2 rfl
  unfold valV valM2 valQ
  rw [e0]
  exact k
theorem val_lens (w h planes o : Int) (m : Mo) (Ls : List (List Sy)) : (valV w h planes o m Ls).length ≤ 4096 ∧ (valM2 w h planes o m Ls).length ≤ 4096 := by
  by_cases h0 : valC w h planes o m Ls = 0
  · have hf : fits w h := Classical.byContradiction fun z => by
      unfold valC at h0
      rw [if_pos (.inl z)] at h0
      cases h0
    have hm : w.toNat * h.toNat ≤ 64 * 64 := by unfold fits at hf; exact Nat.mul_le_mul (by omega) (by omega)
    unfold valV valM2
    rw [if_pos h0, if_pos h0, rowL_len, rowL_len]
    exact ⟨hm, hm⟩
  · unfold valV valM2
    rw [if_neg h0, if_neg h0]
    exact ⟨by simp, by simp⟩
def smL (Ls : List (List Sy)) (k : Nat) : Nat := ((Ls.take k).map List.length).sum
theorem smL_succ (Ls : List (List Sy)) (k : Nat) (h : k < Ls.length) : smL Ls (k + 1) = smL Ls k + Ls[k].length := by
  unfold smL
  rw [List.take_add_one, List.map_append, List.sum_append]
  simp [h]
theorem smL_le (Ls : List (List Sy)) (B : Nat) (h : ∀ L ∈ Ls, L.length ≤ B) (k : Nat) (hk : k ≤ Ls.length) : smL Ls k ≤ k * B := by
  induction k with
  | zero => simp [smL]
  | succ k ih =>
    rw [smL_succ Ls k (by omega), Nat.succ_mul]
    have h1 := ih (by omega)
    have h2 := h _ (List.getElem_mem (show k < Ls.length by omega))
    omega
theorem sum_mem (Ls : List (List Sy)) : ∀ L ∈ Ls, L.length ≤ (Ls.map List.length).sum := by
  induction Ls with
  | nil => intro L hL; simp at hL
  | cons a l ih =>
    intro L hL
    rw [List.map_cons, List.sum_cons]
    rcases List.mem_cons.1 hL with rfl | h
    · omega
    · have := ih L h; omega
theorem smL_mem (Ls : List (List Sy)) : ∀ L ∈ Ls, L.length ≤ smL Ls Ls.length := by
  intro L hL
  unfold smL
  rw [List.take_length]
  exact sum_mem Ls L hL
end Go.Proofs.YtbhjapgioaiocaaDoor
