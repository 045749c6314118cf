/-
  Layer 23: contract of crowded.
-/
import Derived.Test.YtkcjbehfhcmiaaaHt0
import Derived.Deep.MidRow
set_option maxRecDepth 100000
namespace Go.Proofs.Ytkcjbehfhcmiaaa
open Go.RowKit

def bigC (h : Hp.Hd) (p : Hp.Ps) (c : Hp.Cm) : Bool := (List.range (p.lev + 1).toNat).any fun res => Hp.bigRes h p c res
def isBig (h : Hp.Hd) (p : Hp.Ps) (c : Hp.Cm) (r : Nat) (idx : Int) : Bool := decide (65536 < Hp.mostI h (Hp.fBan p idx c) (Hp.bexM p r))
theorem big_all {h : Hp.Hd} {p : Hp.Ps} {ci : Nat} (hc : ci < h.cs.length) {r : Nat} (hr : r < (p.lev + 1).toNat) {q : Nat} (hq : q < (Hp.idxL p.lev r).length) (hb : isBig h p h.cs[ci] r (Hp.idxL p.lev r)[q] = true) : Hp.crwB h p = true := by
  have h1 : Hp.bigRes h p h.cs[ci] r = true := List.any_eq_true.2 ⟨_, List.getElem_mem hq, hb⟩
  have h2 : bigC h p h.cs[ci] = true := List.any_eq_true.2 ⟨r, List.mem_range.2 hr, h1⟩
  have h3 : Hp.anyBig h p = true := List.any_eq_true.2 ⟨_, List.getElem_mem hc, h2⟩
  simp [Hp.crwB, h3]
theorem big_res {h : Hp.Hd} {p : Hp.Ps} {c : Hp.Cm} {r : Nat} (hn : ∀ q (hq : q < (Hp.idxL p.lev r).length), isBig h p c r (Hp.idxL p.lev r)[q] = false) : Hp.bigRes h p c r = false := by
  refine List.any_eq_false.2 fun x hx => ?_
  obtain ⟨q, hq, rfl⟩ := List.getElem_of_mem hx
  have := hn q hq
  unfold isBig at this
  rw [this]
  decide
theorem big_com {h : Hp.Hd} {p : Hp.Ps} {c : Hp.Cm} (hn : ∀ r, r < (p.lev + 1).toNat → Hp.bigRes h p c r = false) : bigC h p c = false := by
  refine List.any_eq_false.2 fun x hx => ?_
  rw [hn x (List.mem_range.1 hx)]
  decide
theorem big_none {h : Hp.Hd} {p : Hp.Ps} (hn : ∀ j (hj : j < h.cs.length), bigC h p h.cs[j] = false) : Hp.crwB h p = decide (65536 < Hp.mxL (Hp.totM h p) * p.lay) := by
  have h3 : Hp.anyBig h p = false := by
    refine List.any_eq_false.2 fun x hx => ?_
    obtain ⟨q, hq, rfl⟩ := List.getElem_of_mem hx
    have := hn q hq
    unfold bigC at this
    rw [this]
    decide
  simp [Hp.crwB, h3]
theorem xs_len {h : Hp.Hd} {f : Pl.R → Pl.R} {e : Int} : (Hp.xsL h f e).length = Hp.nc h ∧ (Hp.ysL h f e).length = Hp.nr h := by simp [Hp.xsL, Hp.ysL]
theorem bd_zero (h : Hp.Hd) (p : Hp.Ps) : bdL (totC h p 0) (6 * 0) := fun v hv => by
  have : v = 0 := List.eq_of_mem_replicate (show v ∈ List.replicate (Hp.tl h).length 0 from hv)
  subst this
  decide
theorem tot_few {l : List Int} {n : Nat} (h : bdL l n) (hn : n ≤ 30) : ∀ v ∈ l, 0 ≤ v ∧ v ≤ 1099511627776 := fun v hv => by
  have := h v hv
  omega
set_option maxHeartbeats 16000000 in
theorem crowded_c (h : Hp.Hd) (p : Hp.Ps) (sh s s2 : Option Addr) (mh m m2 : Nat) (W : World) (T : Hp.Tls h) (hd : Hp.hdB h = true) (P : POk h p) (hC : HoldsC W sh h.cs) (hPr : HoldsP W s p.prec) : Calls Try.prog 34 #[.agg (hvA h sh mh), .agg (pvA p s m s2 m2)] W fun e w' => e = .returned (.bool (Hp.crwB h p)) ∧ Below W.heap.size W w' := by
  obtain ⟨WB, hWB⟩ : ∃ ww, ww = ((W.alloc (.cells (hvA h sh mh) 26)).alloc (.cells (pvA p s m s2 m2) 35)) := ⟨_, rfl⟩
  have hb0 : Below W.heap.size W WB := by rw [hWB]; exact (below_alloc (below_alloc (Below.refl _ W) (Nat.le_refl _) _) (by simp <;> omega) _)
  have B0 := Lib.hid hb0
  have hH : Blk WB (W.heap.size) 26 (hvA h sh mh) := by
    have := Blk.new (W) 26 (hvA h sh mh)
    rw [hWB]
    exact ((show Blk _ (W.heap.size) _ _ by simpa using this)).alloc _
  have HH0 := Lib.hid hH
  have hP : Blk WB (W.heap.size + 1) 35 (pvA p s m s2 m2) := by
    have := Blk.new ((W.alloc (.cells (hvA h sh mh) 26))) 35 (pvA p s m s2 m2)
    rw [hWB]
    exact (show Blk _ (W.heap.size + 1) _ _ by simpa using this)
  have HP0 := Lib.hid hP
  have HWB := Lib.hid hWB
  clear hb0 hWB hH hP
  obtain ⟨hv, he, ⟨tw1, tw2⟩, ⟨th1, th2⟩, n1, n2⟩ := hdB_facts hd
  obtain ⟨v1, v2, v3, v4, v5, v6⟩ := Pl.valid_iff.1 hv
  obtain ⟨e1, e2⟩ := Pl.empty_not.1 he
  have kcl : Calls Try.prog 25 #[.agg #[.int .i64 h.a, .int .i64 h.b, .int .i64 h.c, .int .i64 h.d], .int .i64 h.tw, .int .i64 h.th] WB (GivesRects (Hp.tl h) WB) := cells_c h.a h.b h.c h.d h.tw h.th WB (by omega) (by omega)
  have kcn := fun W1 : World => cells_p h.a h.c h.tw W1 tw1 v1 (by omega) (by omega) v3
  rw [show Hp.cellsI h.a h.c h.tw = (Hp.nc h : Int) from Hp.cells_eq tw1 v1 e1 v3] at kcn
  have HLEN := Lib.hid (show (Hp.tl h).length = Hp.nr h * Hp.nc h from T.len)
  have hL1 : (Hp.tl h).length ≤ 1024 := by rw [T.len]; exact T.few
  have hL0 : 0 < (Hp.tl h).length := by rw [T.len]; exact Nat.mul_pos T.pos.2 T.pos.1
  have mk := fun w : World => mk_ints (Hp.tl h).length (by omega) w
  have HL1 := Lib.hid hL1
  have HL0 := Lib.hid hL0
  have HT := Lib.hid T
  have HPO := Lib.hid P
  have HCC := Lib.hid hC
  have HPP := Lib.hid hPr
  have HNC := Lib.hid (show Hp.nc h ≤ 1024 ∧ Hp.nr h ≤ 1024 from ⟨Nat.le_trans (by have := Nat.mul_le_mul_right (Hp.nc h) T.pos.2; omega) T.few, Nat.le_trans (by have := Nat.mul_le_mul_left (Hp.nr h) T.pos.1; omega) T.few⟩)
  have HN4 := Lib.hid n1
  have hlv := P.lev
  have wl1 : IntKind.i64.wrap (p.lev + 1) = p.lev + 1 := IntWalk.i64_in _ (by omega)
  obtain ⟨LV, hLV⟩ : ∃ n : Nat, p.lev + 1 = (n : Int) := ⟨(p.lev + 1).toNat, by omega⟩
  have HLV := Lib.hid (show (p.lev + 1).toNat = LV by omega)
  have HLE := Lib.hid (show LV ≤ 6 ∧ (LV : Int) = p.lev + 1 from ⟨by omega, hLV.symm⟩)
  have wlv : IntKind.i64.wrap (p.lev + 1) = (LV : Int) := by rw [wl1, hLV]
  have HW2 := HWB.out
  have HSB0 := Lib.hid (show WB.heap.size = W.heap.size + 1 + 1 by rw [HWB.out]; simp)
  obtain ⟨h0, h1, h2, h3, h4, h5, -⟩ := HH0.out.hd
  clear hv he tw1 tw2 th1 th2 n2 v1 v2 v3 v4 v5 v6 e1 e2 hd T P hC hPr hL1 hL0 HWB hlv hLV n1
  unfold hvA pvA at HW2 ⊢
  go_enter Try.func34, Try.ntmps34
  go_upto_region 1 with fail
  rw [← HW2]
  clear HW2
  go_upto_region 4 with (first | (go_at_call 25; (with_reducible refine kcl.mono ?_); rintro e w1 ⟨st0, cap0, rfl, hh1, hb1⟩; have HHL := Lib.hid hh1; have HB1 := Lib.hid (B0.out.trans (hb1.mono B0.out.size)); have HH1 := Lib.hid (HH0.out.below hb1); have HP1 := Lib.hid (HP0.out.below hb1); have hsz1 := hb1.size; obtain ⟨h0, h1, h2, h3, h4, h5, -⟩ := HH1.out.hd; clear hb1 hh1) | (go_at_call 65; (with_reducible refine (kcn _).mono ?_); rintro e w1 ⟨rfl, rfl⟩) | fail)
  clear h0 h1 h2 h3 h4 h5
  obtain ⟨g, hg⟩ : ∃ g, w1.heap.size = g := ⟨_, rfl⟩
  have hsB := HSB0.out
  have hst0 : ∀ o, st0 ≠ some ⟨g, o, none⟩ := fun o e => by
    rcases HHL.out with q | ⟨b, o', e', hr⟩
    · have := HL0.out; rw [q] at this; simp at this
    · rw [e'] at e
      injection e with e; injection e with e _
      have := cell_lt (hr 0 HL0.out).1
      omega
  obtain ⟨w2, hw2⟩ : ∃ w2, w2 = w1.alloc (.cells (madeCells #[.int .i64 0] (Hp.tl h).length) 3) := ⟨_, rfl⟩
  have HS0 := Lib.hid (show CrS W h p sh s s2 mh m m2 st0 g (totC h p 0) w2 from by
    rw [hw2]
    exact ⟨below_alloc HB1.out HB1.out.size _, HH1.out.alloc _, HP1.out.alloc _, HHL.out.below (below_alloc (Below.refl _ _) (Nat.le_refl _) _) (Nat.le_refl _), hg ▸ rowAt_made w1 _, by omega, hst0⟩)
  rw [hg, ← hw2]
  clear hg hsB hst0 hw2 HB1 HH1 HP1 HHL kcl kcn mk hsz1 HH0 HP0 B0
  have h6 := HS0.out.bh.get 6 (v := .slice sh h.cs.length mh) rfl
  go_upto_region 5 with fail
  clear h6
  go_loopw [36] (fun i wr => ∃ ci : Nat, ci ≤ h.cs.length ∧ i = .int .i64 ci ∧ Hid (CrS W h p sh s s2 mh m m2 st0 g (totC h p ci) wr) ∧ Hid (bdL (totC h p ci) (6 * ci)) ∧ Hid (∀ j (hj : j < h.cs.length), j < ci → bigC h p h.cs[j] = false)) (fun i _ => h.cs.length - (intOf i).toNat)
  case atStart => exact ⟨0, Nat.zero_le _, rfl, HS0, Lib.hid (bd_zero h p), Lib.hid (fun j _ q => absurd q (Nat.not_lt_zero _))⟩
  case round =>
    obtain ⟨ci, hci, rfl, hS, hBD, hNB⟩ := hrel
    clear HS0
    by_cases hlt : ci < h.cs.length
    · have hcm := HCC.out
      rcases hcm with q | ⟨bb, off, rfl, hr⟩
      · rw [q] at hlt; simp at hlt
      obtain ⟨c0, c1, c2, c3⟩ := (hr ci hlt).below hS.out.bl (Nat.le_refl _)
      clear hr
      have hki : (ci : Int) < (h.cs.length : Int) := by omega
      have w2 : IntKind.i64.wrap ((ci : Int) + 1) = (ci : Int) + 1 := by have := HN4.out; exact IntWalk.i64_in _ (by omega)
      have HVC := Lib.hid (HPO.out.cms _ (List.getElem_mem hlt))
      have HTN := Lib.hid (totC_next h p hlt)
      have HNX := Lib.hid (fun (hb : bigC h p h.cs[ci] = false) => (show ∀ j (hj : j < h.cs.length), j < ci + 1 → bigC h p h.cs[j] = false from fun j hj hjk => if e : j = ci then by subst e; exact hb else hNB.out j hj (by omega)))
      have HBA := Lib.hid (fun (r : Nat) (hr : r < (p.lev + 1).toNat) (q : Nat) (hq : q < (Hp.idxL p.lev r).length) => big_all (p := p) hlt hr hq)
      generalize h.cs[ci] = V at *
      have p1 := fun o : Obj => (hS.out.bp.alloc o).get 1 (v := .int .i64 p.lev) rfl
      go_upto_region 8 with fail
      obtain ⟨wc, hwc⟩ : ∃ x, x = wr.alloc (.cells #[.int .i64 V.depth, .bool V.sg, .int .i64 V.dx, .int .i64 V.dy] 56) := ⟨_, rfl⟩
      have HMC := Lib.hid (show Blk wc wr.heap.size 56 #[.int .i64 V.depth, .bool V.sg, .int .i64 V.dx, .int .i64 V.dy] by rw [hwc]; exact Blk.new _ _ _)
      have HMS := Lib.hid (show CrS W h p (some ⟨bb, off, none⟩) s s2 mh m m2 st0 g (totC h p ci) wc by rw [hwc]; exact hS.out.alloc _)
      have hgm := hS.out.rg.lt
      have hgc : g < wr.heap.size := hS.out.rg.lt
      obtain ⟨gcm, hgcm⟩ : ∃ x, wr.heap.size = x := ⟨_, rfl⟩
      rw [hgcm] at HMC hgc
      rw [← hwc, hgcm]
      have HTL := Lib.hid (totC_len h p ci (by omega))
      generalize totC h p ci = TC at *
      clear p1 c0 c1 c2 c3 hwc hgcm hgm hS
      have HBD6 := Lib.hid hBD.out
      go_loopw [43] (fun i wr => ∃ r : Nat, r ≤ LV ∧ i = .int .i64 r ∧ Hid (CrS W h p (some ⟨bb, off, none⟩) s s2 mh m m2 st0 g (totR h p V TC r) wr) ∧ Hid (bdL (totR h p V TC r) (6 * ci + r)) ∧ Hid (∀ q, q < r → Hp.bigRes h p V q = false) ∧ Hid (Blk wr gcm 56 #[.int .i64 V.depth, .bool V.sg, .int .i64 V.dx, .int .i64 V.dy])) (fun i _ => LV - (intOf i).toNat)
      case atStart => exact ⟨0, Nat.zero_le _, rfl, HMS, HBD6, Lib.hid (fun q h => absurd h (Nat.not_lt_zero _)), HMC⟩
      case round =>
        obtain ⟨r, hr0, rfl, hS, hBR, hNR, hMC⟩ := hrel
        clear HMS HMC HBD6
        by_cases hrl : r < LV
        · have hki : (r : Int) < (LV : Int) := by omega
          have wr2 : IntKind.i64.wrap ((r : Int) + 1) = (r : Int) + 1 := by have := HLE.out.1; exact IntWalk.i64_in _ (by omega)
          have hrv : (r : Int) ≤ p.lev := by have := HLE.out.2; omega
          have hex : Hp.exB p.lev r = true := ex_iff.2 ⟨HPO.out.lev.2, by omega, hrv⟩
          have HEX := Lib.hid hex
          have HRL := Lib.hid hrl
          go_upto_region 10 with fail
          obtain ⟨wd, hwd⟩ : ∃ x, x = wr.alloc (.cells #[.int .i64 (r : Int)] 3) := ⟨_, rfl⟩
          obtain ⟨gr, hgr⟩ : ∃ x, wr.heap.size = x := ⟨_, rfl⟩
          have HD1 := Lib.hid (show CrS W h p (some ⟨bb, off, none⟩) s s2 mh m m2 st0 g (totR h p V TC r) wd by rw [hwd]; exact hS.out.alloc _)
          have HD2 := Lib.hid (show Blk wd gcm 56 #[.int .i64 V.depth, .bool V.sg, .int .i64 V.dx, .int .i64 V.dy] by rw [hwd]; exact hMC.out.alloc _)
          have HD3 := Lib.hid (show Blk wd gr 3 #[.int .i64 (r : Int)] by rw [hwd, ← hgr]; exact Blk.new _ _ _)
          have hgg : g ≠ gr := by rw [← hgr]; exact Nat.ne_of_lt hS.out.rg.lt
          have HGG := Lib.hid hgg
          rw [hgr, ← hwd]
          clear hwd hgr hgg hS hMC
          have ba := HPO.out.pre r (by omega) hrv
          have kpr := precinct_p p s s2 m m2 (r : Int) wd (HPP.out.below HD1.out.bl (Nat.le_refl _))
          have KC := Lib.hid (fun (w : World) (hs : CrS W h p (some ⟨bb, off, none⟩) s s2 mh m m2 st0 g (totR h p V TC r) w) (hc : Blk w gcm 56 #[.int .i64 V.depth, .bool V.sg, .int .i64 V.dx, .int .i64 V.dy]) (hr : Blk w gr 3 #[.int .i64 (r : Int)]) => count1_c h HT.out p s s2 m m2 V HVC.out (r : Int) (Hp.precM p r).x (Hp.precM p r).y (by omega) (by omega) st0 cap0 gcm (W.heap.size + 1) gr w hs.ht hc hs.bp hr)
          have F : Hp.Sep (Hp.fRes p r V) := (Hp.sep_smp HVC.out.1 HVC.out.2).comp Hp.sep_res
          have cbd := Hp.cells_bd (e := (Hp.precM p r).x) HT.out F
          have cbd2 := Hp.cells_bd (e := (Hp.precM p r).y) HT.out F
          have xl := (xs_len (h := h) (f := Hp.fRes p r V) (e := (Hp.precM p r).x)).1
          have yl := (xs_len (h := h) (f := Hp.fRes p r V) (e := (Hp.precM p r).y)).2
          have hTN := totR_next h p V TC r
          have hrm : Hp.resM h p V (totR h p V TC r) r = Hp.addL (Hp.xsL h (Hp.fRes p r V) (Hp.precM p r).x) (Hp.ysL h (Hp.fRes p r V) (Hp.precM p r).y) (Hp.nc h) (totR h p V TC r) := rfl
          rw [hrm, ← xl] at hTN
          have hb1 := tot_bd (p := p) HT.out HVC.out hBR.out r
          rw [← totR_next] at hb1
          have HB1 := Lib.hid hb1
          have htl : (totR h p V TC r).length = (Hp.tl h).length := by rw [totR_len]; exact HTL.out
          obtain ⟨X, hX⟩ : ∃ X, Hp.xsL h (Hp.fRes p r V) (Hp.precM p r).x = X := ⟨_, rfl⟩
          obtain ⟨Y, hY⟩ : ∃ Y, Hp.ysL h (Hp.fRes p r V) (Hp.precM p r).y = Y := ⟨_, rfl⟩
          rw [hX, hY] at KC hTN
          rw [hX] at cbd xl
          rw [hY] at cbd2 yl
          have hnc := HNC.out
          have hln : (totR h p V TC r).length = Y.length * X.length := by rw [htl, HLEN.out, xl, yl]
          have hfew := tot_few hBR.out (by have := HLE.out.1; have := HN4.out; omega)
          have KA := Lib.hid (fun (w : World) (g1 g2 : Nat) (hx : RowAt w g1 X) (hy : RowAt w g2 Y) (hs : CrS W h p (some ⟨bb, off, none⟩) s s2 mh m m2 st0 g (totR h p V TC r) w) (n1 : g1 ≠ g) (n2 : g2 ≠ g) => addTo_c X Y (totR h p V TC r) (some ⟨g1, 0, none⟩) (some ⟨g2, 0, none⟩) X.length Y.length (Hp.tl h).length g w hx.holds hy.holds hs.rg (fun o e => n1 (by injection e with e; injection e)) (fun o e => n2 (by injection e with e; injection e)) cbd.1 cbd2.2 hfew (by omega) (by omega) hln)
          rw [htl, ← hTN] at KA
          have kin := fun w : World => indices_y p.lev (r : Int) w
          have HTL2 := Lib.hid (show (totR h p V TC (r + 1)).length = (Hp.tl h).length by rw [totR_len]; exact HTL.out)
          have HGN := Lib.hid HD1.out.rg.lt
          clear ba F cbd cbd2 xl yl hTN hrm hb1 htl hX hY hnc hln hfew hBR hrl hrv hex
          generalize totR h p V TC r = T0 at *
          generalize hT1 : totR h p V TC (r + 1) = T1 at *
          have HT1 := Lib.hid hT1
          clear hT1
          generalize Hp.precM p r = E at *
          have r0 := HD3.out.get 0 (v := .int .i64 (r : Int)) rfl
          go_upto_region 12 with (first | (refine wpList_load_mid rfl 35 (.tmp 3) rfl (W.heap.size + 1) 0 rfl (pvA p s m s2 m2).toList _ HD1.out.bp.range Try.underlying35 rfl info19 ?_) | (go_at_call 13; (with_reducible refine kpr.mono ?_); rintro e w3 ⟨rfl, hb3⟩; have HE1 := Lib.hid (HD1.out.below hb3); have HE2 := Lib.hid (HD2.out.below hb3); have HE3 := Lib.hid (HD3.out.below hb3); have kc := KC.out w3 HE1.out HE2.out HE3.out; have HG3 := Lib.hid (show g < w3.heap.size from HE1.out.rg.lt); clear hb3 r0) | (go_at_call 66; (with_reducible refine kc.mono ?_); rintro e w4 ⟨g1, g2, rfl, hx4, hy4, l1, l2, hb4⟩; have HF1 := Lib.hid (HE1.out.below hb4); have HF2 := Lib.hid (HE2.out.below hb4); have HF3 := Lib.hid (HE3.out.below hb4); have ka := KA.out w4 g1 g2 hx4 hy4 HF1.out (fun e => by have := HG3.out; omega) (fun e => by have := HG3.out; omega); clear hb4 hx4 hy4 l1 l2 kc) | (go_at_call 70; (with_reducible refine ka.mono ?_); rintro e w5 ⟨rfl, hbt, hrw⟩; have HG1 := Lib.hid (HF1.out.add hbt hrw); have HG2 := Lib.hid (hbt.blk HF2.out (HF2.out.ne (row_blk HF1.out.rg) (by decide))); have HG3' := Lib.hid (hbt.blk HF3.out HGG.out.symm); have p1 := HG1.out.bp.get 1 (v := .int .i64 p.lev) rfl; have r1 := HG3'.out.get 0 (v := .int .i64 (r : Int)) rfl; clear hbt hrw ka) | (go_at_call 71; (with_reducible refine (kin _).mono ?_); rintro e w6 ⟨si, mi, rfl, hix, hb6⟩; have HH1 := Lib.hid (HG1.out.below hb6); have HH2 := Lib.hid (HG2.out.below hb6); have HH3 := Lib.hid (HG3'.out.below hb6); have HIX := Lib.hid hix; clear hb6 hix p1 r1) | fail)
          have HIL := Lib.hid (show (Hp.idxL p.lev r).length ≤ 3 by unfold Hp.idxL; repeat' split; all_goals simp)
          have HIM := Lib.hid (fun (q : Nat) (hq : q < (Hp.idxL p.lev r).length) => mem_idx HEX.out (List.getElem_mem hq))
          have HBA2 := Lib.hid (fun (q : Nat) (hq : q < (Hp.idxL p.lev r).length) => HBA.out r (by rw [HLV.out]; exact HRL.out) q hq)
          have HBR2 := Lib.hid (fun (hn : ∀ q (hq : q < (Hp.idxL p.lev r).length), isBig h p V r (Hp.idxL p.lev r)[q] = false) => big_res hn)
          generalize Hp.idxL p.lev r = IL at *
          go_loopw [60] (fun i wr => ∃ q : Nat, q ≤ IL.length ∧ i = .int .i64 q ∧ Hid (CrS W h p (some ⟨bb, off, none⟩) s s2 mh m m2 st0 g T1 wr) ∧ Hid (Blk wr gcm 56 #[.int .i64 V.depth, .bool V.sg, .int .i64 V.dx, .int .i64 V.dy]) ∧ Hid (Blk wr gr 3 #[.int .i64 (r : Int)]) ∧ Hid (HoldsI wr si IL) ∧ Hid (∀ j (hj : j < IL.length), j < q → isBig h p V r IL[j] = false)) (fun i _ => IL.length - (intOf i).toNat)
          case atStart => exact ⟨0, Nat.zero_le _, rfl, HH1, HH2, HH3, HIX, Lib.hid (fun j _ h => absurd h (Nat.not_lt_zero _))⟩
          case round =>
            obtain ⟨q, hq0, rfl, hS, hMC, hMR, hHI, hNBq⟩ := hrel
            clear HH1 HH2 HH3 HIX
            by_cases hql : q < IL.length
            · have hki : (q : Int) < (IL.length : Int) := by omega
              have wq : IntKind.i64.wrap ((q : Int) + 1) = (q : Int) + 1 := by have := HIL.out; exact IntWalk.i64_in _ (by omega)
              rcases hHI.out with z | ⟨ib, io, rfl, hir⟩
              · rw [z] at hql; simp at hql
              have i0 := hir q hql
              have HMI := Lib.hid (HIM.out q hql)
              have HBG := Lib.hid (HBA2.out q hql)
              have HNE := Lib.hid (fun (hb : isBig h p V r IL[q] = false) => (show ∀ j (hj : j < IL.length), j < q + 1 → isBig h p V r IL[j] = false from fun j hj hjk => if e : j = q then by subst e; exact hb else hNBq.out j hj (by omega)))
              have HIA := Lib.hid hir
              generalize IL[q] = I at *
              clear hir
              go_upto_region 14 with fail
              obtain ⟨we, hwe⟩ : ∃ x, x = wr.alloc (.cells #[.int .i64 I] 3) := ⟨_, rfl⟩
              obtain ⟨gb, hgb⟩ : ∃ x, wr.heap.size = x := ⟨_, rfl⟩
              have HD1 := Lib.hid (show CrS W h p (some ⟨bb, off, none⟩) s s2 mh m m2 st0 g T1 we by rw [hwe]; exact hS.out.alloc _)
              have HD2 := Lib.hid (show Blk we gcm 56 #[.int .i64 V.depth, .bool V.sg, .int .i64 V.dx, .int .i64 V.dy] by rw [hwe]; exact hMC.out.alloc _)
              have HD3 := Lib.hid (show Blk we gr 3 #[.int .i64 (r : Int)] by rw [hwe]; exact hMR.out.alloc _)
              have HD4 := Lib.hid (show Blk we gb 3 #[.int .i64 I] by rw [hwe, ← hgb]; exact Blk.new _ _ _)
              have HD5 := Lib.hid (show HoldsI we (some ⟨ib, io, none⟩) IL by rw [hwe]; exact (HoldsI.alloc (.inr ⟨ib, io, rfl, HIA.out⟩) _))
              rw [hgb, ← hwe]
              clear hwe hgb hS hMC hMR HIA i0
              have hrv : (r : Int) ≤ p.lev := (ex_iff.1 HEX.out).2.2
              have ba := HPO.out.pre r (by omega) hrv
              have bb2 := HPO.out.bex (r := (r : Int)) (by omega) hrv
              have kpr := blockExp_c p s s2 m m2 (r : Int) we (HPP.out.below HD1.out.bl (Nat.le_refl _)) (by omega)
              have KC := Lib.hid (fun (w : World) (hs : CrS W h p (some ⟨bb, off, none⟩) s s2 mh m m2 st0 g T1 w) (hc : Blk w gcm 56 #[.int .i64 V.depth, .bool V.sg, .int .i64 V.dx, .int .i64 V.dy]) (hr : Blk w gb 3 #[.int .i64 I]) => count2_c h HT.out p s s2 m m2 V HVC.out I (Hp.bexM p r).x (Hp.bexM p r).y bb2.1 bb2.2 st0 cap0 gcm (W.heap.size + 1) gb w hs.ht hc hs.bp hr)
              have F : Hp.Sep (Hp.fBan p I V) := (Hp.sep_smp HVC.out.1 HVC.out.2).comp Hp.sep_ban
              have cbd := Hp.cells_bd (e := (Hp.bexM p r).x) HT.out F
              have cbd2 := Hp.cells_bd (e := (Hp.bexM p r).y) HT.out F
              have xl := (xs_len (h := h) (f := Hp.fBan p I V) (e := (Hp.bexM p r).x)).1
              have yl := (xs_len (h := h) (f := Hp.fBan p I V) (e := (Hp.bexM p r).y)).2
              have HBD2 := Lib.hid (show isBig h p V r I = decide (65536 < Hp.mxL (Hp.xsL h (Hp.fBan p I V) (Hp.bexM p r).x) * Hp.mxL (Hp.ysL h (Hp.fBan p I V) (Hp.bexM p r).y)) from rfl)
              have hnc := HNC.out
              have hnp := HT.out.pos
              obtain ⟨X, hX⟩ : ∃ X, Hp.xsL h (Hp.fBan p I V) (Hp.bexM p r).x = X := ⟨_, rfl⟩
              obtain ⟨Y, hY⟩ : ∃ Y, Hp.ysL h (Hp.fBan p I V) (Hp.bexM p r).y = Y := ⟨_, rfl⟩
              rw [hX, hY] at KC HBD2
              rw [hX] at cbd xl
              rw [hY] at cbd2 yl
              have KM := Lib.hid (fun (w : World) (g1 g2 : Nat) (hx : RowAt w g1 X) (hy : RowAt w g2 Y) => most_c X Y (some ⟨g1, 0, none⟩) (some ⟨g2, 0, none⟩) X.length Y.length w hx.holds hy.holds cbd.1 cbd2.2 (by omega) (by omega))
              clear ba bb2 F cbd cbd2 xl yl hX hY hnc hnp hrv hql
              generalize Hp.bexM p r = E at *
              generalize Hp.mxL X * Hp.mxL Y = MP at *
              have r0 := HD3.out.get 0 (v := .int .i64 (r : Int)) rfl
              by_cases hbig : 65536 < MP
              · have HCR := Lib.hid (HBG.out (by rw [HBD2.out]; exact decide_eq_true hbig))
                go_wp2_with (first | (refine wpList_load_mid rfl 35 (.tmp 3) rfl (W.heap.size + 1) 0 rfl (pvA p s m s2 m2).toList _ HD1.out.bp.range Try.underlying35 rfl info19 ?_) | (go_at_call 72; (with_reducible refine kpr.mono ?_); rintro e w7 ⟨rfl, hb7⟩; have HJ1 := Lib.hid (HD1.out.below hb7); have HJ2 := Lib.hid (HD2.out.below hb7); have HJ3 := Lib.hid (HD3.out.below hb7); have HJ4 := Lib.hid (HD4.out.below hb7); have HJ5 := Lib.hid (HD5.out.below hb7 (Nat.le_refl _)); have kc := KC.out w7 HJ1.out HJ2.out HJ4.out; clear hb7 r0) | (go_at_call 66; (with_reducible refine kc.mono ?_); rintro e w8 ⟨g1, g2, rfl, hx8, hy8, l1, l2, hb8⟩; have HK1 := Lib.hid ((HJ1.out.below hb8).alloc (.cells #[.slice (some ⟨g1, 0, none⟩) X.length X.length, .slice (some ⟨g2, 0, none⟩) Y.length Y.length] 82)); have HK2 := Lib.hid ((HJ2.out.below hb8).alloc (.cells #[.slice (some ⟨g1, 0, none⟩) X.length X.length, .slice (some ⟨g2, 0, none⟩) Y.length Y.length] 82)); have HK3 := Lib.hid ((HJ3.out.below hb8).alloc (.cells #[.slice (some ⟨g1, 0, none⟩) X.length X.length, .slice (some ⟨g2, 0, none⟩) Y.length Y.length] 82)); have HK5 := Lib.hid (HoldsI.alloc (HJ5.out.below hb8 (Nat.le_refl _)) (.cells #[.slice (some ⟨g1, 0, none⟩) X.length X.length, .slice (some ⟨g2, 0, none⟩) Y.length Y.length] 82)); have km := KM.out (w8.alloc (.cells #[.slice (some ⟨g1, 0, none⟩) X.length X.length, .slice (some ⟨g2, 0, none⟩) Y.length Y.length] 82)) g1 g2 (hx8.alloc _) (hy8.alloc _); clear hb8 hx8 hy8 l1 l2 kc) | (go_at_call 75; (with_reducible refine km.mono ?_); rintro e w9 ⟨rfl, hb9⟩; have HL1 := Lib.hid (HK1.out.below hb9); have HL2 := Lib.hid (HK2.out.below hb9); have HL3 := Lib.hid (HK3.out.below hb9); have HL5 := Lib.hid (HK5.out.below hb9 (Nat.le_refl _)); clear hb9 km) | fail)
                go_ret
                exact ⟨congrArg (fun b => Ending.returned (.bool b)) HCR.out.symm, HL1.out.bl⟩
              · have HQN := Lib.hid (HNE.out (by rw [HBD2.out]; exact decide_eq_false hbig))
                go_wp2_with (first | (refine wpList_load_mid rfl 35 (.tmp 3) rfl (W.heap.size + 1) 0 rfl (pvA p s m s2 m2).toList _ HD1.out.bp.range Try.underlying35 rfl info19 ?_) | (go_at_call 72; (with_reducible refine kpr.mono ?_); rintro e w7 ⟨rfl, hb7⟩; have HJ1 := Lib.hid (HD1.out.below hb7); have HJ2 := Lib.hid (HD2.out.below hb7); have HJ3 := Lib.hid (HD3.out.below hb7); have HJ4 := Lib.hid (HD4.out.below hb7); have HJ5 := Lib.hid (HD5.out.below hb7 (Nat.le_refl _)); have kc := KC.out w7 HJ1.out HJ2.out HJ4.out; clear hb7 r0) | (go_at_call 66; (with_reducible refine kc.mono ?_); rintro e w8 ⟨g1, g2, rfl, hx8, hy8, l1, l2, hb8⟩; have HK1 := Lib.hid ((HJ1.out.below hb8).alloc (.cells #[.slice (some ⟨g1, 0, none⟩) X.length X.length, .slice (some ⟨g2, 0, none⟩) Y.length Y.length] 82)); have HK2 := Lib.hid ((HJ2.out.below hb8).alloc (.cells #[.slice (some ⟨g1, 0, none⟩) X.length X.length, .slice (some ⟨g2, 0, none⟩) Y.length Y.length] 82)); have HK3 := Lib.hid ((HJ3.out.below hb8).alloc (.cells #[.slice (some ⟨g1, 0, none⟩) X.length X.length, .slice (some ⟨g2, 0, none⟩) Y.length Y.length] 82)); have HK5 := Lib.hid (HoldsI.alloc (HJ5.out.below hb8 (Nat.le_refl _)) (.cells #[.slice (some ⟨g1, 0, none⟩) X.length X.length, .slice (some ⟨g2, 0, none⟩) Y.length Y.length] 82)); have km := KM.out (w8.alloc (.cells #[.slice (some ⟨g1, 0, none⟩) X.length X.length, .slice (some ⟨g2, 0, none⟩) Y.length Y.length] 82)) g1 g2 (hx8.alloc _) (hy8.alloc _); clear hb8 hx8 hy8 l1 l2 kc) | (go_at_call 75; (with_reducible refine km.mono ?_); rintro e w9 ⟨rfl, hb9⟩; have HL1 := Lib.hid (HK1.out.below hb9); have HL2 := Lib.hid (HK2.out.below hb9); have HL3 := Lib.hid (HK3.out.below hb9); have HL5 := Lib.hid (HK5.out.below hb9 (Nat.le_refl _)); clear hb9 km) | fail)
                go_roundw
                case rel => exact ⟨q + 1, by omega, by go_num, HL1, HL2, HL3, HL5, HQN⟩
                case measure => simp [intOf]; omega
            · obtain rfl : q = IL.length := by omega
              have HNN := Lib.hid (HBR2.out fun j hj => hNBq.out j hj hj)
              have HNR := Lib.hid (show ∀ q, q < r + 1 → Hp.bigRes h p V q = false from fun q hq => if e : q = r then by rw [e]; exact HNN.out else hNR.out q (by omega))
              have HB2 := Lib.hid (show bdL T1 (6 * ci + (r + 1)) from HB1.out)
              go_wp2_with fail
              go_roundw
              case rel => exact ⟨r + 1, by omega, by go_num, by rw [HT1.out]; exact hS, by rw [HT1.out]; exact HB2, HNR, hMC⟩
              case measure => simp [intOf]; omega
        · obtain rfl : r = LV := by omega
          have HQ := Lib.hid (HNX.out (big_com fun q hq => hNR.out q (by rw [← HLV.out]; exact hq)))
          have HTN2 := Lib.hid (show totC h p (ci + 1) = totR h p V TC r by rw [HTN.out, HLV.out])
          have HB9 := Lib.hid (show bdL (totC h p (ci + 1)) (6 * (ci + 1)) by
            rw [HTN2.out]
            intro v hv
            have q := hBR.out v hv
            have := HLE.out.1
            exact ⟨q.1, Int.le_trans q.2 (Int.mul_le_mul_of_nonneg_right (by omega) (by decide))⟩)
          go_wp2_with fail
          go_roundw
          case rel => exact ⟨ci + 1, by omega, by go_num, by rw [HTN2.out]; exact hS, HB9, HQ⟩
          case measure => simp [intOf]; omega
    · obtain rfl : ci = h.cs.length := by omega
      have HCR := Lib.hid (big_none (h := h) (p := p) (fun j hj => hNB.out j hj hj))
      have htl := totC_len h p h.cs.length (Nat.le_refl _)
      have hlay := HPO.out.lay
      have hmb := tot_few hBD.out (by have := HN4.out; omega) _ (Hp.mxL_mem (l := totC h p h.cs.length) (fun e => by have := HL0.out; rw [← htl, e] at this; simp at this))
      rw [totC_all] at hmb htl
      have km := max_c (Hp.totM h p) (some ⟨g, 0, none⟩) (Hp.tl h).length wr.drew (by rw [htl]; have := HL1.out; omega) (by rw [htl]; exact HL0.out) (by have := hS.out.rg.holds; rw [totC_all] at this; exact this)
      rw [htl] at km
      generalize Hp.mxL (Hp.totM h p) = MX at *
      have hmw : wrap64 (MX * p.lay) = MX * p.lay := by
        have p1 := Int.mul_nonneg hmb.1 (show 0 ≤ p.lay by omega)
        have p2 := Int.mul_le_mul hmb.2 hlay.2 (by omega) (by decide)
        exact IntWalk.wrap64_in _ ⟨by omega, by omega⟩
      obtain ⟨ML, hML⟩ : ∃ x, MX * p.lay = x := ⟨_, rfl⟩
      have hmw1 : wrap64 (MX * p.lay) = ML := hmw.trans hML
      have hmw2 : IntKind.i64.wrap (MX * p.lay) = ML := by rw [IntWalk.i64_left]; exact hmw1
      rw [hML] at HCR
      have KS := Lib.hid (show (fun w' => w'.cell? ⟨W.heap.size + 1, 7, none⟩ = some (.int .i64 p.lay)) wr.drew from hS.out.bp.get 7 rfl)
      have HBL := Lib.hid hS.out.bl.drew
      clear hmw hML hmb hlay htl hci hlt
      go_upto_region 20 with fail
      refine wp_region_held_drew (S := (fun w' => w'.cell? ⟨W.heap.size + 1, 7, none⟩ = some (.int .i64 p.lay))) (by kernel_rfl) (by (try dsimp only); exact KS.out) (fun hHeld => ?_)
      refine takeD (i := 0) (oi := _) (some 77) (v := ?_) rfl rfl (by kernel_rfl) (by kernel_rfl) (by kernel_rfl) (fun _ _ _ h => h) (Or.inl ⟨by rfl, ?_⟩) (by assumption) ?_
      rotate_left
      · (intro w hSw; (try dsimp only at hSw); go_simp; try with_reducible rfl)
      simp only [Act.put, List.setIfInBounds_toArray, List.set]
      refine takeD (i := 2) (oi := _) (some 79) (v := ?_) rfl rfl (by kernel_rfl) (by kernel_rfl) (by kernel_rfl) (fun _ _ _ h => h) (Or.inl ⟨by rfl, ?_⟩) (by assumption) ?_
      rotate_left
      · (intro w hSw; (try dsimp only at hSw); go_simp; try with_reducible rfl)
      simp only [Act.put, List.setIfInBounds_toArray, List.set]
      refine takeD (i := 3) (oi := _) (some 80) (v := ?_) rfl rfl (by kernel_rfl) (by kernel_rfl) (by kernel_rfl) (fun _ _ _ h => h) (Or.inl ⟨by rfl, ?_⟩) (by assumption) ?_
      rotate_left
      · (intro w hSw; (try dsimp only at hSw); go_simp; try with_reducible rfl)
      simp only [Act.put, List.setIfInBounds_toArray, List.set]
      refine wpAnyH_ready (rs := [1]) (by kernel_rfl) (by simp) ?_
      refine AllReadyH.cons (o := _) rfl (fun K hK => ?_) AllReadyH.nil
      (go_simp; go_at_call 76; (with_reducible refine km.mono ?_); rintro e wn ⟨rfl, rfl⟩)
      refine hK.out _ _ (by (try dsimp only); exact hHeld) (fun hHeld => ?_)
      clear hK K
      try simp only [Act.put, List.setIfInBounds_toArray, List.set]
      refine takeD (i := 4) (oi := _) (some 81) (v := ?_) rfl rfl (by kernel_rfl) (by kernel_rfl) (by kernel_rfl) (fun _ _ _ h => h) (Or.inl ⟨by rfl, ?_⟩) (by assumption) ?_
      rotate_left
      · (intro w hSw; (try dsimp only at hSw); go_simp; try with_reducible rfl)
      simp only [Act.put, List.setIfInBounds_toArray, List.set]
      refine takeD (i := 5) (oi := _) (some 82) (v := ?_) rfl rfl (by kernel_rfl) (by kernel_rfl) (by kernel_rfl) (fun _ _ _ h => h) (Or.inl ⟨by rfl, ?_⟩) (by assumption) ?_
      rotate_left
      · (intro w hSw; (try dsimp only at hSw); go_simp; try with_reducible rfl)
      simp only [Act.put, List.setIfInBounds_toArray, List.set]
      refine takeD (i := 6) (oi := _) (some 4) (v := ?_) rfl rfl (by kernel_rfl) (by kernel_rfl) (by kernel_rfl) (fun _ _ _ h => h) (Or.inl ⟨by rfl, ?_⟩) (by assumption) ?_
      rotate_left
      · (intro w hSw; (try dsimp only at hSw); go_simp; try with_reducible rfl)
      simp only [Act.put, List.setIfInBounds_toArray, List.set]
      refine wpAnyH_done (by kernel_rfl) ?_ _
      clear hHeld
      go_wp2_with fail
      go_ret
      exact ⟨congrArg (fun b => Ending.returned (.bool b)) HCR.out.symm, HBL.out⟩
end Go.Proofs.Ytkcjbehfhcmiaaa
