/-
  Layer 11, the reference's encoder: Encode.
-/
import Derived.Test.YtdnfnekfcndnhaaDoorRf
set_option maxRecDepth 100000
namespace Go.Proofs.YtdnfnekfcndnhaaDoor
open Go.RowKit

/-- While the range is small. -/
structure Nv (w : World) (B a : Nat) (pv : Value) (P : List Int) (s1 : Am.St) (N : Nat) (bg : Bool) (s : Am.St) (W : World) : Prop where
  sd : ∃ lv, VeC W B a pv lv P (Am.dig (s.n + 4) s.lo) s.rg bg
  kp : Kp a w W
  eq : Am.norm s = Am.norm s1
  rg : 65536 ≤ s.rg ∧ s.rg ≤ 4294967295
  n : s.n ≤ N ∧ (s.rg < 16777216 → s.n < N)
theorem nv_next {w W w2 : World} {B a N : Nat} {pv lv v' : Value} {P : List Int} {s1 s : Am.St} {bg : Bool} {X : Obj} (h : Nv w B a pv P s1 N bg s W) (hv : VeC W B a pv lv P (Am.dig (s.n + 4) s.lo) s.rg bg) (hs : s.rg < 16777216)
    (hown : w2.ownsRow B 3 1 v' ((Am.dig (s.n + 4) s.lo).length + 1) ((Am.dig (s.n + 4) s.lo).map (Value.int .i64) ++ [.int .i64 0])) (hg : (W.alloc X).grownBy w2 lv.ownBlock) (hat : v'.ownBlock = lv.ownBlock ∨ v'.ownBlock = some (W.heap.size + 1)) :
    (Nv w B a pv P s1 N bg ⟨256 * s.lo, 256 * s.rg, s.n + 1⟩ ((w2.setCell ⟨a, 1, none⟩ v').setCell ⟨a, 2, none⟩ (.int .i64 (256 * s.rg)))) ∧ Blk w2 a 58 #[pv, lv, .int .i64 s.rg, .bool bg] := by
  obtain ⟨M1, M2, M3⟩ := hv.more hown hg hat
  have V2 := M1.setRg (256 * s.rg)
  have hr := h.rg
  have e1 : Am.dig (s.n + 4) s.lo ++ [0] = Am.dig (s.n + 1 + 4) (256 * s.lo) := by
    rw [show s.n + 1 + 4 = (s.n + 4) + 1 by omega, Am.dig_succ (s.n + 4) (256 * s.lo), show 256 * s.lo / 256 = s.lo by omega, show 256 * s.lo % 256 = 0 by omega]
  rw [e1] at V2
  refine ⟨⟨⟨v', V2.1⟩, (h.kp.trans M2).trans V2.2, ?_, ?_, ?_⟩, M3⟩
  · rw [norm_id (by simp only; omega), ← norm_eq hs]; exact h.eq
  · simp only; omega
  · simp only
    have := h.n.2 hs
    omega
theorem digit_mid {W : World} {B a g2 N m2 i : Nat} {pv : Value} {P R : List Int} {rg A : Int} {bg : Bool} (h : VeC W B a pv (.slice (some ⟨g2, 0, none⟩) N m2) P (Am.dig (i + 1) A ++ R) rg bg) (y : Int) :
    VeC (W.setCell ⟨g2, i, none⟩ (.int .i64 y)) B a pv (.slice (some ⟨g2, 0, none⟩) N m2) P (Am.dig i (A / 256) ++ y :: R) rg bg ∧ Kp a W (W.setCell ⟨g2, i, none⟩ (.int .i64 y)) := by
  have h1 := h.digit i y
  have e : (Am.dig (i + 1) A ++ R).set i y = Am.dig i (A / 256) ++ y :: R := by
    rw [Am.dig_succ, List.append_assoc]
    have := set_mid (Am.dig i (A / 256)) R (A % 256) y
    rw [Am.dig_len] at this
    exact this
  rw [e] at h1
  exact h1
theorem digit_at {W : World} {B a g2 N m2 i : Nat} {pv : Value} {P R : List Int} {rg A : Int} {bg : Bool} (h : VeC W B a pv (.slice (some ⟨g2, 0, none⟩) N m2) P (Am.dig (i + 1) A ++ R) rg bg) : W.cell? ⟨g2, i, none⟩ = some (.int .i64 (A % 256)) ∧ ∀ j, W.frozen? ⟨g2, j, none⟩ = false := by
  have hn := own_n h.lw
  have hl := h.lw
  rw [← hn] at hl
  have hi : i < N := by rw [hn]; simp [Am.dig_len]; omega
  obtain ⟨g', he, hg, hf, _, _⟩ := own_at hl i hi
  obtain rfl : g2 = g' := by simpa using he
  refine ⟨?_, hf⟩
  rw [hg]
  have := Am.dig_len i (A / 256)
  simp [Am.dig_succ, this]
theorem venc_no (w : World) (B a : Nat) (x : Am.X) (c b : Int) (h : Ve w B a x) (hl1 : 1 ≤ x.1.length) (hl : x.1.length ≤ 64) (hc : ¬ (0 ≤ c ∧ c < x.1.length ∧ (b = 0 ∨ b = 1))) :
    Calls Tryd.prog 14 #[.pointer (some ⟨a, 0, none⟩), .int .i64 c, .int .i64 b] w fun e w' => e = .returned (.int .i64 2) ∧ w = w' := by
  obtain ⟨pv, lv, bg, h, hbg⟩ := h
  obtain ⟨c0, c1, c2, c3⟩ := h.cells
  obtain ⟨s, m, rfl⟩ := own_slice h.ps
  have hpn := fun W => ptrVn W ⟨a, 0, none⟩
  have hne : ¬ (x.1.length : Int) = 0 := by omega
  clear h hbg
  generalize x.1.length = n at *
  by_cases h0 : c < 0
  · clear hc
    go_enter Tryd.func14, Tryd.ntmps14
    go_wp2_with fail
    go_ret
    exact ⟨rfl, rfl⟩
  · by_cases h1 : (n : Int) ≤ c
    · clear hc
      go_enter Tryd.func14, Tryd.ntmps14
      go_wp2_with fail
      go_ret
      exact ⟨rfl, rfl⟩
    · by_cases h2 : b < 0
      · clear hc
        go_enter Tryd.func14, Tryd.ntmps14
        go_wp2_with fail
        go_ret
        exact ⟨rfl, rfl⟩
      · have h3 : 1 < b := by omega
        clear hc
        go_enter Tryd.func14, Tryd.ntmps14
        go_wp2_with fail
        go_ret
        exact ⟨rfl, rfl⟩
set_option maxHeartbeats 8000000 in
theorem venc_0 (w : World) (B a k : Nat) (P : List Int) (s : Am.St) (p : Int) (h : Ve w B a (P, s)) (hx : Am.OkX (P, s)) (hk : k < P.length) (hp : p = P[k]) (hl : P.length ≤ 64) (hn : s.n ≤ 1000000) :
    Calls Tryd.prog 14 #[.pointer (some ⟨a, 0, none⟩), .int .i64 (k : Int), .int .i64 0] w (VeGives B a (Am.step (P, s) ((k : Int), 0)) 0 w) := by
  obtain ⟨pv, lv, bg, h, hbg⟩ := h
  obtain ⟨c0, c1, c2, c3⟩ := h.cells
  obtain ⟨sp, m, rfl⟩ := own_slice h.ps
  obtain ⟨g, rfl, hg, fg, _, _⟩ := own_at h.ps k hk
  dsimp only at c0 c1 c2 c3 hg
  have hlw := h.lw
  dsimp only at h hlw
  rw [Am.dig_len] at hlw
  obtain ⟨s2, m2, rfl⟩ := own_slice hlw
  obtain ⟨g2, rfl, _, fg2, _, _⟩ := own_at hlw 0 (by omega)
  have hg2 : w.cell? ⟨g, k, none⟩ = some (.int .i64 p) := by rw [hg, hp]; simp [hk]
  have hpr : Am.pr (P, s) (k : Int) = p := by rw [hp]; simp [Am.pr, List.getD_eq_getElem?_getD, hk]
  have hpp : Am.prob p := by rw [hp]; exact hx.ps _ (List.getElem_mem hk)
  have hok : Am.Ok s := hx.st
  have pb := Am.part_bd hok hpp
  have cb := Am.cut_bd 0 hok hpp
  have hrg := hok.r2
  have hrg0 : 16777216 ≤ s.rg := hok.r1
  have htop := Am.top_pw hok
  have hlo := hok.lo
  have hst : Hid (Am.step (P, s) ((k : Int), 0) = (P.set k (Am.adp p 0), Am.norm (Am.cut s p 0))) := by
    show _ = _
    unfold Am.step
    rw [hpr]; rfl
  have HNE : Hid ((Am.norm (Am.cut s p 0)).rg ≠ 4294967295) := Am.enc_ne 0 hok hpp
  have HPP := Lib.hid hpp
  have HCB := Lib.hid cb
  have HPK : Hid (P[k]? = some p) := by show _ = _; rw [hp, List.getElem?_eq_getElem hk]
  obtain ⟨Pt, hPt⟩ : ∃ Pt, Pt = Am.part s p := ⟨_, rfl⟩
  have hPm : s.rg / 4096 * p = Pt := by rw [hPt]; rfl
  rw [← hPt] at pb
  have hwP : wrap64 Pt = Pt := by unfold wrap64; omega
  have hwP2 : IntKind.i64.wrap Pt = Pt := IntWalk.i64_in _ (by omega)
  have H := Lib.hid h
  have HPt := Lib.hid hPt
  have HTOP : Hid (s.lo + Pt + 1 ≤ Am.Pw (s.n + 4) ∧ s.lo + 1 ≤ Am.Pw (s.n + 4)) := by show _ ∧ _; omega
  have HLO := Lib.hid hlo
  have hpn := fun W => ptrVn W ⟨a, 0, none⟩
  have hkk : (k : Int) < (P.length : Int) := by omega
  have hk0 : (0 : Int) ≤ (k : Int) := by omega
  have hP0 : ¬ (P.length : Int) = 0 := by omega
  have e6 : IntKind.i64.wrap (k : Int) = (k : Int) := IntWalk.i64_in _ (by omega)
  obtain ⟨r0, hr0⟩ : ∃ r0, r0 = s.rg := ⟨_, rfl⟩
  rw [← hr0] at c2 hPm hrg hrg0 pb
  have HR0 := Lib.hid hr0
  clear hg hp hpr hpp hx hok hPt cb h hr0 hbg hlw htop hlo
  obtain ⟨i0, hi, hz0, hz1, hz2⟩ := info_parts infoI
  go_enter Tryd.func14, Tryd.ntmps14
  go_wp2_with fail
  go_quiet (fail)
  have T : VeC (w.drewN nq) B a _ _ P _ s.rg bg ∧ Kp a w (w.drewN nq) := ⟨H.out.below (drewN_below w nq), Kp.of_below (drewN_below w nq) H.out.core.lt⟩
  obtain ⟨k0, k1, k2, k3⟩ := T.1.cells
  have kf := T.1.core.blk.free
  rw [← HR0.out] at k2
  have U := T.1.setRg Pt
  have hI : Hid (∃ s', Nv w B a (.slice (some ⟨g, 0, none⟩) P.length m) P (Am.cut s p 0) (s.n + 1) bg s' ((w.drewN nq).setCell ⟨a, 2, none⟩ (.int .i64 Pt))) := by
    refine ⟨Am.cut s p 0, ⟨.slice (some ⟨g2, 0, none⟩) (s.n + 4) m2, ?_⟩, T.2.trans U.2, rfl, ⟨HCB.out.2.2.1, HCB.out.2.2.2.1⟩, ?_⟩
    · show VeC _ B a _ _ P (Am.dig (s.n + 4) s.lo) (Am.part s p) bg
      rw [← HPt.out]; exact U.1
    · show s.n ≤ s.n + 1 ∧ (_ → s.n < s.n + 1); omega
  obtain ⟨W1, hW1⟩ : ∃ W1, W1 = w.drewN nq := ⟨_, rfl⟩
  rw [← hW1] at hI k0 k1 k2 k3 kf ⊢
  clear hW1 T U c0 c1 c2 c3 hg2 fg fg2
  rename (0 : Int) ≤ (k : Int) ∧ ¬ P.length ≤ k => hq9
  have HK9 := Lib.hid hk
  have HK8 := Lib.hid hkk
  have HK7 := Lib.hid hk0
  clear hq9 hk hkk hk0
  go_wp2_with fail
  clear k0 k1 k2 k3 kf
  go_loopw [] (fun wr => ∃ s', Hid (Nv w B a (.slice (some ⟨g, 0, none⟩) P.length m) P (Am.cut s p 0) (s.n + 1) bg s' wr)) (fun wr => match wr.cell? ⟨a, 2, none⟩ with | some (.int _ v) => (16777216 - v).toNat | _ => 0)
  case atStart => exact hI
  case round =>
    obtain ⟨s', hN⟩ := hrel
    obtain ⟨lv, hV⟩ := hN.out.sd
    have hrb := hN.out.rg
    by_cases hlt : s'.rg < 16777216
    · have hnn := hN.out.n.2 hlt
      have hlw := hV.lw
      rw [Am.dig_len] at hlw
      obtain ⟨s3, m3, rfl⟩ := own_slice hlw
      obtain ⟨_, d1, d2, _⟩ := hV.cells
      have df := hV.core.blk.free
      have HBw : B ≤ wr.heap.size := Nat.le_trans hV.core.ge (Nat.le_of_lt hV.core.lt)
      have HV := Lib.hid hV
      have HLW := Lib.hid hlw
      have HLT := Lib.hid hlt
      have hA := (Below.refl wr.heap.size wr).alloc (Nat.le_refl _) (.cells #[.int .i64 0] 3)
      have HLA := Lib.hid (own_keep (w1 := wr.alloc (.cells #[.int .i64 0] 3)) hlw fun j hj => Below.heap_alloc wr _ j ((own_foot hlw hj).2.elim fun _ hb => hb.lt))
      have HLN : Hid ((Am.dig (s'.n + 4) s'.lo).length = s'.n + 4) := Am.dig_len _ _
      have hnb : s'.n + 4 ≤ 2000000 := by omega
      obtain ⟨r', hr'⟩ : ∃ r', r' = s'.rg := ⟨_, rfl⟩
      rw [← hr'] at d2 hrb hlt
      have HR' := Lib.hid hr'
      have HD2 := Lib.hid d2
      clear hV hlw hA hr' hnn
      go_upto_region 17 with (first | (at_builtin; go_loud (refine wpList_append_own_at _ rfl _ _ 48 rfl B 3 i0 (.int .i64 0) 1 8 Tryd.underlying48 hi hz0 hz1 hz2 rfl (by decide) (.slice s3 (s'.n + 4) m3) (s'.n + 4) _ rfl HLA.out ⟨wr.heap.size, 0, none⟩ 1 1 [.int .i64 0] rfl rfl (one_new8 _ _ _) (by intro u hu; simp at hu; subst hu; rfl) (by unfold maxLen; omega) (by omega) (by simp; omega) ?_); intro v' w2 hown hgrow hxx hat; go_loud (obtain ⟨s5, m5, rfl⟩ := own_slice hown; have HNX := Lib.hid (nv_next hN.out HV.out HLT.out (by rw [HLN.out]; exact hown) hgrow (by simpa using hat)); have e1 : w2.cell? ⟨a, 1, none⟩ = some (.slice s3 (s'.n + 4) m3) := HNX.out.2.cell 1; have e2 : w2.cell? ⟨a, 2, none⟩ = some (.int .i64 r') := (by rw [HR'.out]; exact HNX.out.2.cell 2); have ef := HNX.out.2.free; clear hown hgrow hxx hat)))
      go_wp2_with fail
      go_roundw
      case rel =>
        have Z := HNX.out.1
        rw [← HR'.out] at Z
        exact ⟨_, Z⟩
      case measure =>
        have Z := HNX.out.1
        obtain ⟨cl, hcl⟩ := Z.sd
        have hz := hcl.cells.2.2.1
        rw [← HR'.out] at hz
        rw [hz, HD2.out]
        show (16777216 - 256 * r').toNat < (16777216 - r').toNat
        omega
    · have hnm : Hid (Am.norm (Am.cut s p 0) = s') := by show _ = _; rw [← hN.out.eq, norm_id hlt]
      obtain ⟨d0, _, d2, d3⟩ := hV.cells
      have df := hV.core.blk.free
      obtain ⟨g', he, hg, hf, _, _⟩ := own_at hV.ps k HK9.out
      have hkk := HK8.out
      have hk0 := HK7.out
      obtain rfl : g = g' := by simpa using he
      have hgp : wr.cell? ⟨g, k, none⟩ = some (.int .i64 p) := by rw [hg]; simp [HPK.out]
      have hga : g ≠ a := fun e => hV.pa.1 (by rw [e]; rfl)
      have ha := fun W => adaptR_c p 0 W
      rw [adF_adp HPP.out (by decide)] at ha
      obtain ⟨Q, hQ⟩ : ∃ Q, Q = Am.adp p 0 := ⟨_, rfl⟩
      rw [← hQ] at ha
      have HQ := Lib.hid hQ
      have HV := Lib.hid hV
      clear hg he hQ hV
      go_upto_region 18 with fail
      clear d2
      have d3' : ∀ v, (wr.setCell ⟨g, k, none⟩ v).cell? ⟨a, 3, none⟩ = some (.bool bg) := fun v => cell_far _ d3 (fun e => hga e.symm)
      go_region_law (first | (go_simp; go_at_call 37; (with_reducible refine (ha _).mono ?_); rintro e wn ⟨rfl, rfl⟩; go_wp2_with fail) | fail)
      all_goals
        go_wp2_with fail
        go_ret
        have Y := HV.out.prob k Q
        have Y2 : VeC (wr.setCell ⟨g, k, none⟩ (.int .i64 Q)).drew B a _ _ _ _ _ _ ∧ Kp a (wr.setCell ⟨g, k, none⟩ (.int .i64 Q)) (wr.setCell ⟨g, k, none⟩ (.int .i64 Q)).drew := ⟨Y.1.below (drewN_below _ 1), Kp.of_below (drewN_below _ 1) Y.1.core.lt⟩
        have Y3 := Y2.1.setBg true
        refine ⟨rfl, ?_, ((hN.out.kp.trans Y.2).trans Y2.2).trans Y3.2⟩
        rw [hst.out, hnm.out, ← HQ.out]
        exact ⟨_, _, true, Y3.1, by have := HNE.out; rw [hnm.out] at this; simpa using this⟩
set_option maxHeartbeats 8000000 in
theorem venc_1 (w : World) (B a k : Nat) (P : List Int) (s : Am.St) (p : Int) (h : Ve w B a (P, s)) (hx : Am.OkX (P, s)) (hk : k < P.length) (hp : p = P[k]) (hl : P.length ≤ 64) (hn : s.n ≤ 1000000) :
    Calls Tryd.prog 14 #[.pointer (some ⟨a, 0, none⟩), .int .i64 (k : Int), .int .i64 1] w (VeGives B a (Am.step (P, s) ((k : Int), 1)) 0 w) := by
  obtain ⟨pv, lv, bg, h, hbg⟩ := h
  obtain ⟨c0, c1, c2, c3⟩ := h.cells
  obtain ⟨sp, m, rfl⟩ := own_slice h.ps
  obtain ⟨g, rfl, hg, fg, _, _⟩ := own_at h.ps k hk
  dsimp only at c0 c1 c2 c3 hg
  have hlw := h.lw
  dsimp only at h hlw
  rw [Am.dig_len] at hlw
  obtain ⟨s2, m2, rfl⟩ := own_slice hlw
  obtain ⟨g2, rfl, _, fg2, _, _⟩ := own_at hlw 0 (by omega)
  have hg2 : w.cell? ⟨g, k, none⟩ = some (.int .i64 p) := by rw [hg, hp]; simp [hk]
  have hpr : Am.pr (P, s) (k : Int) = p := by rw [hp]; simp [Am.pr, List.getD_eq_getElem?_getD, hk]
  have hpp : Am.prob p := by rw [hp]; exact hx.ps _ (List.getElem_mem hk)
  have hok : Am.Ok s := hx.st
  have pb := Am.part_bd hok hpp
  have cb := Am.cut_bd 1 hok hpp
  have hrg := hok.r2
  have hrg0 : 16777216 ≤ s.rg := hok.r1
  have htop := Am.top_pw hok
  have hlo := hok.lo
  have hst : Hid (Am.step (P, s) ((k : Int), 1) = (P.set k (Am.adp p 1), Am.norm (Am.cut s p 1))) := by
    show _ = _
    unfold Am.step
    rw [hpr]; rfl
  have HNE : Hid ((Am.norm (Am.cut s p 1)).rg ≠ 4294967295) := Am.enc_ne 1 hok hpp
  have HPP := Lib.hid hpp
  have HCB := Lib.hid cb
  have HPK : Hid (P[k]? = some p) := by show _ = _; rw [hp, List.getElem?_eq_getElem hk]
  obtain ⟨Pt, hPt⟩ : ∃ Pt, Pt = Am.part s p := ⟨_, rfl⟩
  have hPm : s.rg / 4096 * p = Pt := by rw [hPt]; rfl
  rw [← hPt] at pb
  have hwP : wrap64 Pt = Pt := by unfold wrap64; omega
  have hwP2 : IntKind.i64.wrap Pt = Pt := IntWalk.i64_in _ (by omega)
  have H := Lib.hid h
  have HPt := Lib.hid hPt
  have HTOP : Hid (s.lo + Pt + 1 ≤ Am.Pw (s.n + 4) ∧ s.lo + 1 ≤ Am.Pw (s.n + 4)) := by show _ ∧ _; omega
  have HLO := Lib.hid hlo
  have hpn := fun W => ptrVn W ⟨a, 0, none⟩
  have hkk : (k : Int) < (P.length : Int) := by omega
  have hk0 : (0 : Int) ≤ (k : Int) := by omega
  have hP0 : ¬ (P.length : Int) = 0 := by omega
  have e6 : IntKind.i64.wrap (k : Int) = (k : Int) := IntWalk.i64_in _ (by omega)
  obtain ⟨r0, hr0⟩ : ∃ r0, r0 = s.rg := ⟨_, rfl⟩
  rw [← hr0] at c2 hPm hrg hrg0 pb
  have HR0 := Lib.hid hr0
  clear hg hp hpr hpp hx hok hPt cb h hr0 hbg hlw htop hlo
  obtain ⟨i0, hi, hz0, hz1, hz2⟩ := info_parts infoI
  go_enter Tryd.func14, Tryd.ntmps14
  go_wp2_with fail
  go_quiet (fail)
  have T : VeC (w.drewN nq) B a _ _ P _ s.rg bg ∧ Kp a w (w.drewN nq) := ⟨H.out.below (drewN_below w nq), Kp.of_below (drewN_below w nq) H.out.core.lt⟩
  obtain ⟨k0, k1, k2, k3⟩ := T.1.cells
  have kf := T.1.core.blk.free
  rw [← HR0.out] at k2
  have U := T.1.setRg (r0 - Pt)
  have hC0 : Hid (∃ A R, VeC ((w.drewN nq).setCell ⟨a, 2, none⟩ (.int .i64 (r0 - Pt))) B a (.slice (some ⟨g, 0, none⟩) P.length m) (.slice (some ⟨g2, 0, none⟩) (s.n + 4) m2) P (Am.dig (s.n + 4) A ++ R) (r0 - Pt) bg ∧ Am.Cy (s.n + 4) (s.n + 4) s.lo Pt A Pt R ∧ Kp a w ((w.drewN nq).setCell ⟨a, 2, none⟩ (.int .i64 (r0 - Pt)))) :=
    ⟨s.lo, [], by rw [List.append_nil]; exact U.1, Am.cy_start HLO.out HTOP.out.2 (by omega), T.2.trans U.2⟩
  obtain ⟨W1, hW1⟩ : ∃ W1, W1 = w.drewN nq := ⟨_, rfl⟩
  rw [← hW1] at hC0 k0 k1 k2 k3 kf ⊢
  clear hW1 T U c0 c1 c2 c3 hg2 fg fg2
  rename (0 : Int) ≤ (k : Int) ∧ ¬ P.length ≤ k => hq9
  have HK9 := Lib.hid hk
  have HK8 := Lib.hid hkk
  have HK7 := Lib.hid hk0
  clear hq9 hk hkk hk0
  go_wp2_with fail
  clear k0 k1 k2 k3 kf
  go_loopw [7, 8] (fun y z wr => ∃ (c : Nat) (b : Int), c ≤ s.n + 4 ∧ y = .int .i64 b ∧ 0 ≤ b ∧ b ≤ 4294967295 ∧ z = .int .i64 ((c : Int) - 1) ∧ Hid (∃ A R, VeC wr B a (.slice (some ⟨g, 0, none⟩) P.length m) (.slice (some ⟨g2, 0, none⟩) (s.n + 4) m2) P (Am.dig c A ++ R) (r0 - Pt) bg ∧ Am.Cy (s.n + 4) c s.lo Pt A b R ∧ Kp a w wr)) (fun _ z _ => (intOf z + 1).toNat)
  case atStart => exact ⟨s.n + 4, Pt, Nat.le_refl _, rfl, by omega, by omega, by go_num, hC0⟩
  case round =>
   obtain ⟨c, b, hcn, rfl, hb0, hb1, rfl, A, R, hV, hC, hKp⟩ := hrel
   cases c with
   | succ c =>
    obtain ⟨hd, hf⟩ := digit_at hV
    obtain ⟨d0, d1, d2, d3⟩ := hV.cells
    have df := hV.core.blk.free
    obtain ⟨x, hx⟩ : ∃ x, x = A % 256 := ⟨_, rfl⟩
    have hxb : 0 ≤ x ∧ x ≤ 255 := by omega
    rw [← hx] at hd
    have HX := Lib.hid hx
    have ec : ((c + 1 : Nat) : Int) - 1 = (c : Int) := by omega
    rw [ec]
    have ecn : c < s.n + 4 := by omega
    have HV := Lib.hid hV
    have HC := Lib.hid hC
    have HKp := Lib.hid hKp
    have hm1 : (b + x).tmod 256 = (b + x) % 256 := Int.tmod_eq_emod_of_nonneg (by omega)
    have hm2 : (b + x).tdiv 256 = (b + x) / 256 := Int.tdiv_eq_ediv_of_nonneg (by omega)
    clear hx hV hC hKp
    go_wp2_with fail
    go_roundw
    case rel =>
      have D := digit_mid HV.out ((b + x) % 256)
      refine ⟨c, (b + x) / 256, by omega, by go_num, by omega, by omega, rfl, A / 256, (b + x) % 256 :: R, D.1, ?_, HKp.out.trans D.2⟩
      have := Am.cy_next HC.out
      rw [← HX.out] at this
      exact this
    case measure => simp [intOf]
   | zero =>
    have eR : R = Am.dig (s.n + 4) (s.lo + Pt) := Am.cy_end hC HTOP.out.1
    rw [eR] at hV
    have hI : Hid (∃ s', Nv w B a (.slice (some ⟨g, 0, none⟩) P.length m) P (Am.cut s p 1) (s.n + 1) bg s' wr) := by
      refine ⟨Am.cut s p 1, ⟨.slice (some ⟨g2, 0, none⟩) (s.n + 4) m2, ?_⟩, hKp, rfl, ⟨HCB.out.2.2.1, HCB.out.2.2.2.1⟩, ?_⟩
      · show VeC _ B a _ _ P (Am.dig (s.n + 4) (s.lo + Am.part s p)) (s.rg - Am.part s p) bg
        rw [← HPt.out, ← HR0.out]; exact hV
      · show s.n ≤ s.n + 1 ∧ (_ → s.n < s.n + 1); omega
    clear hV hC hKp eR
    obtain ⟨z0, hzz⟩ : ∃ z0 : Int, z0 = ((0 : Nat) : Int) - 1 := ⟨_, rfl⟩
    have hzn : z0 < 0 := by omega
    rw [← hzz]
    clear hzz
    go_wp2_with fail
    go_loopw [] (fun wr => ∃ s', Hid (Nv w B a (.slice (some ⟨g, 0, none⟩) P.length m) P (Am.cut s p 1) (s.n + 1) bg s' wr)) (fun wr => match wr.cell? ⟨a, 2, none⟩ with | some (.int _ v) => (16777216 - v).toNat | _ => 0)
    case atStart => exact hI
    case round =>
      obtain ⟨s', hN⟩ := hrel
      obtain ⟨lv, hV⟩ := hN.out.sd
      have hrb := hN.out.rg
      by_cases hlt : s'.rg < 16777216
      · have hnn := hN.out.n.2 hlt
        have hlw := hV.lw
        rw [Am.dig_len] at hlw
        obtain ⟨s3, m3, rfl⟩ := own_slice hlw
        obtain ⟨_, d1, d2, _⟩ := hV.cells
        have df := hV.core.blk.free
        have HBw : B ≤ wr.heap.size := Nat.le_trans hV.core.ge (Nat.le_of_lt hV.core.lt)
        have HV := Lib.hid hV
        have HLW := Lib.hid hlw
        have HLT := Lib.hid hlt
        have hA := (Below.refl wr.heap.size wr).alloc (Nat.le_refl _) (.cells #[.int .i64 0] 3)
        have HLA := Lib.hid (own_keep (w1 := wr.alloc (.cells #[.int .i64 0] 3)) hlw fun j hj => Below.heap_alloc wr _ j ((own_foot hlw hj).2.elim fun _ hb => hb.lt))
        have HLN : Hid ((Am.dig (s'.n + 4) s'.lo).length = s'.n + 4) := Am.dig_len _ _
        have hnb : s'.n + 4 ≤ 2000000 := by omega
        obtain ⟨r', hr'⟩ : ∃ r', r' = s'.rg := ⟨_, rfl⟩
        rw [← hr'] at d2 hrb hlt
        have HR' := Lib.hid hr'
        have HD2 := Lib.hid d2
        clear hV hlw hA hr' hnn
        go_upto_region 17 with (first | (at_builtin; go_loud (refine wpList_append_own_at _ rfl _ _ 48 rfl B 3 i0 (.int .i64 0) 1 8 Tryd.underlying48 hi hz0 hz1 hz2 rfl (by decide) (.slice s3 (s'.n + 4) m3) (s'.n + 4) _ rfl HLA.out ⟨wr.heap.size, 0, none⟩ 1 1 [.int .i64 0] rfl rfl (one_new8 _ _ _) (by intro u hu; simp at hu; subst hu; rfl) (by unfold maxLen; omega) (by omega) (by simp; omega) ?_); intro v' w2 hown hgrow hxx hat; go_loud (obtain ⟨s5, m5, rfl⟩ := own_slice hown; have HNX := Lib.hid (nv_next hN.out HV.out HLT.out (by rw [HLN.out]; exact hown) hgrow (by simpa using hat)); have e1 : w2.cell? ⟨a, 1, none⟩ = some (.slice s3 (s'.n + 4) m3) := HNX.out.2.cell 1; have e2 : w2.cell? ⟨a, 2, none⟩ = some (.int .i64 r') := (by rw [HR'.out]; exact HNX.out.2.cell 2); have ef := HNX.out.2.free; clear hown hgrow hxx hat)))
        go_wp2_with fail
        go_roundw
        case rel =>
          have Z := HNX.out.1
          rw [← HR'.out] at Z
          exact ⟨_, Z⟩
        case measure =>
          have Z := HNX.out.1
          obtain ⟨cl, hcl⟩ := Z.sd
          have hz := hcl.cells.2.2.1
          rw [← HR'.out] at hz
          rw [hz, HD2.out]
          show (16777216 - 256 * r').toNat < (16777216 - r').toNat
          omega
      · have hnm : Hid (Am.norm (Am.cut s p 1) = s') := by show _ = _; rw [← hN.out.eq, norm_id hlt]
        obtain ⟨d0, _, d2, d3⟩ := hV.cells
        have df := hV.core.blk.free
        obtain ⟨g', he, hg, hf, _, _⟩ := own_at hV.ps k HK9.out
        have hkk := HK8.out
        have hk0 := HK7.out
        obtain rfl : g = g' := by simpa using he
        have hgp : wr.cell? ⟨g, k, none⟩ = some (.int .i64 p) := by rw [hg]; simp [HPK.out]
        have hga : g ≠ a := fun e => hV.pa.1 (by rw [e]; rfl)
        have ha := fun W => adaptR_c p 1 W
        rw [adF_adp HPP.out (by decide)] at ha
        obtain ⟨Q, hQ⟩ : ∃ Q, Q = Am.adp p 1 := ⟨_, rfl⟩
        rw [← hQ] at ha
        have HQ := Lib.hid hQ
        have HV := Lib.hid hV
        clear hg he hQ hV
        go_upto_region 18 with fail
        clear d2
        have d3' : ∀ v, (wr.setCell ⟨g, k, none⟩ v).cell? ⟨a, 3, none⟩ = some (.bool bg) := fun v => cell_far _ d3 (fun e => hga e.symm)
        go_region_law (first | (go_simp; go_at_call 37; (with_reducible refine (ha _).mono ?_); rintro e wn ⟨rfl, rfl⟩; go_wp2_with fail) | fail)
        all_goals
          go_wp2_with fail
          go_ret
          have Y := HV.out.prob k Q
          have Y2 : VeC (wr.setCell ⟨g, k, none⟩ (.int .i64 Q)).drew B a _ _ _ _ _ _ ∧ Kp a (wr.setCell ⟨g, k, none⟩ (.int .i64 Q)) (wr.setCell ⟨g, k, none⟩ (.int .i64 Q)).drew := ⟨Y.1.below (drewN_below _ 1), Kp.of_below (drewN_below _ 1) Y.1.core.lt⟩
          have Y3 := Y2.1.setBg true
          refine ⟨rfl, ?_, ((hN.out.kp.trans Y.2).trans Y2.2).trans Y3.2⟩
          rw [hst.out, hnm.out, ← HQ.out]
          exact ⟨_, _, true, Y3.1, by have := HNE.out; rw [hnm.out] at this; simpa using this⟩
theorem venc_y (w : World) (B a : Nat) (x : Am.X) (c b : Int) (h : Ve w B a x) (hx : Am.OkX x) (hc : 0 ≤ c ∧ c < x.1.length ∧ (b = 0 ∨ b = 1)) (hl : x.1.length ≤ 64) (hn : x.2.n ≤ 1000000) :
    Calls Tryd.prog 14 #[.pointer (some ⟨a, 0, none⟩), .int .i64 c, .int .i64 b] w (VeGives B a (Am.step x (c, b)) 0 w) := by
  obtain ⟨P, s⟩ := x
  obtain ⟨k, rfl⟩ : ∃ k : Nat, c = k := ⟨c.toNat, by omega⟩
  have hk : k < P.length := by have := hc.2.1; simp only at this; omega
  rcases hc.2.2 with rfl | rfl
  · exact venc_0 w B a k P s _ h hx hk rfl hl hn
  · exact venc_1 w B a k P s _ h hx hk rfl hl hn
end Go.Proofs.YtdnfnekfcndnhaaDoor
