/-
  Layer 11, the reference's decoder: Decode in a codeword.
-/
import Derived.Test.YtbaappodeicomaaDoorSd
set_option maxRecDepth 100000
namespace Go.Proofs.YtbaappodeicomaaDoor
open Go.RowKit

/-- The reference's decoder while the range is small. -/
structure Ns (w : World) (B a : Nat) (pv dv : Value) (P D : List Int) (s1 : Am.St) (N : Nat) (s : Am.St) (W : World) : Prop where
  sd : SdC W B a pv dv P D (s.n + 4) (Am.num (Am.fixd D) (s.n + 4) - s.lo) s.rg true
  kp : Kp a w W
  eq : Am.norm s = Am.norm s1
  rg : 65536 ≤ s.rg ∧ s.rg ≤ 4294967295
  val : Am.In s (Am.num (Am.fixd D) (s.n + 4))
  n : s.n ≤ N ∧ (s.rg < 16777216 → s.n < N)
theorem ns_next {w W W1 : World} {B a N : Nat} {pv dv : Value} {P D : List Int} {s1 s : Am.St} (hD : Am.bytes D) (h : Ns w B a pv dv P D s1 N s W) (hs : s.rg < 16777216)
    (hE : SdC W1 B a pv dv P D (s.n + 4 + 1) (Am.num (Am.fixd D) (s.n + 4) - s.lo) s.rg true) (hk : Kp a w W1) :
    Ns w B a pv dv P D s1 N ⟨256 * s.lo, 256 * s.rg, s.n + 1⟩ ((W1.setCell ⟨a, 3, none⟩ (.int .i64 (256 * (Am.num (Am.fixd D) (s.n + 4) - s.lo) + D.getD (s.n + 4) 0))).setCell ⟨a, 4, none⟩ (.int .i64 (256 * s.rg))) := by
  have V := hE.setVal (256 * (Am.num (Am.fixd D) (s.n + 4) - s.lo) + D.getD (s.n + 4) 0)
  have V2 := V.1.setRg (256 * s.rg)
  have hr := h.rg
  have e1 : 256 * (Am.num (Am.fixd D) (s.n + 4) - s.lo) + D.getD (s.n + 4) 0 = Am.num (Am.fixd D) (s.n + 1 + 4) - 256 * s.lo := by
    have e2 : Am.num (Am.fixd D) (s.n + 1 + 4) = 256 * Am.num (Am.fixd D) (s.n + 4) + (Am.fixd D).getD (s.n + 4) 0 := by
      rw [show s.n + 1 + 4 = (s.n + 4) + 1 by omega]; rfl
    rw [e2, Am.fixd_at (by omega)]; omega
  refine ⟨?_, (hk.trans V.2).trans V2.2, ?_, ?_, ?_, ?_⟩
  · show SdC _ B a pv dv P D (s.n + 1 + 4) (Am.num (Am.fixd D) (s.n + 1 + 4) - 256 * s.lo) (256 * s.rg) true
    rw [← e1, show s.n + 1 + 4 = s.n + 4 + 1 by omega]
    exact V2.1
  · rw [norm_id (by simp only; omega), ← norm_eq hs]; exact h.eq
  · simp only; omega
  · have h2 := (Am.norm_in (s := s) (Am.fixd_bytes hD)).2 h.val
    rw [norm_eq hs] at h2
    exact h2
  · simp only
    have := h.n.2 hs
    omega
/-- After Decode. -/
def SdsGives (B a : Nat) (x : Am.X) (D : List Int) (v : Int) (w : World) (e : Ending) (w' : World) : Prop := e = .returned (.tuple #[.int .i64 v, .int .i64 0]) ∧ Sds w' B a x D ∧ Kp a w w'
set_option maxHeartbeats 4000000 in
theorem sdec_0 (w : World) (B a k : Nat) (P : List Int) (s : Am.St) (D : List Int) (p : Int) (h : Sds w B a (P, s) D) (hx : Am.OkX (P, s)) (hin : Am.InX (P, s) (Am.fixd D)) (hD : Am.bytes D) (hk : k < P.length) (hp : p = P[k]) (hl : P.length ≤ 64) (hn : s.n ≤ 1000000) (hcond : Am.num (Am.fixd D) (s.n + 4) - s.lo < Am.part s p) :
    Calls Tryd.prog 39 #[.pointer (some ⟨a, 0, none⟩), .int .i64 (k : Int)] w (SdsGives B a (Am.step (P, s) ((k : Int), 0)) D 0 w) := by
  obtain ⟨pv, dv, h⟩ := h
  obtain ⟨c0, c1, c2, c3, c4, c5⟩ := h.cells
  obtain ⟨sp, m, rfl⟩ := own_slice h.ps
  obtain ⟨g, rfl, hg, fg, _, _⟩ := own_at h.ps k hk
  dsimp only at c0 c2 c3 c4 hg
  have hg2 : w.cell? ⟨g, k, none⟩ = some (.int .i64 p) := by rw [hg, hp]; simp [hk]
  have hpr : Am.pr (P, s) (k : Int) = p := by rw [hp]; simp [Am.pr, List.getD_eq_getElem?_getD, hk]
  have hpp : Am.prob p := by rw [hp]; exact hx.ps _ (List.getElem_mem hk)
  have hok : Am.Ok s := hx.st
  have pb := Am.part_bd hok hpp
  have cb := Am.cut_bd 0 hok hpp
  have hrg := hok.r2
  have hrg0 : 16777216 ≤ s.rg := hok.r1
  have hst : Hid (Am.step (P, s) ((k : Int), 0) = (P.set k (Am.adp p 0), Am.norm (Am.cut s p 0))) := by
    show _ = _
    unfold Am.step
    rw [hpr]; rfl
  have hIn : Am.In s (Am.num (Am.fixd D) (s.n + 4)) := hin
  have hdb : Hid (Am.dbit s p (Am.num (Am.fixd D) (s.n + 4)) = 0) := by show _ = _; unfold Am.dbit; rw [if_pos hcond]
  have HIN := Lib.hid hIn
  have HDB := hdb
  have HPP := Lib.hid hpp
  have HCB := Lib.hid cb
  have HD := Lib.hid hD
  have HPK : Hid (P[k]? = some p) := by show _ = _; rw [hp, List.getElem?_eq_getElem hk]
  have hvb : 0 ≤ Am.num (Am.fixd D) (s.n + 4) - s.lo ∧ Am.num (Am.fixd D) (s.n + 4) - s.lo < s.rg := by unfold Am.In at hIn; omega
  obtain ⟨V, hV⟩ : ∃ V, V = Am.num (Am.fixd D) (s.n + 4) - s.lo := ⟨_, rfl⟩
  dsimp only at h
  rw [← hV] at c3 hvb hcond h
  obtain ⟨Pt, hPt⟩ : ∃ Pt, Pt = Am.part s p := ⟨_, rfl⟩
  have hPm : s.rg / 4096 * p = Pt := by rw [hPt]; rfl
  rw [← hPt] at pb hcond
  have hwP : wrap64 Pt = Pt := by unfold wrap64; omega
  have hwP2 : IntKind.i64.wrap Pt = Pt := IntWalk.i64_in _ (by omega)
  have H := Lib.hid h
  have HV := Lib.hid hV
  have HPt := Lib.hid hPt
  have HC : Hid (V < Pt) := hcond
  have hpn := fun W => ptrSn W ⟨a, 0, none⟩
  have hkk : (k : Int) < (P.length : Int) := by omega
  have hk0 : (0 : Int) ≤ (k : Int) := by omega
  have e6 : IntKind.i64.wrap (k : Int) = (k : Int) := IntWalk.i64_in _ (by omega)
  obtain ⟨r0, hr0⟩ : ∃ r0, r0 = s.rg := ⟨_, rfl⟩
  rw [← hr0] at c4 hPm hvb hrg hrg0
  have HR0 := Lib.hid hr0
  clear hg hp hpr hpp hx hok hPt hV cb hin hIn hD hcond h hr0
  go_enter Tryd.func39, Tryd.ntmps39
  go_wp2_with fail
  go_quiet (fail)
  have T := H.out.drewN nq
  obtain ⟨k0, k1, k2, k3, k4, k5⟩ := T.1.cells
  have kf := T.1.core.blk.free
  rw [← HR0.out] at k4
  have hcl : V < Pt := by have := HC.out; omega
  have U := T.1.setRg Pt
  have hI : Hid (∃ s', Ns w B a (.slice (some ⟨g, 0, none⟩) P.length m) dv P D (Am.cut s p 0) (s.n + 1) s' ((w.drewN nq).setCell ⟨a, 4, none⟩ (.int .i64 Pt))) := by
    refine ⟨Am.cut s p 0, ?_, T.2.trans U.2, rfl, ⟨HCB.out.2.2.1, HCB.out.2.2.2.1⟩, ?_, ?_⟩
    · show SdC _ B a _ dv P D (s.n + 4) (Am.num (Am.fixd D) (s.n + 4) - s.lo) (Am.part s p) true
      rw [← HPt.out, ← HV.out]; exact U.1
    · have := Am.in_cut (p := p) HIN.out
      rw [HDB.out] at this; exact this
    · show s.n ≤ s.n + 1 ∧ (_ → s.n < s.n + 1); omega
  try rw [← HR0.out] at hI
  obtain ⟨W1, hW1⟩ : ∃ W1, W1 = w.drewN nq := ⟨_, rfl⟩
  rw [← hW1] at hI k0 k1 k2 k3 k4 k5 kf ⊢
  clear hW1 T c0 c1 c2 c3 c4 c5 hg2 fg
  rename (0 : Int) ≤ (k : Int) ∧ ¬ P.length ≤ k => hq9
  have HK9 := Lib.hid hk
  have HK8 := Lib.hid hkk
  have HK7 := Lib.hid hk0
  clear hq9 hk hkk hk0
  go_wp2_with fail
  clear k0 k1 k2 k3 k4 k5 kf
  go_loopw [] (fun wr => ∃ s', Hid (Ns w B a (.slice (some ⟨g, 0, none⟩) P.length m) dv P D (Am.cut s p 0) (s.n + 1) s' wr)) (fun wr => match wr.cell? ⟨a, 4, none⟩ with | some (.int _ v) => (16777216 - v).toNat | _ => 0)
  case atStart => exact hI
  case round =>
    obtain ⟨s', hN⟩ := hrel
    have hrb := hN.out.rg
    by_cases hlt : s'.rg < 16777216
    · obtain ⟨_, _, _, _, d4, _⟩ := hN.out.sd.cells
      have hv' := hN.out.val
      unfold Am.In at hv'
      have hnn := hN.out.n.2 hlt
      have D1 := hN.out.sd.drewN 1
      have hnx := snext_c wr.drew B a (s'.n + 4) _ dv P D _ s'.rg true D1.1 HD.out (by omega)
      have HNX := Lib.hid (fun (x1 : World) hE hk => ns_next (W1 := x1) HD.out hN.out hlt hE hk)
      have hxb := Am.bytes_getD HD.out (s'.n + 4)
      unfold Am.byte at hxb
      obtain ⟨x, hx⟩ : ∃ x, x = D.getD (s'.n + 4) 0 := ⟨_, rfl⟩
      obtain ⟨U, hU⟩ : ∃ U, U = Am.num (Am.fixd D) (s'.n + 4) - s'.lo := ⟨_, rfl⟩
      have hub : 0 ≤ U ∧ U < 16777216 := by omega
      rw [← hx] at hnx hxb HNX
      rw [← hU] at hnx HNX D1
      obtain ⟨_, _, _, e3, e4, _⟩ := D1.1.cells
      have e3 : wr.drew.cell? ⟨a, 3, none⟩ = some (.int .i64 U) := e3
      have HKD : Hid (Kp a w wr.drew) := hN.out.kp.trans D1.2
      have hw1 : wrap64 (256 * U) = 256 * U := by unfold wrap64; omega
      have hw2 : wrap64 (256 * U + x) = 256 * U + x := by unfold wrap64; omega
      have hw3 : IntKind.i64.wrap (256 * U) = 256 * U := IntWalk.i64_in _ (by omega)
      have hw4 : IntKind.i64.wrap (256 * U + x) = 256 * U + x := IntWalk.i64_in _ (by omega)
      obtain ⟨r', hr'⟩ : ∃ r', r' = s'.rg := ⟨_, rfl⟩
      rw [← hr'] at hnx HNX d4 hrb hlt
      have hw5 : wrap64 (256 * r') = 256 * r' := by unfold wrap64; omega
      have HD4 := Lib.hid d4
      clear hx hU D1 hv' hub hnn hr' e4
      go_upto_region 13 with fail
      go_cut [] from 69 to 92 (fun wx => ∃ x1 : World, wx = x1.setCell ⟨a, 3, none⟩ (.int .i64 (256 * U + x)) ∧ Hid (SdC x1 B a (.slice (some ⟨g, 0, none⟩) P.length m) dv P D (s'.n + 4 + 1) U r' true ∧ Kp a w x1))
      case first =>
        go_region_law (first | (go_simp; go_at_call 78; (with_reducible refine hnx.mono ?_); rintro e x1 ⟨rfl, hS1, hK1⟩; have g3 := hS1.cells.2.2.2.1; have gf := hS1.core.blk.free; have HS1 := Lib.hid hS1; have HK1 := Lib.hid hK1; clear hS1 hK1; go_wp2_with fail) | fail)
        all_goals
          go_wp2_with fail
          go_meet
          exact ⟨x1, rfl, HS1.out, HKD.out.trans HK1.out⟩
      case rest =>
        obtain ⟨x1, rfl, hX⟩ := hcut
        have Y := hX.out.1.setVal (256 * U + x)
        obtain ⟨_, _, _, _, m4, _⟩ := Y.1.cells
        have mf := Y.1.core.blk.free
        have Z := HNX.out x1 hX.out.1 hX.out.2
        have HZ := Lib.hid Z
        clear Y Z hnx hX d4 e3
        go_wp2_with fail
        go_roundw
        case rel => exact ⟨_, HZ.out⟩
        case measure =>
          rw [World.cell?_setCell_same' _ _ _ (by rw [m4]; rfl), HD4.out]
          show (16777216 - 256 * r').toNat < (16777216 - r').toNat
          omega
    · have hnm : Hid (Am.norm (Am.cut s p 0) = s') := by show _ = _; rw [← hN.out.eq, norm_id hlt]
      obtain ⟨d0, _, _, _, d4, _⟩ := hN.out.sd.cells
      obtain ⟨g', he, hg, hf, _, _⟩ := own_at hN.out.sd.ps k HK9.out
      have hkk := HK8.out
      have hk0 := HK7.out
      obtain rfl : g = g' := by simpa using he
      have hgp : wr.cell? ⟨g, k, none⟩ = some (.int .i64 p) := by rw [hg]; simp [HPK.out]
      have D1 := hN.out.sd.drewN 1
      have ha := fun W => adaptR_c p 0 W
      rw [adF_adp HPP.out (by decide)] at ha
      obtain ⟨Q, hQ⟩ : ∃ Q, Q = Am.adp p 0 := ⟨_, rfl⟩
      rw [← hQ] at ha
      have HQ := Lib.hid hQ
      clear hg he hQ D1
      go_upto_region 15 with fail
      clear d4
      go_region_law (first | (go_simp; go_at_call 16; (with_reducible refine (ha _).mono ?_); rintro e wn ⟨rfl, rfl⟩; go_wp2_with fail) | fail)
      all_goals
        go_wp2_with fail
        go_ret2
        have Y := (hN.out.sd.prob k Q)
        have Y2 := Y.1.drewN 1
        refine ⟨rfl, ?_, (hN.out.kp.trans Y.2).trans Y2.2⟩
        rw [hst.out, hnm.out, ← HQ.out]
        exact ⟨_, _, Y2.1⟩
set_option maxHeartbeats 4000000 in
theorem sdec_1 (w : World) (B a k : Nat) (P : List Int) (s : Am.St) (D : List Int) (p : Int) (h : Sds w B a (P, s) D) (hx : Am.OkX (P, s)) (hin : Am.InX (P, s) (Am.fixd D)) (hD : Am.bytes D) (hk : k < P.length) (hp : p = P[k]) (hl : P.length ≤ 64) (hn : s.n ≤ 1000000) (hcond : ¬ (Am.num (Am.fixd D) (s.n + 4) - s.lo < Am.part s p)) :
    Calls Tryd.prog 39 #[.pointer (some ⟨a, 0, none⟩), .int .i64 (k : Int)] w (SdsGives B a (Am.step (P, s) ((k : Int), 1)) D 1 w) := by
  obtain ⟨pv, dv, h⟩ := h
  obtain ⟨c0, c1, c2, c3, c4, c5⟩ := h.cells
  obtain ⟨sp, m, rfl⟩ := own_slice h.ps
  obtain ⟨g, rfl, hg, fg, _, _⟩ := own_at h.ps k hk
  dsimp only at c0 c2 c3 c4 hg
  have hg2 : w.cell? ⟨g, k, none⟩ = some (.int .i64 p) := by rw [hg, hp]; simp [hk]
  have hpr : Am.pr (P, s) (k : Int) = p := by rw [hp]; simp [Am.pr, List.getD_eq_getElem?_getD, hk]
  have hpp : Am.prob p := by rw [hp]; exact hx.ps _ (List.getElem_mem hk)
  have hok : Am.Ok s := hx.st
  have pb := Am.part_bd hok hpp
  have cb := Am.cut_bd 1 hok hpp
  have hrg := hok.r2
  have hrg0 : 16777216 ≤ s.rg := hok.r1
  have hst : Hid (Am.step (P, s) ((k : Int), 1) = (P.set k (Am.adp p 1), Am.norm (Am.cut s p 1))) := by
    show _ = _
    unfold Am.step
    rw [hpr]; rfl
  have hIn : Am.In s (Am.num (Am.fixd D) (s.n + 4)) := hin
  have hdb : Hid (Am.dbit s p (Am.num (Am.fixd D) (s.n + 4)) = 1) := by show _ = _; unfold Am.dbit; rw [if_neg hcond]
  have HIN := Lib.hid hIn
  have HDB := hdb
  have HPP := Lib.hid hpp
  have HCB := Lib.hid cb
  have HD := Lib.hid hD
  have HPK : Hid (P[k]? = some p) := by show _ = _; rw [hp, List.getElem?_eq_getElem hk]
  have hvb : 0 ≤ Am.num (Am.fixd D) (s.n + 4) - s.lo ∧ Am.num (Am.fixd D) (s.n + 4) - s.lo < s.rg := by unfold Am.In at hIn; omega
  obtain ⟨V, hV⟩ : ∃ V, V = Am.num (Am.fixd D) (s.n + 4) - s.lo := ⟨_, rfl⟩
  dsimp only at h
  rw [← hV] at c3 hvb hcond h
  obtain ⟨Pt, hPt⟩ : ∃ Pt, Pt = Am.part s p := ⟨_, rfl⟩
  have hPm : s.rg / 4096 * p = Pt := by rw [hPt]; rfl
  rw [← hPt] at pb hcond
  have hwP : wrap64 Pt = Pt := by unfold wrap64; omega
  have hwP2 : IntKind.i64.wrap Pt = Pt := IntWalk.i64_in _ (by omega)
  have H := Lib.hid h
  have HV := Lib.hid hV
  have HPt := Lib.hid hPt
  have HC : Hid (¬ V < Pt) := hcond
  have hpn := fun W => ptrSn W ⟨a, 0, none⟩
  have hkk : (k : Int) < (P.length : Int) := by omega
  have hk0 : (0 : Int) ≤ (k : Int) := by omega
  have e6 : IntKind.i64.wrap (k : Int) = (k : Int) := IntWalk.i64_in _ (by omega)
  obtain ⟨r0, hr0⟩ : ∃ r0, r0 = s.rg := ⟨_, rfl⟩
  rw [← hr0] at c4 hPm hvb hrg hrg0
  have HR0 := Lib.hid hr0
  clear hg hp hpr hpp hx hok hPt hV cb hin hIn hD hcond h hr0
  go_enter Tryd.func39, Tryd.ntmps39
  go_wp2_with fail
  go_quiet (fail)
  have T := H.out.drewN nq
  obtain ⟨k0, k1, k2, k3, k4, k5⟩ := T.1.cells
  have kf := T.1.core.blk.free
  rw [← HR0.out] at k4
  have hcl : Pt ≤ V := by have := HC.out; omega
  have U1 := T.1.setVal (V - Pt)
  have U2 := U1.1.setRg (s.rg - Pt)
  have hI : Hid (∃ s', Ns w B a (.slice (some ⟨g, 0, none⟩) P.length m) dv P D (Am.cut s p 1) (s.n + 1) s' (((w.drewN nq).setCell ⟨a, 3, none⟩ (.int .i64 (V - Pt))).setCell ⟨a, 4, none⟩ (.int .i64 (s.rg - Pt)))) := by
    refine ⟨Am.cut s p 1, ?_, (T.2.trans U1.2).trans U2.2, rfl, ⟨HCB.out.2.2.1, HCB.out.2.2.2.1⟩, ?_, ?_⟩
    · show SdC _ B a _ dv P D (s.n + 4) (Am.num (Am.fixd D) (s.n + 4) - (s.lo + Am.part s p)) (s.rg - Am.part s p) true
      rw [← HPt.out, show Am.num (Am.fixd D) (s.n + 4) - (s.lo + Pt) = V - Pt by have := HV.out; omega]; exact U2.1
    · have := Am.in_cut (p := p) HIN.out
      rw [HDB.out] at this; exact this
    · show s.n ≤ s.n + 1 ∧ (_ → s.n < s.n + 1); omega
  try rw [← HR0.out] at hI
  obtain ⟨W1, hW1⟩ : ∃ W1, W1 = w.drewN nq := ⟨_, rfl⟩
  rw [← hW1] at hI k0 k1 k2 k3 k4 k5 kf ⊢
  clear hW1 T c0 c1 c2 c3 c4 c5 hg2 fg
  rename (0 : Int) ≤ (k : Int) ∧ ¬ P.length ≤ k => hq9
  have HK9 := Lib.hid hk
  have HK8 := Lib.hid hkk
  have HK7 := Lib.hid hk0
  clear hq9 hk hkk hk0
  go_wp2_with fail
  clear k0 k1 k2 k3 k4 k5 kf
  go_loopw [] (fun wr => ∃ s', Hid (Ns w B a (.slice (some ⟨g, 0, none⟩) P.length m) dv P D (Am.cut s p 1) (s.n + 1) s' wr)) (fun wr => match wr.cell? ⟨a, 4, none⟩ with | some (.int _ v) => (16777216 - v).toNat | _ => 0)
  case atStart => exact hI
  case round =>
    obtain ⟨s', hN⟩ := hrel
    have hrb := hN.out.rg
    by_cases hlt : s'.rg < 16777216
    · obtain ⟨_, _, _, _, d4, _⟩ := hN.out.sd.cells
      have hv' := hN.out.val
      unfold Am.In at hv'
      have hnn := hN.out.n.2 hlt
      have D1 := hN.out.sd.drewN 1
      have hnx := snext_c wr.drew B a (s'.n + 4) _ dv P D _ s'.rg true D1.1 HD.out (by omega)
      have HNX := Lib.hid (fun (x1 : World) hE hk => ns_next (W1 := x1) HD.out hN.out hlt hE hk)
      have hxb := Am.bytes_getD HD.out (s'.n + 4)
      unfold Am.byte at hxb
      obtain ⟨x, hx⟩ : ∃ x, x = D.getD (s'.n + 4) 0 := ⟨_, rfl⟩
      obtain ⟨U, hU⟩ : ∃ U, U = Am.num (Am.fixd D) (s'.n + 4) - s'.lo := ⟨_, rfl⟩
      have hub : 0 ≤ U ∧ U < 16777216 := by omega
      rw [← hx] at hnx hxb HNX
      rw [← hU] at hnx HNX D1
      obtain ⟨_, _, _, e3, e4, _⟩ := D1.1.cells
      have e3 : wr.drew.cell? ⟨a, 3, none⟩ = some (.int .i64 U) := e3
      have HKD : Hid (Kp a w wr.drew) := hN.out.kp.trans D1.2
      have hw1 : wrap64 (256 * U) = 256 * U := by unfold wrap64; omega
      have hw2 : wrap64 (256 * U + x) = 256 * U + x := by unfold wrap64; omega
      have hw3 : IntKind.i64.wrap (256 * U) = 256 * U := IntWalk.i64_in _ (by omega)
      have hw4 : IntKind.i64.wrap (256 * U + x) = 256 * U + x := IntWalk.i64_in _ (by omega)
      obtain ⟨r', hr'⟩ : ∃ r', r' = s'.rg := ⟨_, rfl⟩
      rw [← hr'] at hnx HNX d4 hrb hlt
      have hw5 : wrap64 (256 * r') = 256 * r' := by unfold wrap64; omega
      have HD4 := Lib.hid d4
      clear hx hU D1 hv' hub hnn hr' e4
      go_upto_region 13 with fail
      go_cut [] from 69 to 92 (fun wx => ∃ x1 : World, wx = x1.setCell ⟨a, 3, none⟩ (.int .i64 (256 * U + x)) ∧ Hid (SdC x1 B a (.slice (some ⟨g, 0, none⟩) P.length m) dv P D (s'.n + 4 + 1) U r' true ∧ Kp a w x1))
      case first =>
        go_region_law (first | (go_simp; go_at_call 78; (with_reducible refine hnx.mono ?_); rintro e x1 ⟨rfl, hS1, hK1⟩; have g3 := hS1.cells.2.2.2.1; have gf := hS1.core.blk.free; have HS1 := Lib.hid hS1; have HK1 := Lib.hid hK1; clear hS1 hK1; go_wp2_with fail) | fail)
        all_goals
          go_wp2_with fail
          go_meet
          exact ⟨x1, rfl, HS1.out, HKD.out.trans HK1.out⟩
      case rest =>
        obtain ⟨x1, rfl, hX⟩ := hcut
        have Y := hX.out.1.setVal (256 * U + x)
        obtain ⟨_, _, _, _, m4, _⟩ := Y.1.cells
        have mf := Y.1.core.blk.free
        have Z := HNX.out x1 hX.out.1 hX.out.2
        have HZ := Lib.hid Z
        clear Y Z hnx hX d4 e3
        go_wp2_with fail
        go_roundw
        case rel => exact ⟨_, HZ.out⟩
        case measure =>
          rw [World.cell?_setCell_same' _ _ _ (by rw [m4]; rfl), HD4.out]
          show (16777216 - 256 * r').toNat < (16777216 - r').toNat
          omega
    · have hnm : Hid (Am.norm (Am.cut s p 1) = s') := by show _ = _; rw [← hN.out.eq, norm_id hlt]
      obtain ⟨d0, _, _, _, d4, _⟩ := hN.out.sd.cells
      obtain ⟨g', he, hg, hf, _, _⟩ := own_at hN.out.sd.ps k HK9.out
      have hkk := HK8.out
      have hk0 := HK7.out
      obtain rfl : g = g' := by simpa using he
      have hgp : wr.cell? ⟨g, k, none⟩ = some (.int .i64 p) := by rw [hg]; simp [HPK.out]
      have D1 := hN.out.sd.drewN 1
      have ha := fun W => adaptR_c p 1 W
      rw [adF_adp HPP.out (by decide)] at ha
      obtain ⟨Q, hQ⟩ : ∃ Q, Q = Am.adp p 1 := ⟨_, rfl⟩
      rw [← hQ] at ha
      have HQ := Lib.hid hQ
      clear hg he hQ D1
      go_upto_region 15 with fail
      clear d4
      go_region_law (first | (go_simp; go_at_call 16; (with_reducible refine (ha _).mono ?_); rintro e wn ⟨rfl, rfl⟩; go_wp2_with fail) | fail)
      all_goals
        go_wp2_with fail
        go_ret2
        have Y := (hN.out.sd.prob k Q)
        have Y2 := Y.1.drewN 1
        refine ⟨rfl, ?_, (hN.out.kp.trans Y.2).trans Y2.2⟩
        rw [hst.out, hnm.out, ← HQ.out]
        exact ⟨_, _, Y2.1⟩
end Go.Proofs.YtbaappodeicomaaDoor
