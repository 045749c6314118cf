/-
  Layer 11, the code's decoder: Decode, Reset.
-/
import Derived.Test.YtnmmgjbjnhiaoaaDoorQDb
set_option maxRecDepth 100000
namespace Go.Proofs.YtnmmgjbjnhiaoaaDoor
open Go.RowKit

/-- The decoder while the range is small. -/
structure Nd (w : World) (B a : Nat) (pv : Value) (P D : List Int) (s1 : Am.St) (N : Nat) (sv : Option Addr) (mv : Nat) (s : Am.St) (W : World) : Prop where
  dk : DkC W B a pv sv mv P (D.drop (s.n + 4)) (Am.num D (s.n + 4) - s.lo) s.rg
  kp : Kp a w W
  eq : Am.norm s = Am.norm s1
  rg : 65536 ≤ s.rg ∧ s.rg ≤ 4294967295
  val : Am.In s (Am.num D (s.n + 4))
  n : s.n ≤ N ∧ (s.rg < 16777216 → s.n < N)
theorem nd_next {w W W1 : World} {B a N mv mv2 : Nat} {pv : Value} {sv sv2 : Option Addr} {P D : List Int} {s1 s : Am.St} (hD : Am.bytes D) (h : Nd w B a pv P D s1 N sv mv s W) (hs : s.rg < 16777216)
    (hE : DkC W1 B a pv sv2 mv2 P ((D.drop (s.n + 4)).drop 1) (256 * (Am.num D (s.n + 4) - s.lo) + (D.drop (s.n + 4)).getD 0 0) s.rg) (hk : Kp a w W1) :
    Nd w B a pv P D s1 N sv2 mv2 ⟨256 * s.lo, 256 * s.rg, s.n + 1⟩ (W1.setCell ⟨a, 4, none⟩ (.int .u64 (s.rg * 256))) := by
  have V := hE.width (s.rg * 256)
  have hr := h.rg
  have e1 : 256 * (Am.num D (s.n + 4) - s.lo) + (D.drop (s.n + 4)).getD 0 0 = Am.num D (s.n + 1 + 4) - 256 * s.lo := by
    have e2 : Am.num D (s.n + 1 + 4) = 256 * Am.num D (s.n + 4) + D.getD (s.n + 4) 0 := by
      rw [show s.n + 1 + 4 = (s.n + 4) + 1 by omega]; rfl
    rw [drop_getD, e2]; omega
  refine ⟨?_, hk.trans V.2, ?_, ?_, ?_, ?_⟩
  · show DkC _ B a pv sv2 mv2 P (D.drop (s.n + 1 + 4)) (Am.num D (s.n + 1 + 4) - 256 * s.lo) (256 * s.rg)
    rw [← e1, Int.mul_comm 256 s.rg, show s.n + 1 + 4 = (s.n + 4) + 1 by omega, ← List.drop_drop]
    exact V.1
  · rw [norm_id (by simp only; omega), ← norm_eq hs]; exact h.eq
  · simp only; omega
  · have h2 := (Am.norm_in (s := s) hD).2 h.val
    rw [norm_eq hs] at h2
    exact h2
  · simp only
    have := h.n.2 hs
    omega
/-- After Decode. -/
def DsGives (B a : Nat) (x : Am.X) (D : List Int) (v : Int) (w : World) (e : Ending) (w' : World) : Prop := e = .returned (.tuple #[.int .i64 v, .int .i64 0]) ∧ Ds w' B a x D ∧ Kp a w w'
theorem dec_no (w : World) (B a : Nat) (x : Am.X) (D : List Int) (c : Int) (h : Ds w B a x D) (hr : x.2.rg ≠ 0) (hc : ¬ (0 ≤ c ∧ c < x.1.length)) :
    Calls Tryd.prog 127 #[.pointer (some ⟨a, 0, none⟩), .int .i64 c] w fun e w' => e = .returned (.tuple #[.int .i64 0, .int .i64 2]) ∧ w = w' := by
  obtain ⟨pv, sv, mv, h⟩ := h
  obtain ⟨c0, c1, c2, c3, c4⟩ := h.cells
  obtain ⟨s, m, rfl⟩ := own_slice h.ps
  have hh := has_c w a s x.1.length m c c0
  rw [show hasB x.1.length c = false by simp [hasB]; omega] at hh
  have hrb : (x.2.rg == 0) = false := by simpa using hr
  clear h hc hr
  generalize x.2.rg = r at *
  go_enter Tryd.func127, Tryd.ntmps127
  go_wp2_with (first | (go_at_call 80; refine (dmade_y _ _ c1).mono ?_; rintro e wn ⟨rfl, rfl⟩) | (go_at_call 128; (with_reducible refine hh.mono ?_); rintro e wn ⟨rfl, rfl⟩))
  go_ret2
  exact ⟨rfl, rfl⟩
set_option maxHeartbeats 4000000 in
theorem dec_0 (w : World) (B a k : Nat) (P : List Int) (s : Am.St) (D : List Int) (p : Int) (h : Ds w B a (P, s) D) (hx : Am.OkX (P, s)) (hin : Am.InX (P, s) D) (hD : Am.bytes D) (hDl : D.length ≤ 1000000) (hk : k < P.length) (hp : p = P[k]) (hl : P.length ≤ 64) (hcond : Am.num D (s.n + 4) - s.lo < Am.part s p) :
    Calls Tryd.prog 127 #[.pointer (some ⟨a, 0, none⟩), .int .i64 (k : Int)] w (DsGives B a (Am.step (P, s) ((k : Int), 0)) D 0 w) := by
  obtain ⟨pv, sv, mv, h⟩ := h
  obtain ⟨c0, c1, c2, c3, c4⟩ := h.cells
  obtain ⟨sp, m, rfl⟩ := own_slice h.ps
  obtain ⟨g, rfl, hg, fg, _, _⟩ := own_at h.ps k hk
  dsimp only at c0 c2 c3 c4 hg
  have hg2 : w.cell? ⟨g, k, none⟩ = some (.int .i64 p) := by rw [hg, hp]; simp [hk]
  have hpr : Am.pr (P, s) (k : Int) = p := by rw [hp]; simp [Am.pr, List.getD_eq_getElem?_getD, hk]
  have hpp : Am.prob p := by rw [hp]; exact hx.ps _ (List.getElem_mem hk)
  have hok : Am.Ok s := hx.st
  have pb := Am.part_bd hok hpp
  have cb := Am.cut_bd 0 hok hpp
  have hrg := hok.r2
  have hrg0 : 16777216 ≤ s.rg := hok.r1
  have hst : Hid (Am.step (P, s) ((k : Int), 0) = (P.set k (Am.adp p 0), Am.norm (Am.cut s p 0))) := by
    show _ = _
    unfold Am.step
    rw [hpr]; rfl
  have hh := has_c w a (some ⟨g, 0, none⟩) P.length m (k : Int) c0
  rw [show hasB P.length (k : Int) = true by simp [hasB]; omega] at hh
  have hz := zeros_c w.drew a g k P.length m p s.rg c0 hk hg2 hpp (by omega) hrg
  have hPe : s.rg / 4096 * p = Am.part s p := rfl
  rw [hPe] at hz
  have hIn : Am.In s (Am.num D (s.n + 4)) := hin
  have hdb : Hid (Am.dbit s p (Am.num D (s.n + 4)) = 0) := by show _ = _; unfold Am.dbit; rw [if_pos hcond]
  have HIN := Lib.hid hIn
  have HDB := hdb
  have HX := Lib.hid hx
  have HPP := Lib.hid hpp
  have HCB := Lib.hid cb
  have HD := Lib.hid hD
  have HPK : Hid (P[k]? = some p) := by show _ = _; rw [hp, List.getElem?_eq_getElem hk]
  have HKP : Hid (k < P.length ∧ P.length ≤ 64) := ⟨hk, hl⟩
  have c4d : w.drew.cell? ⟨a, 4, none⟩ = some (.int .u64 s.rg) := c4
  have f := h.core.blk.free
  have hvb : 0 ≤ Am.num D (s.n + 4) - s.lo ∧ Am.num D (s.n + 4) - s.lo < s.rg := by unfold Am.In at hIn; omega
  obtain ⟨V, hV⟩ : ∃ V, V = Am.num D (s.n + 4) - s.lo := ⟨_, rfl⟩
  dsimp only at h
  rw [← hV] at c3 hvb hcond h
  obtain ⟨Pt, hPt⟩ : ∃ Pt, Pt = Am.part s p := ⟨_, rfl⟩
  rw [← hPt] at hz pb hcond
  have H := Lib.hid h
  have HV := Lib.hid hV
  have HPt := Lib.hid hPt
  have HC : Hid (V < Pt) := hcond
  have hge : True := trivial
  clear hg hp hpr hpp hx hok hPe hV hPt cb hin hIn hD hcond h
  go_enter Tryd.func127, Tryd.ntmps127
  go_upto_region 6 with (first | (go_at_call 80; refine (dmade_y _ _ c1).mono ?_; rintro e wn ⟨rfl, rfl⟩) | (go_at_call 128; (with_reducible refine hh.mono ?_); rintro e wn ⟨rfl, rfl⟩))
  go_cut [7] (fun s7 wx => s7 = .int .u64 Pt ∧ wx = w.drew)
  case first =>
    go_region_held3 (fun w' => w'.cell? ⟨a, 4, none⟩ = some (.int .u64 s.rg))
      (first | (with_reducible exact c4d) | fail)
      (first | (go_at_call 129; (with_reducible refine hz.mono ?_); rintro e wn ⟨rfl, rfl⟩) | fail)
    all_goals
      go_wp2_with fail
      go_meet
      exact ⟨rfl, rfl⟩
  case rest =>
    obtain ⟨rfl, rfl⟩ := hcut
    have hcl : V < Pt := HC.out
    clear hge
    have T := H.out.drew
    have U := T.1.width Pt
    have hI : Hid (∃ s' sv' mv', Nd w B a (.slice (some ⟨g, 0, none⟩) P.length m) P D (Am.cut s p 0) (s.n + 1) sv' mv' s' (w.drew.setCell ⟨a, 4, none⟩ (.int .u64 Pt))) := by
      refine ⟨Am.cut s p 0, sv, mv, ?_, T.2.trans U.2, rfl, ⟨HCB.out.2.2.1, HCB.out.2.2.2.1⟩, ?_, ?_⟩
      · show DkC _ B a _ sv mv P (D.drop (s.n + 4)) (Am.num D (s.n + 4) - s.lo) (Am.part s p)
        rw [← HPt.out, ← HV.out]; exact U.1
      · have := Am.in_cut (p := p) HIN.out
        rw [HDB.out] at this; exact this
      · show s.n ≤ s.n + 1 ∧ (_ → s.n < s.n + 1); omega
    clear T U
    go_wp2_with fail
    clear hz hh c0 c1 c2 c3 c4 f c4d hg2 fg
    go_loopw [] (fun wr => ∃ s' sv' mv', Hid (Nd w B a (.slice (some ⟨g, 0, none⟩) P.length m) P D (Am.cut s p 0) (s.n + 1) sv' mv' s' wr)) (fun wr => match wr.cell? ⟨a, 4, none⟩ with | some (.int _ v) => (16777216 - v).toNat | _ => 0)
    case atStart => exact hI
    case round =>
      obtain ⟨s', sv', mv', hN⟩ := hrel
      obtain ⟨d0, d1, d2, d3, d4⟩ := hN.out.dk.cells
      have df := hN.out.dk.core.blk.free
      have hrb := hN.out.rg
      by_cases hlt : s'.rg < 16777216
      · have hv' := hN.out.val
        unfold Am.In at hv'
        have ht := take_c wr B a mv' _ sv' P (D.drop (s'.n + 4)) (Am.num D (s'.n + 4) - s'.lo) s'.rg hN.out.dk (by omega) (by omega) (fun x hx => HD.out x (List.mem_of_mem_drop hx)) (by simp; omega)
        have HLT := Lib.hid hlt
        have HD4 := Lib.hid d4
        obtain ⟨r', hr'⟩ : ∃ r', r' = s'.rg := ⟨_, rfl⟩
        rw [← hr'] at d4 hrb hlt
        have HR := Lib.hid hr'
        clear hr' hv'
        go_upto_region 14 with (first | (go_at_call 81; (with_reducible refine ht.mono ?_); rintro e W1 ⟨rfl, hE1, hK1⟩))
        obtain ⟨s1, m1, hE1⟩ := hE1
        obtain ⟨_, _, _, _, k4⟩ := hE1.cells
        have kf := hE1.core.blk.free
        rw [← HR.out] at k4
        have HE1 := Lib.hid hE1
        have HK1 := Lib.hid hK1
        clear hE1 hK1 d0 d1 d2 d3 d4 df ht
        go_wp2_with fail
        go_roundw
        case rel =>
          have X := nd_next HD.out hN.out HLT.out HE1.out (hN.out.kp.trans HK1.out)
          rw [← HR.out] at X
          exact ⟨_, _, _, X⟩
        case measure =>
          rw [World.cell?_setCell_same' _ _ _ (by rw [k4]; rfl), HD4.out, ← HR.out]
          show (16777216 - r' * 256).toNat < (16777216 - r').toNat
          omega
      · have hnm : Hid (Am.norm (Am.cut s p 0) = s') := by show _ = _; rw [← hN.out.eq, norm_id hlt]
        obtain ⟨g', he, hg, hf, _, _⟩ := own_at hN.out.dk.ps k HKP.out.1
        obtain rfl : g = g' := by simpa using he
        have hgp : wr.cell? ⟨g, k, none⟩ = some (.int .i64 p) := by rw [hg]; simp [HPK.out]
        have ha := madapt_c wr a g k P.length m p 0 d0 HKP.out.1 hgp hf HPP.out (by decide) HKP.out.2
        clear hg he hgp hf
        go_wp2_with (first | (go_at_call 130; (with_reducible refine ha.mono ?_); rintro e w5 ⟨rfl, rfl⟩))
        go_ret2
        have Y := (hN.out.dk.prob k (Am.adp p 0))
        have Y2 := Y.1.drew
        refine ⟨rfl, ?_, (hN.out.kp.trans Y.2).trans Y2.2⟩
        rw [hst.out, hnm.out]
        exact ⟨_, _, _, Y2.1⟩
set_option maxHeartbeats 4000000 in
theorem dec_1 (w : World) (B a k : Nat) (P : List Int) (s : Am.St) (D : List Int) (p : Int) (h : Ds w B a (P, s) D) (hx : Am.OkX (P, s)) (hin : Am.InX (P, s) D) (hD : Am.bytes D) (hDl : D.length ≤ 1000000) (hk : k < P.length) (hp : p = P[k]) (hl : P.length ≤ 64) (hcond : ¬ (Am.num D (s.n + 4) - s.lo < Am.part s p)) :
    Calls Tryd.prog 127 #[.pointer (some ⟨a, 0, none⟩), .int .i64 (k : Int)] w (DsGives B a (Am.step (P, s) ((k : Int), 1)) D 1 w) := by
  obtain ⟨pv, sv, mv, h⟩ := h
  obtain ⟨c0, c1, c2, c3, c4⟩ := h.cells
  obtain ⟨sp, m, rfl⟩ := own_slice h.ps
  obtain ⟨g, rfl, hg, fg, _, _⟩ := own_at h.ps k hk
  dsimp only at c0 c2 c3 c4 hg
  have hg2 : w.cell? ⟨g, k, none⟩ = some (.int .i64 p) := by rw [hg, hp]; simp [hk]
  have hpr : Am.pr (P, s) (k : Int) = p := by rw [hp]; simp [Am.pr, List.getD_eq_getElem?_getD, hk]
  have hpp : Am.prob p := by rw [hp]; exact hx.ps _ (List.getElem_mem hk)
  have hok : Am.Ok s := hx.st
  have pb := Am.part_bd hok hpp
  have cb := Am.cut_bd 1 hok hpp
  have hrg := hok.r2
  have hrg0 : 16777216 ≤ s.rg := hok.r1
  have hst : Hid (Am.step (P, s) ((k : Int), 1) = (P.set k (Am.adp p 1), Am.norm (Am.cut s p 1))) := by
    show _ = _
    unfold Am.step
    rw [hpr]; rfl
  have hh := has_c w a (some ⟨g, 0, none⟩) P.length m (k : Int) c0
  rw [show hasB P.length (k : Int) = true by simp [hasB]; omega] at hh
  have hz := zeros_c w.drew a g k P.length m p s.rg c0 hk hg2 hpp (by omega) hrg
  have hPe : s.rg / 4096 * p = Am.part s p := rfl
  rw [hPe] at hz
  have hIn : Am.In s (Am.num D (s.n + 4)) := hin
  have hdb : Hid (Am.dbit s p (Am.num D (s.n + 4)) = 1) := by show _ = _; unfold Am.dbit; rw [if_neg hcond]
  have HIN := Lib.hid hIn
  have HDB := hdb
  have HX := Lib.hid hx
  have HPP := Lib.hid hpp
  have HCB := Lib.hid cb
  have HD := Lib.hid hD
  have HPK : Hid (P[k]? = some p) := by show _ = _; rw [hp, List.getElem?_eq_getElem hk]
  have HKP : Hid (k < P.length ∧ P.length ≤ 64) := ⟨hk, hl⟩
  have c4d : w.drew.cell? ⟨a, 4, none⟩ = some (.int .u64 s.rg) := c4
  have f := h.core.blk.free
  have hvb : 0 ≤ Am.num D (s.n + 4) - s.lo ∧ Am.num D (s.n + 4) - s.lo < s.rg := by unfold Am.In at hIn; omega
  obtain ⟨V, hV⟩ : ∃ V, V = Am.num D (s.n + 4) - s.lo := ⟨_, rfl⟩
  dsimp only at h
  rw [← hV] at c3 hvb hcond h
  obtain ⟨Pt, hPt⟩ : ∃ Pt, Pt = Am.part s p := ⟨_, rfl⟩
  rw [← hPt] at hz pb hcond
  have H := Lib.hid h
  have HV := Lib.hid hV
  have HPt := Lib.hid hPt
  have HC : Hid (¬ V < Pt) := hcond
  have hge : True := trivial
  clear hg hp hpr hpp hx hok hPe hV hPt cb hin hIn hD hcond h
  go_enter Tryd.func127, Tryd.ntmps127
  go_upto_region 6 with (first | (go_at_call 80; refine (dmade_y _ _ c1).mono ?_; rintro e wn ⟨rfl, rfl⟩) | (go_at_call 128; (with_reducible refine hh.mono ?_); rintro e wn ⟨rfl, rfl⟩))
  go_cut [7] (fun s7 wx => s7 = .int .u64 Pt ∧ wx = w.drew)
  case first =>
    go_region_held3 (fun w' => w'.cell? ⟨a, 4, none⟩ = some (.int .u64 s.rg))
      (first | (with_reducible exact c4d) | fail)
      (first | (go_at_call 129; (with_reducible refine hz.mono ?_); rintro e wn ⟨rfl, rfl⟩) | fail)
    all_goals
      go_wp2_with fail
      go_meet
      exact ⟨rfl, rfl⟩
  case rest =>
    obtain ⟨rfl, rfl⟩ := hcut
    have hcl : Pt ≤ V := by have := HC.out; omega
    have T := H.out.drew
    have U1 := T.1.val (V - Pt)
    have U2 := U1.1.width (s.rg - Pt)
    have hI : Hid (∃ s' sv' mv', Nd w B a (.slice (some ⟨g, 0, none⟩) P.length m) P D (Am.cut s p 1) (s.n + 1) sv' mv' s' ((w.drew.setCell ⟨a, 3, none⟩ (.int .u64 (V - Pt))).setCell ⟨a, 4, none⟩ (.int .u64 (s.rg - Pt)))) := by
      refine ⟨Am.cut s p 1, sv, mv, ?_, (T.2.trans U1.2).trans U2.2, rfl, ⟨HCB.out.2.2.1, HCB.out.2.2.2.1⟩, ?_, ?_⟩
      · show DkC _ B a _ sv mv P (D.drop (s.n + 4)) (Am.num D (s.n + 4) - (s.lo + Am.part s p)) (s.rg - Am.part s p)
        rw [← HPt.out, show Am.num D (s.n + 4) - (s.lo + Pt) = V - Pt by have := HV.out; omega]; exact U2.1
      · have := Am.in_cut (p := p) HIN.out
        rw [HDB.out] at this; exact this
      · show s.n ≤ s.n + 1 ∧ (_ → s.n < s.n + 1); omega
    clear T U1 U2
    go_wp2_with fail
    clear hz hh c0 c1 c2 c3 c4 f c4d hg2 fg
    go_loopw [] (fun wr => ∃ s' sv' mv', Hid (Nd w B a (.slice (some ⟨g, 0, none⟩) P.length m) P D (Am.cut s p 1) (s.n + 1) sv' mv' s' wr)) (fun wr => match wr.cell? ⟨a, 4, none⟩ with | some (.int _ v) => (16777216 - v).toNat | _ => 0)
    case atStart => exact hI
    case round =>
      obtain ⟨s', sv', mv', hN⟩ := hrel
      obtain ⟨d0, d1, d2, d3, d4⟩ := hN.out.dk.cells
      have df := hN.out.dk.core.blk.free
      have hrb := hN.out.rg
      by_cases hlt : s'.rg < 16777216
      · have hv' := hN.out.val
        unfold Am.In at hv'
        have ht := take_c wr B a mv' _ sv' P (D.drop (s'.n + 4)) (Am.num D (s'.n + 4) - s'.lo) s'.rg hN.out.dk (by omega) (by omega) (fun x hx => HD.out x (List.mem_of_mem_drop hx)) (by simp; omega)
        have HLT := Lib.hid hlt
        have HD4 := Lib.hid d4
        obtain ⟨r', hr'⟩ : ∃ r', r' = s'.rg := ⟨_, rfl⟩
        rw [← hr'] at d4 hrb hlt
        have HR := Lib.hid hr'
        clear hr' hv'
        go_upto_region 14 with (first | (go_at_call 81; (with_reducible refine ht.mono ?_); rintro e W1 ⟨rfl, hE1, hK1⟩))
        obtain ⟨s1, m1, hE1⟩ := hE1
        obtain ⟨_, _, _, _, k4⟩ := hE1.cells
        have kf := hE1.core.blk.free
        rw [← HR.out] at k4
        have HE1 := Lib.hid hE1
        have HK1 := Lib.hid hK1
        clear hE1 hK1 d0 d1 d2 d3 d4 df ht
        go_wp2_with fail
        go_roundw
        case rel =>
          have X := nd_next HD.out hN.out HLT.out HE1.out (hN.out.kp.trans HK1.out)
          rw [← HR.out] at X
          exact ⟨_, _, _, X⟩
        case measure =>
          rw [World.cell?_setCell_same' _ _ _ (by rw [k4]; rfl), HD4.out, ← HR.out]
          show (16777216 - r' * 256).toNat < (16777216 - r').toNat
          omega
      · have hnm : Hid (Am.norm (Am.cut s p 1) = s') := by show _ = _; rw [← hN.out.eq, norm_id hlt]
        obtain ⟨g', he, hg, hf, _, _⟩ := own_at hN.out.dk.ps k HKP.out.1
        obtain rfl : g = g' := by simpa using he
        have hgp : wr.cell? ⟨g, k, none⟩ = some (.int .i64 p) := by rw [hg]; simp [HPK.out]
        have ha := madapt_c wr a g k P.length m p 1 d0 HKP.out.1 hgp hf HPP.out (by decide) HKP.out.2
        clear hg he hgp hf
        go_wp2_with (first | (go_at_call 130; (with_reducible refine ha.mono ?_); rintro e w5 ⟨rfl, rfl⟩))
        go_ret2
        have Y := (hN.out.dk.prob k (Am.adp p 1))
        have Y2 := Y.1.drew
        refine ⟨rfl, ?_, (hN.out.kp.trans Y.2).trans Y2.2⟩
        rw [hst.out, hnm.out]
        exact ⟨_, _, _, Y2.1⟩
/-- Decode in a codeword. -/
theorem dec_y (w : World) (B a : Nat) (x : Am.X) (D : List Int) (c : Int) (h : Ds w B a x D) (hx : Am.OkX x) (hin : Am.InX x D) (hD : Am.bytes D) (hDl : D.length ≤ 1000000) (hc : 0 ≤ c ∧ c < x.1.length) (hl : x.1.length ≤ 64) :
    Calls Tryd.prog 127 #[.pointer (some ⟨a, 0, none⟩), .int .i64 c] w (DsGives B a (Am.step x (c, Am.dnext x D c)) D (Am.dnext x D c) w) := by
  obtain ⟨P, s⟩ := x
  obtain ⟨k, rfl⟩ : ∃ k : Nat, c = k := ⟨c.toNat, by omega⟩
  have hk : k < P.length := by have := hc.2; simp only at this; omega
  have hpr : Am.pr (P, s) (k : Int) = P[k] := by simp [Am.pr, List.getD_eq_getElem?_getD, hk]
  have e : Am.dnext (P, s) D (k : Int) = Am.dbit s P[k] (Am.num D (s.n + 4)) := by unfold Am.dnext; rw [hpr]
  rw [e]
  by_cases hb : Am.num D (s.n + 4) - s.lo < Am.part s P[k]
  · rw [show Am.dbit s P[k] (Am.num D (s.n + 4)) = 0 by unfold Am.dbit; rw [if_pos hb]]
    exact dec_0 w B a k P s D _ h hx hin hD hDl hk rfl hl hb
  · rw [show Am.dbit s P[k] (Am.num D (s.n + 4)) = 1 by unfold Am.dbit; rw [if_neg hb]]
    exact dec_1 w B a k P s D _ h hx hin hD hDl hk rfl hl hb
end Go.Proofs.YtnmmgjbjnhiaoaaDoor
