/-
  For every two slices of bytes, every segment and all numbers the statement MarkerReturns returns true; all read afterwards as before.
  Conditions: none beyond those of the given statement.
-/
import Derived.Test.YtagfmmkhgggfmaaMy
import Derived.Test.YtagfmmkhgggfmaaMz
set_option maxRecDepth 100000
namespace Go.Proofs.Ytagfmmkhgggfmaa.markerReturns
open Go.ChangeShapes Go.WideShapes Go.ChangeAt Go.RowKit Go.Joins Go.Deep

set_option maxRecDepth 100000 in
set_option maxHeartbeats 2000000 in
theorem guard1 (bs : List Int) (s : Option Addr) (m : Nat) (c : Int) (p : List Int) (sp : Option Addr) (mp : Nat) (af : List Int) (sa : Option Addr) (ma : Nat) (v n : Int) (w : World) (h : 1000 < bs.length ∨ 70000 < p.length ∨ 100 < af.length) :
    Calls Try.prog 7 #[.slice s bs.length m, .agg #[.int .i64 c, .slice sp p.length mp], .slice sa af.length ma, .int .i64 v, .int .i64 n] w fun e w' => e = .returned (.bool true) ∧ Below w.heap.size w w' := by
  obtain ⟨W0, hW0⟩ : ∃ W0, W0 = w.alloc (.cells #[.int .i64 c, .slice sp p.length mp] 26) := ⟨_, rfl⟩
  have HB := Lib.hid (show Below w.heap.size w W0 by rw [hW0]; exact (Below.refl _ _).alloc (Nat.le_refl _) _)
  have HK := Lib.hid (show Blk W0 w.heap.size 26 #[.int .i64 c, .slice sp p.length mp] by rw [hW0]; exact Blk.new _ _ _)
  have HW0 := Lib.hid hW0
  clear hW0
  obtain ⟨k0, k1⟩ := HK.out.two
  by_cases h1 : 1000 < bs.length
  · have d1 : decide ((1000 : Int) < bs.length) = true := decide_eq_true (by omega)
    have d1' : decide (1000 < bs.length) = true := decide_eq_true (by omega)
    clear h
    go_enter Try.func7, Try.ntmps7
    go_upto_region 1 with fail
    rw [← HW0.out]
    go_wp2_with (first | (go_at_call 14; (with_reducible refine (ex28_c _).mono ?_); rintro e wx ⟨rfl, hbx⟩; have HBX := Lib.hid (HB.out.trans (hbx.mono HB.out.size)); clear hbx) | fail)
    go_ret
    exact ⟨rfl, HBX.out⟩
  · have d1 : decide ((1000 : Int) < bs.length) = false := decide_eq_false (by omega)
    have d1' : decide (1000 < bs.length) = false := decide_eq_false (by omega)
    by_cases h2 : 70000 < p.length
    · have d2 : decide ((70000 : Int) < p.length) = true := decide_eq_true (by omega)
      have d2' : decide (70000 < p.length) = true := decide_eq_true (by omega)
      clear h
      go_enter Try.func7, Try.ntmps7
      go_upto_region 1 with fail
      rw [← HW0.out]
      go_wp2_with (first | (go_at_call 14; (with_reducible refine (ex28_c _).mono ?_); rintro e wx ⟨rfl, hbx⟩; have HBX := Lib.hid (HB.out.trans (hbx.mono HB.out.size)); clear hbx) | fail)
      go_ret
      exact ⟨rfl, HBX.out⟩
    · have d2 : decide ((70000 : Int) < p.length) = false := decide_eq_false (by omega)
      have d2' : decide (70000 < p.length) = false := decide_eq_false (by omega)
      have d3 : decide ((100 : Int) < af.length) = true := decide_eq_true (by omega)
      have d3' : decide (100 < af.length) = true := decide_eq_true (by omega)
      clear h
      go_enter Try.func7, Try.ntmps7
      go_upto_region 1 with fail
      rw [← HW0.out]
      go_wp2_with (first | (go_at_call 14; (with_reducible refine (ex28_c _).mono ?_); rintro e wx ⟨rfl, hbx⟩; have HBX := Lib.hid (HB.out.trans (hbx.mono HB.out.size)); clear hbx) | fail)
      go_ret
      exact ⟨rfl, HBX.out⟩
set_option maxRecDepth 100000 in
set_option maxHeartbeats 2000000 in
theorem walk (bs : List Int) (s : Option Addr) (m : Nat) (c : Int) (p : List Int) (sp : Option Addr) (mp : Nat) (af : List Int) (sa : Option Addr) (ma : Nat) (v n : Int) (w : World) (hH : HoldsB w s bs) (hs : s = none → bs = [] ∧ m = 0) (hB : Mk.bytes bs) (hP : HoldsB w sp p) (hsp : sp = none → p = [] ∧ mp = 0) (hBp : Mk.bytes p) (hA : HoldsB w sa af) (hsa : sa = none → af = [] ∧ ma = 0) (hBa : Mk.bytes af) :
    Calls Try.prog 7 #[.slice s bs.length m, .agg #[.int .i64 c, .slice sp p.length mp], .slice sa af.length ma, .int .i64 v, .int .i64 n] w fun e w' => e = .returned (.bool true) ∧ Below w.heap.size w w' := by
  by_cases hg : 1000 < bs.length ∨ 70000 < p.length ∨ 100 < af.length
  · exact guard1 bs s m c p sp mp af sa ma v n w hg
  have hg1 : bs.length ≤ 1000 := by omega
  have hg2 : p.length ≤ 70000 := by omega
  have hg3 : af.length ≤ 100 := by omega
  obtain ⟨W0, hW0⟩ : ∃ W0, W0 = w.alloc (.cells #[.int .i64 c, .slice sp p.length mp] 26) := ⟨_, rfl⟩
  have HB := Lib.hid (show Below w.heap.size w W0 by rw [hW0]; exact (Below.refl _ _).alloc (Nat.le_refl _) _)
  have HK := Lib.hid (show Blk W0 w.heap.size 26 #[.int .i64 c, .slice sp p.length mp] by rw [hW0]; exact Blk.new _ _ _)
  have HW0 := Lib.hid hW0
  clear hW0
  have HH := Lib.hid (hH.call HB.out)
  have HP := Lib.hid (hP.call HB.out)
  have HA := Lib.hid (hA.call HB.out)
  have HNA := Lib.hid hsa
  have HAL := Lib.hid hg3
  obtain ⟨k0, k1⟩ := HK.out.two
  have KA := append_c bs s m c p sp mp W0 HH.out hs (by omega) HP.out hsp (by omega)
  have KU := Lib.hid (fun (W : World) (h : HoldsB W s bs) => uint_c bs s m v n W h hs (by omega))
  have HXL := Lib.hid (show (Mk.ap bs c p).length ≤ 100000 by
    unfold Mk.ap Mk.seg
    split
    · split <;> simp [Mk.dg_len] <;> omega
    · simp)
  have HYL := Lib.hid (show (Mk.un bs v n).length ≤ 100000 by
    unfold Mk.un
    split
    · rename_i h
      rcases un_cases v n with ⟨_, e⟩ | ⟨_, _, e⟩ | ⟨_, _, _, e⟩ | ⟨h0, _, _, e⟩
      · omega
      · omega
      · omega
      · have := isN_bd h0
        rw [List.length_append, Mk.dg_len]; omega
    · simp)
  have HBX0 : Mk.bytes (Mk.ap bs c p) := by
    unfold Mk.ap
    split
    · refine Mk.bytes_app hB ?_
      unfold Mk.seg
      split
      · exact Mk.dg_bytes _ _
      · exact Mk.bytes_app (Mk.bytes_app (Mk.dg_bytes _ _) (Mk.dg_bytes _ _)) hBp
    · intro x hx; simp at hx
  have HBY0 : Mk.bytes (Mk.un bs v n) := by
    unfold Mk.un
    split
    · exact Mk.bytes_app hB (Mk.dg_bytes _ _)
    · intro x hx; simp at hx
  have KR := Lib.hid (fun (hE : Mk.apE c p = 0) (L : List Int) (s' : Option Addr) (m' : Nat) (W : World) (hL : L = Mk.ap bs c p ++ af) (ho : W.ownsRow W0.heap.size 5 1 (.slice s' L.length m') L.length (L.map (Value.int .u8))) => (show Calls Try.prog 17 #[.slice s' L.length m', .int .i64 (bs.length : Int)] W (GivesSeg ⟨c, p, ((Mk.ap bs c p).length : Nat), 0⟩ W) by
    obtain ⟨h1, _, h3, h4, _⟩ := holds_own ho
    have hl : L.length ≤ 1000000 := by rw [hL, List.length_append]; have := HXL.out; omega
    have hb : Mk.bytes L := by rw [hL]; exact Mk.bytes_app HBX0 hBa
    have := read_c L s' m' (bs.length : Int) W h1 hb h3 hl h4
    have e : Mk.rs L (bs.length : Int) = ⟨c, p, ((Mk.ap bs c p).length : Nat), 0⟩ := by
      rw [hL, Mk.ap, if_pos hE, List.append_assoc]
      exact Mk.rs_app bs af c p hE
    rw [e] at this
    exact this))
  have KV := Lib.hid (fun (hU : Mk.unE v n = 0) (B : Nat) (L : List Int) (s' : Option Addr) (m' : Nat) (W : World) (hL : L = Mk.un bs v n ++ af) (ho : W.ownsRow B 5 1 (.slice s' L.length m') L.length (L.map (Value.int .u8))) => (show Calls Try.prog 25 #[.slice s' L.length m', .int .i64 (bs.length : Int), .int .i64 n] W (GivesN v 0 W) by
    obtain ⟨h1, _, h3, h4, _⟩ := holds_own ho
    have hb : Mk.bytes L := by rw [hL]; exact Mk.bytes_app HBY0 hBa
    have := readUint_c L s' m' (bs.length : Int) n W h1 hb h3 h4
    rcases un_cases v n with ⟨_, e⟩ | ⟨_, _, e⟩ | ⟨_, _, _, e⟩ | ⟨h0, h5, h6, e⟩
    · omega
    · omega
    · omega
    · have hn := isN_bd h0
      obtain ⟨N, rfl⟩ : ∃ N : Nat, n = N := ⟨n.toNat, by omega⟩
      have r := Mk.rd_at bs (Mk.dg v N) af N (Mk.dg_len _ _) (by omega)
      rw [hL, Mk.un, if_pos hU, Int.toNat_natCast, List.append_assoc] at this ⊢
      rw [r.1, r.2, Mk.num_dg v N h5 (by rw [pow256]; exact h6)] at this
      exact this))
  have HYN := Lib.hid (fun (hU : Mk.unE v n = 0) => (show ((Mk.un bs v n).length : Int) = (bs.length : Int) + n by
    rcases un_cases v n with ⟨_, e⟩ | ⟨_, _, e⟩ | ⟨_, _, _, e⟩ | ⟨h0, h5, h6, e⟩
    · omega
    · omega
    · omega
    · have hn := isN_bd h0
      rw [Mk.un, if_pos hU, List.length_append, Mk.dg_len]; omega))
  clear hH hP hA hs hsp hsa HBX0 HBY0 hB hBp hBa hg
  generalize Mk.ap bs c p = X at *
  generalize Mk.un bs v n = Y at *
  have d1 : decide ((1000 : Int) < bs.length) = false := decide_eq_false (by omega)
  have d1' : decide (1000 < bs.length) = false := decide_eq_false (by omega)
  have d2 : decide ((70000 : Int) < p.length) = false := decide_eq_false (by omega)
  have d2' : decide (70000 < p.length) = false := decide_eq_false (by omega)
  have d3 : decide ((100 : Int) < af.length) = false := decide_eq_false (by omega)
  have d3' : decide (100 < af.length) = false := decide_eq_false (by omega)
  by_cases hE : Mk.apE c p = 0
  · by_cases hU : Mk.unE v n = 0
    · have KR2 := Lib.hid (KR.out hE)
      rw [hE] at KA
      clear KR
      have KV2 := Lib.hid (KV.out hU)
      have yn := HYN.out hU
      rw [hU] at KU
      have w5 : IntKind.i64.wrap ((bs.length : Int) + n) = (Y.length : Int) := by rw [← yn, IntWalk.i64_in _ (by have := HYL.out; omega)]
      clear yn KV
      clear HYN hE hU
      go_enter Try.func7, Try.ntmps7
      go_upto_region 1 with fail
      rw [← HW0.out]
      go_upto_region 7 with (first | (go_at_call 15; (with_reducible refine KA.mono ?_); rintro e w1 ⟨v1, rfl, ho, hb⟩; obtain ⟨_, s1, m1, rfl, _, _, _⟩ := HoldsB.of_own ho; have B1 := Lib.hid hb; have R1 := Lib.hid (Rw.mk ho hb (Nat.le_refl _)); clear ho hb KA) | (at_builtin; refine wpApp rfl _ _ rfl W0.heap.size X af _ _ rfl R1.out sa ma rfl (HA.out.below B1.out (Nat.le_refl _)) HNA.out (by have := HXL.out; have := HAL.out; omega) ?_; intro L2 s2 m2 w2 HL2 R2; have B2 := Lib.hid R2.out.below; have kr := KR2.out L2 s2 m2 w2 HL2.out R2.out.own; clear R1) | (go_at_call 17; (with_reducible refine kr.mono ?_); rintro e w3 ⟨v3, rfl, ho, hb⟩; obtain ⟨_, s3, m3, rfl, hh, _, _⟩ := HoldsB.of_own ho; have B3 := Lib.hid (below_call B2.out hb); have H3 := Lib.hid hh; clear ho hb hh kr) | fail)
      obtain ⟨W3, hW3⟩ : ∃ W, W = w3.alloc (.cells #[.int .i64 c, .slice s3 p.length m3] 26) := ⟨_, rfl⟩
      obtain ⟨g3, hg3⟩ : ∃ g, g = w3.heap.size := ⟨_, rfl⟩
      have A3 := Lib.hid (show Below w3.heap.size w3 W3 by rw [hW3]; exact (Below.refl _ _).alloc (Nat.le_refl _) _)
      have K3 := Lib.hid (show Blk W3 g3 26 #[.int .i64 c, .slice s3 p.length m3] by rw [hW3, hg3]; exact Blk.new _ _ _)
      have D3 := Lib.hid (below_call B3.out A3.out)
      have K0 := Lib.hid (HK.out.below D3.out)
      have P3 := Lib.hid (H3.out.call A3.out)
      have ks := same_seg W3 c p sp s3 mp m3 (HP.out.call D3.out) P3.out
      rw [← hW3, ← hg3]
      clear hW3 hg3 A3 B3 H3 k0 k1
      obtain ⟨e0, e1⟩ := K0.out.two
      obtain ⟨f0, f1⟩ := K3.out.two
      go_wp2_with (first | (go_at_call 21; (with_reducible refine ks.mono ?_); rintro e w4 ⟨rfl, hb⟩; have B4 := Lib.hid (below_call D3.out hb); clear hb ks) | (go_at_call 23; (with_reducible refine (KU.out _ (HH.out.below B4.out (Nat.le_refl _))).mono ?_); rintro e w5 ⟨v5, rfl, ho, hb⟩; obtain ⟨_, s5, m5, rfl, _, _, _⟩ := HoldsB.of_own ho; have B5 := Lib.hid (below_call B4.out hb); have R5 := Lib.hid (Rw.mk ho hb (Nat.le_refl _)); clear ho hb) | (at_builtin; refine wpApp rfl _ _ rfl _ Y af _ _ rfl R5.out sa ma rfl (HA.out.below B5.out (Nat.le_refl _)) HNA.out (by have := HYL.out; have := HAL.out; omega) ?_; intro L6 s6 m6 w6 HL6 R6; have ku := KV2.out _ L6 s6 m6 w6 HL6.out R6.out.own; have B6 := Lib.hid (below_call B4.out R6.out.below); clear R5) | (go_at_call 25; (with_reducible refine ku.mono ?_); rintro e wn ⟨rfl, rfl⟩) | (go_at_call 14; (with_reducible refine (ex28_c _).mono ?_); rintro e wx ⟨rfl, hbx⟩; have HBX := Lib.hid (B6.out.trans (hbx.mono B6.out.size)); clear hbx) | fail)
      go_ret
      exact ⟨rfl, HB.out.trans (HBX.out.mono HB.out.size)⟩
    · have KR2 := Lib.hid (KR.out hE)
      rw [hE] at KA
      clear KR
      generalize Mk.unE v n = U at *
      have q2 : (U == 0) = false := by simpa using hU
      clear KV
      clear HYN hE hU
      go_enter Try.func7, Try.ntmps7
      go_upto_region 1 with fail
      rw [← HW0.out]
      go_upto_region 7 with (first | (go_at_call 15; (with_reducible refine KA.mono ?_); rintro e w1 ⟨v1, rfl, ho, hb⟩; obtain ⟨_, s1, m1, rfl, _, _, _⟩ := HoldsB.of_own ho; have B1 := Lib.hid hb; have R1 := Lib.hid (Rw.mk ho hb (Nat.le_refl _)); clear ho hb KA) | (at_builtin; refine wpApp rfl _ _ rfl W0.heap.size X af _ _ rfl R1.out sa ma rfl (HA.out.below B1.out (Nat.le_refl _)) HNA.out (by have := HXL.out; have := HAL.out; omega) ?_; intro L2 s2 m2 w2 HL2 R2; have B2 := Lib.hid R2.out.below; have kr := KR2.out L2 s2 m2 w2 HL2.out R2.out.own; clear R1) | (go_at_call 17; (with_reducible refine kr.mono ?_); rintro e w3 ⟨v3, rfl, ho, hb⟩; obtain ⟨_, s3, m3, rfl, hh, _, _⟩ := HoldsB.of_own ho; have B3 := Lib.hid (below_call B2.out hb); have H3 := Lib.hid hh; clear ho hb hh kr) | fail)
      obtain ⟨W3, hW3⟩ : ∃ W, W = w3.alloc (.cells #[.int .i64 c, .slice s3 p.length m3] 26) := ⟨_, rfl⟩
      obtain ⟨g3, hg3⟩ : ∃ g, g = w3.heap.size := ⟨_, rfl⟩
      have A3 := Lib.hid (show Below w3.heap.size w3 W3 by rw [hW3]; exact (Below.refl _ _).alloc (Nat.le_refl _) _)
      have K3 := Lib.hid (show Blk W3 g3 26 #[.int .i64 c, .slice s3 p.length m3] by rw [hW3, hg3]; exact Blk.new _ _ _)
      have D3 := Lib.hid (below_call B3.out A3.out)
      have K0 := Lib.hid (HK.out.below D3.out)
      have P3 := Lib.hid (H3.out.call A3.out)
      have ks := same_seg W3 c p sp s3 mp m3 (HP.out.call D3.out) P3.out
      rw [← hW3, ← hg3]
      clear hW3 hg3 A3 B3 H3 k0 k1
      obtain ⟨e0, e1⟩ := K0.out.two
      obtain ⟨f0, f1⟩ := K3.out.two
      go_wp2_with (first | (go_at_call 21; (with_reducible refine ks.mono ?_); rintro e w4 ⟨rfl, hb⟩; have B4 := Lib.hid (below_call D3.out hb); clear hb ks) | (go_at_call 23; (with_reducible refine (KU.out _ (HH.out.below B4.out (Nat.le_refl _))).mono ?_); rintro e w5 ⟨v5, rfl, ho, hb⟩; obtain ⟨_, s5, m5, rfl, _, _, _⟩ := HoldsB.of_own ho; have B5 := Lib.hid (below_call B4.out hb); have R5 := Lib.hid (Rw.mk ho hb (Nat.le_refl _)); clear ho hb) | (go_at_call 14; (with_reducible refine (ex28_c _).mono ?_); rintro e wx ⟨rfl, hbx⟩; have HBX := Lib.hid (B5.out.trans (hbx.mono B5.out.size)); clear hbx) | fail)
      go_ret
      exact ⟨rfl, HB.out.trans (HBX.out.mono HB.out.size)⟩
  · by_cases hU : Mk.unE v n = 0
    · generalize Mk.apE c p = E at *
      have q1 : (E == 0) = false := by simpa using hE
      clear KR
      have KV2 := Lib.hid (KV.out hU)
      have yn := HYN.out hU
      rw [hU] at KU
      have w5 : IntKind.i64.wrap ((bs.length : Int) + n) = (Y.length : Int) := by rw [← yn, IntWalk.i64_in _ (by have := HYL.out; omega)]
      clear yn KV
      clear HYN hE hU
      go_enter Try.func7, Try.ntmps7
      go_upto_region 1 with fail
      rw [← HW0.out]
      go_wp2_with (first | (go_at_call 15; (with_reducible refine KA.mono ?_); rintro e w1 ⟨v1, rfl, ho, hb⟩; obtain ⟨_, s1, m1, rfl, _, _, _⟩ := HoldsB.of_own ho; have B4 := Lib.hid hb; have R1 := Lib.hid (Rw.mk ho hb (Nat.le_refl _)); clear ho hb KA) | (go_at_call 23; (with_reducible refine (KU.out _ (HH.out.below B4.out (Nat.le_refl _))).mono ?_); rintro e w5 ⟨v5, rfl, ho, hb⟩; obtain ⟨_, s5, m5, rfl, _, _, _⟩ := HoldsB.of_own ho; have B5 := Lib.hid (below_call B4.out hb); have R5 := Lib.hid (Rw.mk ho hb (Nat.le_refl _)); clear ho hb) | (at_builtin; refine wpApp rfl _ _ rfl _ Y af _ _ rfl R5.out sa ma rfl (HA.out.below B5.out (Nat.le_refl _)) HNA.out (by have := HYL.out; have := HAL.out; omega) ?_; intro L6 s6 m6 w6 HL6 R6; have ku := KV2.out _ L6 s6 m6 w6 HL6.out R6.out.own; have B6 := Lib.hid (below_call B4.out R6.out.below); clear R5) | (go_at_call 25; (with_reducible refine ku.mono ?_); rintro e wn ⟨rfl, rfl⟩) | (go_at_call 14; (with_reducible refine (ex28_c _).mono ?_); rintro e wx ⟨rfl, hbx⟩; have HBX := Lib.hid (B6.out.trans (hbx.mono B6.out.size)); clear hbx) | fail)
      go_ret
      exact ⟨rfl, HB.out.trans (HBX.out.mono HB.out.size)⟩
    · generalize Mk.apE c p = E at *
      have q1 : (E == 0) = false := by simpa using hE
      clear KR
      generalize Mk.unE v n = U at *
      have q2 : (U == 0) = false := by simpa using hU
      clear KV
      clear HYN hE hU
      go_enter Try.func7, Try.ntmps7
      go_upto_region 1 with fail
      rw [← HW0.out]
      go_wp2_with (first | (go_at_call 15; (with_reducible refine KA.mono ?_); rintro e w1 ⟨v1, rfl, ho, hb⟩; obtain ⟨_, s1, m1, rfl, _, _, _⟩ := HoldsB.of_own ho; have B4 := Lib.hid hb; have R1 := Lib.hid (Rw.mk ho hb (Nat.le_refl _)); clear ho hb KA) | (go_at_call 23; (with_reducible refine (KU.out _ (HH.out.below B4.out (Nat.le_refl _))).mono ?_); rintro e w5 ⟨v5, rfl, ho, hb⟩; obtain ⟨_, s5, m5, rfl, _, _, _⟩ := HoldsB.of_own ho; have B5 := Lib.hid (below_call B4.out hb); have R5 := Lib.hid (Rw.mk ho hb (Nat.le_refl _)); clear ho hb) | (go_at_call 14; (with_reducible refine (ex28_c _).mono ?_); rintro e wx ⟨rfl, hbx⟩; have HBX := Lib.hid (B5.out.trans (hbx.mono B5.out.size)); clear hbx) | fail)
      go_ret
      exact ⟨rfl, HB.out.trans (HBX.out.mono HB.out.size)⟩

set_option maxRecDepth 100000 in
theorem lifted (os : Os) (started : os.Started) (H : Type) (enc : TypeId × Value → H) :
    ReturnsInHanded {} Try.checked os 7 .any (Rows.markerReturnsSpec.pre6 enc Try.prog Try.f7 Rows.markerReturnsRow.domain false) (Rows.markerReturnsSpec.post enc Try.prog Try.f7 false true false false) := by
  refine returnsInHanded_of_change (C := Try.checked) own started (by kernel_rfl) Try.func7
    (ChangeSpec.witness6 (enc := enc) (C := Try.checked) false ⟨#[], #[.slice none 0 0, .agg #[.int .i64 0, .slice none 0 0], .slice none 0 0, .int .i64 0, .int .i64 0], []⟩ 8 (by kernel_rfl) (by kernel_rfl) (by kernel_rfl) (by kernel_rfl)) ?_
  intro W base args ds gs before hval0 hW _ _
  have hval : ∀ (j : Nat) t v, Try.f7.params[j]? = some t → args[j]? = some v → Value.okWide Try.prog W .any base t v := hval0
  have hW' := hW
  obtain ⟨p, q, hA0, hV, rfl, _, _⟩ := hW
  have hA : DataW.TrodAll enc Try.prog W 0 (fun _ => true) true Try.f7.params.toList args.toList ds p := hA0
  rw [Try.params7] at hA hval
  obtain ⟨v0, vs0, d0, ds0, p0, q0, hargs, rfl, rfl, h0, r0⟩ := trodAll_cons hA
  obtain ⟨v1, vs1, d1, ds1, p1, q1, rfl, rfl, rfl, h1, r1⟩ := trodAll_cons r0
  obtain ⟨v2, vs2, d2, ds2, p2, q2, rfl, rfl, rfl, h2, r2⟩ := trodAll_cons r1
  obtain ⟨v3, vs3, d3, ds3, p3, q3, rfl, rfl, rfl, h3, r3⟩ := trodAll_cons r2
  obtain ⟨v4, vs4, d4, ds4, p4, q4, rfl, rfl, rfl, h4, r4⟩ := trodAll_cons r3
  obtain ⟨rfl, rfl, rfl⟩ := trodAll_nil r4
  obtain rfl : args = #[v0, v1, v2, v3, v4] := by cases args; simp_all
  obtain ⟨rfl, rfl⟩ := trodVars_none hV
  clear hA0 hval0
  simp only [List.append_nil] at hW'
  have l0 : ∀ x ∈ p0, x.block < W.heap.size := fun x hx => hW'.lt x (by simp [hx])
  have l1 : ∀ x ∈ p1, x.block < W.heap.size := fun x hx => hW'.lt x (by simp [hx])
  have l2 : ∀ x ∈ p2, x.block < W.heap.size := fun x hx => hW'.lt x (by simp [hx])
  have l3 : ∀ x ∈ p3, x.block < W.heap.size := fun x hx => hW'.lt x (by simp [hx])
  have l4 : ∀ x ∈ p4, x.block < W.heap.size := fun x hx => hW'.lt x (by simp [hx])
  obtain ⟨s0, b0, m0, rfl, hB0, hY0, hm0, hM0, hn0⟩ := open_bytes (hval 0 24 v0 rfl rfl) h0
  obtain ⟨c1, s1, b1, m1, rfl, hB1, hY1, hm1, hM1, hn1⟩ := open_seg (hval 1 26 v1 rfl rfl) h1
  obtain ⟨s2, b2, m2, rfl, hB2, hY2, hm2, hM2, hn2⟩ := open_bytes (hval 2 24 v2 rfl rfl) h2
  obtain ⟨i3, rfl, _, _, wi3⟩ := open_int Try.underlying3 (hval 3 3 v3 rfl rfl) h3
  obtain ⟨i4, rfl, _, _, wi4⟩ := open_int Try.underlying3 (hval 4 3 v4 rfl rfl) h4
  refine (walk b0 s0 m0 c1 b1 s1 m1 b2 s2 m2 i3 i4 W hB0 hn0 hY0 hB1 hn1 hY1 hB2 hn2 hY2).mono fun e W' ⟨he, hb⟩ => ?_
  subst he
  exact ⟨_, rfl, post_low (pa := p0 ++ (p1 ++ (p2 ++ (p3 ++ (p4 ++ ([])))))) (pv := []) hW' (fun _ _ _ => (trodAll_cons_mk (shut_bool Try.underlying4 _) trodAll_mk0)) (fun sp hsp => (trodAll_cons_mk (trod_low laidOut (by kernel_rfl) (of_decide_eq_true (by kernel_rfl)) h0 hb l0 (fun x hx => hsp x (by simp [hx]))) (trodAll_cons_mk (trod_low laidOut (by kernel_rfl) (of_decide_eq_true (by kernel_rfl)) h1 hb l1 (fun x hx => hsp x (by simp [hx]))) (trodAll_cons_mk (trod_low laidOut (by kernel_rfl) (of_decide_eq_true (by kernel_rfl)) h2 hb l2 (fun x hx => hsp x (by simp [hx]))) (trodAll_cons_mk (trod_low laidOut (by kernel_rfl) (of_decide_eq_true (by kernel_rfl)) h3 hb l3 (fun x hx => hsp x (by simp [hx]))) (trodAll_cons_mk (trod_low laidOut (by kernel_rfl) (of_decide_eq_true (by kernel_rfl)) h4 hb l4 (fun x hx => hsp x (by simp [hx]))) trodAll_mk0)))))) (fun _ _ => rfl) (by simp) hb (ok_one (by kernel_rfl) rfl (okWide_bool_mk Try.underlying4 _))⟩

theorem over : Rows.markerReturnsRow.holds Try.pinned (OpenSpec.ofChange Rows.markerReturnsSpec) :=
  OpenClaim.holds_of_wide 7 Try.f7 rfl rfl rfl rfl rfl rfl rfl ⟨rfl, rfl, rfl, rfl, rfl⟩ rfl rfl rfl rfl rfl (by kernel_rfl) Try.func7 (by kernel_rfl)
    (of_decide_eq_true (by kernel_rfl)) (by unfold Func.isWrapper; first | (rw [if_pos (by decide +kernel)]; kernel_rfl) | (rw [if_neg (by decide +kernel)]; exact ⟨rfl, rfl⟩))
    (fun os started H enc _ => lifted os started H enc)

theorem proved : Rows.MarkerReturnsSaid :=
  over
#print axioms proved
end Go.Proofs.Ytagfmmkhgggfmaa.markerReturns
