/-
  Layer 27: contract of the reference's Append where it succeeds.
-/
import Derived.Test.YtpnnmibdboelpaaCg
set_option maxRecDepth 100000
namespace Go.Proofs.Ytpnnmibdboelpaa
open Go.RowKit

theorem dg2 (v : Int) : Mk.dg v 2 = [v / 256 % 256, v % 256] := by simp [Mk.dg]
theorem hd10_val (q n c : Int) : hd10 q n c = [255, 179, q / 256 % 256, q % 256, n / 16777216 % 256, n / 65536 % 256, n / 256 % 256, n % 256, c / 256 % 256, c % 256] := by
  have e1 : n / 256 / 256 = n / 65536 := by omega
  have e2 : n / 65536 / 256 = n / 16777216 := by omega
  simp [hd10, Mk.dg, e1, e2]
set_option maxHeartbeats 4000000 in
theorem rappend_11 (i j k l : Int) (bs hd bd : List Int) (s sh sb : Option Addr) (m mh mb : Nat) (q : Int) (w : World) (hP : PkA w bs hd bd s sh sb m mh mb) (hq : seqB q = true) :
    Calls Try.prog 12 #[.slice s bs.length m, .agg (pkV i j k l hd bd sh sb mh mb), .bool true, .bool true, .int .i64 q] w (GivesBE (pka bs hd bd true true q) 0 w) := by
  unfold pkV
  obtain ⟨W0, hW0⟩ : ∃ W0, W0 = w.alloc (.cells #[.int .i64 i, .int .i64 j, .int .i64 k, .int .i64 l, .slice sh hd.length mh, .slice sb bd.length mb] 29) := ⟨_, rfl⟩
  have HB := Lib.hid (show Below w.heap.size w W0 by rw [hW0]; exact (Below.refl _ _).alloc (Nat.le_refl _) _)
  have HK := Lib.hid (show Blk W0 w.heap.size 29 #[.int .i64 i, .int .i64 j, .int .i64 k, .int .i64 l, .slice sh hd.length mh, .slice sb bd.length mb] by rw [hW0]; exact Blk.new _ _ _)
  have HW0 := Lib.hid hW0
  have HP := Lib.hid (hP.call HB.out)
  have c4 := HK.out.cell 4
  have c5 := HK.out.cell 5
  have c4a := (HK.out.alloc (.cells #[] 5)).cell 4
  have d1 : decide (q < 0) = false := by simp [seqB] at hq; simp; omega
  have d2 : decide (65535 < q) = false := by simp [seqB] at hq; simp; omega
  have hlp := hP.lp
  have d3 : decide ((67108864 : Int) < (hd.length : Int) + bd.length) = false := decide_eq_false (by omega)
  have w1e : IntKind.i64.wrap ((hd.length : Int) + (bd.length : Int)) = (hd.length : Int) + bd.length := IntWalk.i64_in _ (by omega)
  obtain ⟨X, hX⟩ : ∃ X, X = pka bs hd bd true true q := ⟨_, rfl⟩
  rw [← hX]
  obtain ⟨R, hR⟩ : ∃ R, R = rst hd bd true := ⟨_, rfl⟩
  have hXe : X = bs ++ (mkB q (R.length : Nat) (Ck.crc R) ++ R) := by rw [hX, pka, if_pos hq, hR]; rfl
  have hRe : R = hd ++ ((Mk.dg 65460 2) ++ bd) := by rw [hR]; rfl
  have hRl : R.length = hd.length + bd.length + 2 := by rw [hRe, List.length_append, List.length_append, Mk.dg_len]; omega
  have hRb : Mk.bytes R := by rw [hR]; exact rst_bytes hP.yh hP.yd _
  have HXE := Lib.hid hXe
  have HRE := Lib.hid hRe
  have HRL := Lib.hid hRl
  have HRB := Lib.hid hRb
  have HLB := Lib.hid hP.lb
  have HYB := Lib.hid hP.yb
  have HLT := Lib.hid (Blk.lt HK.out)
  clear hP hW0 hX hq hXe hRe hRl hRb hR
  go_enter Try.func12, Try.ntmps12
  go_upto_region 1 with fail
  rw [← HW0.out]
  go_upto_region 7 with (first | (at_builtin; refine wpApp rfl _ _ rfl W0.heap.size [] hd _ _ rfl (Rw.new W0 _ (Nat.le_refl _)) sh mh rfl (HP.out.h.call ((Below.refl _ _).alloc (Nat.le_refl _) _)) HP.out.nh (by have := HP.out.lp; simp only [List.length_nil]; omega) ?_; intro L1 s1 m1 w1 HL1 R1; have N1 := Lib.hid (show L1.length = hd.length by rw [HL1.out]; simp); have D1 := Lib.hid (HK.out.belowAt R1.out.below (Blk.lt HK.out)); have d5 := D1.out.cell 5) | fail)
  clear c4 c5 c4a
  have H2 := fun (W : World) => new2 W 255 180
  go_upto_region 8 with (first | (at_builtin; refine wpApp rfl _ _ rfl W0.heap.size L1 [255, 180] _ _ rfl (R1.out.alloc _) (some ⟨w1.heap.size, 0, none⟩) 2 rfl (new2 _ _ _) (by simp) (by have := N1.out; have := HP.out.lp; simp only [List.length_cons, List.length_nil]; omega) ?_; intro L2 s2 m2 w2 HL2 R2; have N2 := Lib.hid (show L2.length = hd.length + 2 by rw [HL2.out, List.length_append, N1.out]; rfl); have D2 := Lib.hid (HK.out.belowAt R2.out.below (Blk.lt HK.out)); have d5 := D2.out.cell 5) | fail)
  go_upto_region 9 with (first | (at_builtin; refine wpApp rfl _ _ rfl W0.heap.size L2 bd _ _ rfl R2.out sb mb rfl (HP.out.d.below R2.out.below (Nat.le_refl _)) HP.out.nd (by have := HP.out.lp; have := N2.out; omega) ?_; intro L3 s3 m3 w3 HL3 R3) | fail)
  have hL3 : L3 = R := by rw [HL3.out, HL2.out, HL1.out, HRE.out]; simp [dg2]
  subst hL3
  have HR3 := Lib.hid R3.out.holds
  have hrn : s3 = none → L3 = [] ∧ m3 = 0 := (holds_own R3.out.own).2.2.2.2
  have HRN := Lib.hid hrn
  clear hrn
  obtain ⟨c, hc⟩ : ∃ c, c = Ck.crc L3 := ⟨_, rfl⟩
  have KCH := Lib.hid (fun (W : World) (h : HoldsB W s3 L3) => (show Calls Try.prog 10 #[.slice s3 L3.length m3] W (fun e w' => e = .returned (.int .i64 c) ∧ W = w') by rw [hc]; exact rchecksum_c L3 s3 m3 W h HRB.out (by have := HRL.out; omega)))
  obtain ⟨n, hn⟩ : ∃ n : Int, n = (L3.length : Nat) := ⟨_, rfl⟩
  rw [← hn, ← hc] at HXE
  obtain ⟨V, hV⟩ : ∃ V : List Int, V = [255, 179, q / 256 % 256, q % 256, n / 16777216 % 256, n / 65536 % 256, n / 256 % 256, n % 256, c / 256 % 256, c % 256] := ⟨_, rfl⟩
  have hV2 : V = hd10 q n c := by rw [hV]; exact (hd10_val q n c).symm
  have HVL := Lib.hid (show V.length = 10 by rw [hV]; rfl)
  have HV2 := Lib.hid hV2
  have HVN := Lib.hid (fun (W : World) => (show HoldsB (W.alloc (.cells #[.int .u8 255, .int .u8 179, .int .u8 (q / 256 % 256), .int .u8 (q % 256), .int .u8 (n / 16777216 % 256), .int .u8 (n / 65536 % 256), .int .u8 (n / 256 % 256), .int .u8 (n % 256), .int .u8 (c / 256 % 256), .int .u8 (c % 256)] 5)) (some ⟨W.heap.size, 0, none⟩) V by rw [hV]; exact holdsB_new W _))
  have HC := Lib.hid hc
  have HN := Lib.hid hn
  have HVB := Lib.hid (show Mk.bytes V by rw [hV2]; exact hd10_bytes _ _ _)
  clear hc hV hV2
  go_upto_region 11 with (first | (at_builtin; refine wpApp rfl _ _ rfl w3.heap.size [] bs _ _ rfl (Rw.new w3 _ (Nat.le_refl _)) s m rfl ((HP.out.b.below R3.out.below (Nat.le_refl _)).call ((Below.refl _ _).alloc (Nat.le_refl _) _)) HP.out.nb (by have := HP.out.lb; simp only [List.length_nil]; omega) ?_; intro L4 s4 m4 w4 HL4 R4; have N4 := Lib.hid (show L4.length = bs.length by rw [HL4.out]; simp); have HH4 := Lib.hid (HR3.out.call R4.out.below)) | fail)
  have kchk := KCH.out w4 HH4.out
  go_upto_region 12 with (first | (go_at_call 10; (with_reducible refine kchk.mono ?_); rintro e wn ⟨rfl, rfl⟩) | fail)
  rw [← hn]
  clear hn kchk
  go_upto_region 13 with (first | (at_builtin; refine wpApp rfl _ _ rfl w3.heap.size L4 V _ _ rfl (R4.out.alloc _) (some ⟨w4.heap.size, 0, none⟩) 10 (by rw [HVL.out]; rfl) (HVN.out w4) (by simp) (by have := N4.out; have := HVL.out; have := HLB.out; omega) ?_; intro L5 s5 m5 w5 HL5 R5; have N5 := Lib.hid (show L5.length = bs.length + 10 by rw [HL5.out, List.length_append, N4.out, HVL.out])) | fail)
  have hL5 : L5 = bs ++ V := by rw [HL5.out, HL4.out]; simp
  have kc : Calls Try.prog 23 #[.slice s5 L5.length m5, .int .i64 ((L5.length : Int) - 10)] w5 (fun e w' => e = .returned (.int .u8 (chk (hd10 q n c))) ∧ w5 = w') := by
    have h5 : ((L5.length : Int) - 10) = ((bs.length : Nat) : Int) := by have := N5.out; omega
    have hb5 : Mk.bytes L5 := by rw [hL5]; exact Mk.bytes_app HYB.out HVB.out
    have := rcheck_c L5 s5 m5 bs.length w5 R5.out.holds hb5 (by have := N5.out; omega) (by have := N5.out; have := HLB.out; omega)
    have hck : chk ((L5.drop bs.length).take 10) = chk (hd10 q n c) := by rw [hL5, List.drop_left, ← HV2.out, List.take_of_length_le (by rw [HVL.out]; exact Nat.le_refl _)]
    rw [h5]
    rw [hck] at this
    exact this
  obtain ⟨x, hx⟩ : ∃ x, x = chk (hd10 q n c) := ⟨_, rfl⟩
  rw [← hx] at kc
  have HX0 := Lib.hid hx
  have HL5B := Lib.hid hL5
  have w5e : wrap64 ((L5.length : Int) - 10) = (L5.length : Int) - 10 := by unfold wrap64; have := N5.out; have := HLB.out; omega
  clear hx hL5
  go_wp2_with (first | (go_at_call 23; (with_reducible refine kc.mono ?_); rintro e wn ⟨rfl, rfl⟩) | (at_builtin; refine wpApp rfl _ _ rfl w3.heap.size L5 [x] _ _ rfl (R5.out.alloc _) (some ⟨w5.heap.size, 0, none⟩) 1 rfl (new1 w5 x) (by simp) (by have := N5.out; have := HLB.out; simp only [List.length_cons, List.length_nil]; omega) ?_; intro L6 s6 m6 w6 HL6 R6; have N6 := Lib.hid (show L6.length = bs.length + 11 by rw [HL6.out, List.length_append, N5.out]; rfl); have HH6 := Lib.hid (HR3.out.call R6.out.below)) | (at_builtin; refine wpApp rfl _ _ rfl w3.heap.size L6 L3 _ _ rfl R6.out s3 m3 rfl HH6.out HRN.out (by have := N6.out; have := HLB.out; have := HRL.out; omega) ?_; intro L7 s7 m7 w7 HL7 R7) | fail)
  go_ret2
  rw [show X = L7 by rw [HXE.out, HL7.out, HL6.out, HL5B.out, HX0.out, mkB, HV2.out]; simp]
  exact R7.out.gives (HB.out.trans (R3.out.below.mono HB.out.size)) (Nat.le_trans HB.out.size R3.out.below.size) 0 _ rfl
set_option maxHeartbeats 4000000 in
theorem rappend_10 (i j k l : Int) (bs hd bd : List Int) (s sh sb : Option Addr) (m mh mb : Nat) (q : Int) (w : World) (hP : PkA w bs hd bd s sh sb m mh mb) (hq : seqB q = true) :
    Calls Try.prog 12 #[.slice s bs.length m, .agg (pkV i j k l hd bd sh sb mh mb), .bool true, .bool false, .int .i64 q] w (GivesBE (pka bs hd bd true false q) 0 w) := by
  unfold pkV
  obtain ⟨W0, hW0⟩ : ∃ W0, W0 = w.alloc (.cells #[.int .i64 i, .int .i64 j, .int .i64 k, .int .i64 l, .slice sh hd.length mh, .slice sb bd.length mb] 29) := ⟨_, rfl⟩
  have HB := Lib.hid (show Below w.heap.size w W0 by rw [hW0]; exact (Below.refl _ _).alloc (Nat.le_refl _) _)
  have HK := Lib.hid (show Blk W0 w.heap.size 29 #[.int .i64 i, .int .i64 j, .int .i64 k, .int .i64 l, .slice sh hd.length mh, .slice sb bd.length mb] by rw [hW0]; exact Blk.new _ _ _)
  have HW0 := Lib.hid hW0
  have HP := Lib.hid (hP.call HB.out)
  have c4 := HK.out.cell 4
  have c5 := HK.out.cell 5
  have c4a := (HK.out.alloc (.cells #[] 5)).cell 4
  have d1 : decide (q < 0) = false := by simp [seqB] at hq; simp; omega
  have d2 : decide (65535 < q) = false := by simp [seqB] at hq; simp; omega
  have hlp := hP.lp
  have d3 : decide ((67108864 : Int) < (hd.length : Int) + bd.length) = false := decide_eq_false (by omega)
  have w1e : IntKind.i64.wrap ((hd.length : Int) + (bd.length : Int)) = (hd.length : Int) + bd.length := IntWalk.i64_in _ (by omega)
  obtain ⟨X, hX⟩ : ∃ X, X = pka bs hd bd true false q := ⟨_, rfl⟩
  rw [← hX]
  obtain ⟨R, hR⟩ : ∃ R, R = rst hd bd false := ⟨_, rfl⟩
  have hXe : X = bs ++ (mkB q (R.length : Nat) (Ck.crc R) ++ R) := by rw [hX, pka, if_pos hq, hR]; rfl
  have hRe : R = hd ++ (([] : List Int) ++ bd) := by rw [hR]; rfl
  have hRl : R.length = hd.length + bd.length + 0 := by rw [hRe, List.length_append, List.length_append, List.length_nil]; omega
  have hRb : Mk.bytes R := by rw [hR]; exact rst_bytes hP.yh hP.yd _
  have HXE := Lib.hid hXe
  have HRE := Lib.hid hRe
  have HRL := Lib.hid hRl
  have HRB := Lib.hid hRb
  have HLB := Lib.hid hP.lb
  have HYB := Lib.hid hP.yb
  have HLT := Lib.hid (Blk.lt HK.out)
  clear hP hW0 hX hq hXe hRe hRl hRb hR
  go_enter Try.func12, Try.ntmps12
  go_upto_region 1 with fail
  rw [← HW0.out]
  go_upto_region 8 with (first | (at_builtin; refine wpApp rfl _ _ rfl W0.heap.size [] hd _ _ rfl (Rw.new W0 _ (Nat.le_refl _)) sh mh rfl (HP.out.h.call ((Below.refl _ _).alloc (Nat.le_refl _) _)) HP.out.nh (by have := HP.out.lp; simp only [List.length_nil]; omega) ?_; intro L1 s1 m1 w1 HL1 R1; have N1 := Lib.hid (show L1.length = hd.length by rw [HL1.out]; simp); have D1 := Lib.hid (HK.out.belowAt R1.out.below (Blk.lt HK.out)); have d5 := D1.out.cell 5) | fail)
  clear c4 c5 c4a
  go_upto_region 9 with (first | (at_builtin; refine wpApp rfl _ _ rfl W0.heap.size L1 bd _ _ rfl R1.out sb mb rfl (HP.out.d.below R1.out.below (Nat.le_refl _)) HP.out.nd (by have := HP.out.lp; have := N1.out; omega) ?_; intro L3 s3 m3 w3 HL3 R3) | fail)
  have hL3 : L3 = R := by rw [HL3.out, HL1.out, HRE.out]; simp
  subst hL3
  have HR3 := Lib.hid R3.out.holds
  have hrn : s3 = none → L3 = [] ∧ m3 = 0 := (holds_own R3.out.own).2.2.2.2
  have HRN := Lib.hid hrn
  clear hrn
  obtain ⟨c, hc⟩ : ∃ c, c = Ck.crc L3 := ⟨_, rfl⟩
  have KCH := Lib.hid (fun (W : World) (h : HoldsB W s3 L3) => (show Calls Try.prog 10 #[.slice s3 L3.length m3] W (fun e w' => e = .returned (.int .i64 c) ∧ W = w') by rw [hc]; exact rchecksum_c L3 s3 m3 W h HRB.out (by have := HRL.out; omega)))
  obtain ⟨n, hn⟩ : ∃ n : Int, n = (L3.length : Nat) := ⟨_, rfl⟩
  rw [← hn, ← hc] at HXE
  obtain ⟨V, hV⟩ : ∃ V : List Int, V = [255, 179, q / 256 % 256, q % 256, n / 16777216 % 256, n / 65536 % 256, n / 256 % 256, n % 256, c / 256 % 256, c % 256] := ⟨_, rfl⟩
  have hV2 : V = hd10 q n c := by rw [hV]; exact (hd10_val q n c).symm
  have HVL := Lib.hid (show V.length = 10 by rw [hV]; rfl)
  have HV2 := Lib.hid hV2
  have HVN := Lib.hid (fun (W : World) => (show HoldsB (W.alloc (.cells #[.int .u8 255, .int .u8 179, .int .u8 (q / 256 % 256), .int .u8 (q % 256), .int .u8 (n / 16777216 % 256), .int .u8 (n / 65536 % 256), .int .u8 (n / 256 % 256), .int .u8 (n % 256), .int .u8 (c / 256 % 256), .int .u8 (c % 256)] 5)) (some ⟨W.heap.size, 0, none⟩) V by rw [hV]; exact holdsB_new W _))
  have HC := Lib.hid hc
  have HN := Lib.hid hn
  have HVB := Lib.hid (show Mk.bytes V by rw [hV2]; exact hd10_bytes _ _ _)
  clear hc hV hV2
  go_upto_region 11 with (first | (at_builtin; refine wpApp rfl _ _ rfl w3.heap.size [] bs _ _ rfl (Rw.new w3 _ (Nat.le_refl _)) s m rfl ((HP.out.b.below R3.out.below (Nat.le_refl _)).call ((Below.refl _ _).alloc (Nat.le_refl _) _)) HP.out.nb (by have := HP.out.lb; simp only [List.length_nil]; omega) ?_; intro L4 s4 m4 w4 HL4 R4; have N4 := Lib.hid (show L4.length = bs.length by rw [HL4.out]; simp); have HH4 := Lib.hid (HR3.out.call R4.out.below)) | fail)
  have kchk := KCH.out w4 HH4.out
  go_upto_region 12 with (first | (go_at_call 10; (with_reducible refine kchk.mono ?_); rintro e wn ⟨rfl, rfl⟩) | fail)
  rw [← hn]
  clear hn kchk
  go_upto_region 13 with (first | (at_builtin; refine wpApp rfl _ _ rfl w3.heap.size L4 V _ _ rfl (R4.out.alloc _) (some ⟨w4.heap.size, 0, none⟩) 10 (by rw [HVL.out]; rfl) (HVN.out w4) (by simp) (by have := N4.out; have := HVL.out; have := HLB.out; omega) ?_; intro L5 s5 m5 w5 HL5 R5; have N5 := Lib.hid (show L5.length = bs.length + 10 by rw [HL5.out, List.length_append, N4.out, HVL.out])) | fail)
  have hL5 : L5 = bs ++ V := by rw [HL5.out, HL4.out]; simp
  have kc : Calls Try.prog 23 #[.slice s5 L5.length m5, .int .i64 ((L5.length : Int) - 10)] w5 (fun e w' => e = .returned (.int .u8 (chk (hd10 q n c))) ∧ w5 = w') := by
    have h5 : ((L5.length : Int) - 10) = ((bs.length : Nat) : Int) := by have := N5.out; omega
    have hb5 : Mk.bytes L5 := by rw [hL5]; exact Mk.bytes_app HYB.out HVB.out
    have := rcheck_c L5 s5 m5 bs.length w5 R5.out.holds hb5 (by have := N5.out; omega) (by have := N5.out; have := HLB.out; omega)
    have hck : chk ((L5.drop bs.length).take 10) = chk (hd10 q n c) := by rw [hL5, List.drop_left, ← HV2.out, List.take_of_length_le (by rw [HVL.out]; exact Nat.le_refl _)]
    rw [h5]
    rw [hck] at this
    exact this
  obtain ⟨x, hx⟩ : ∃ x, x = chk (hd10 q n c) := ⟨_, rfl⟩
  rw [← hx] at kc
  have HX0 := Lib.hid hx
  have HL5B := Lib.hid hL5
  have w5e : wrap64 ((L5.length : Int) - 10) = (L5.length : Int) - 10 := by unfold wrap64; have := N5.out; have := HLB.out; omega
  clear hx hL5
  go_wp2_with (first | (go_at_call 23; (with_reducible refine kc.mono ?_); rintro e wn ⟨rfl, rfl⟩) | (at_builtin; refine wpApp rfl _ _ rfl w3.heap.size L5 [x] _ _ rfl (R5.out.alloc _) (some ⟨w5.heap.size, 0, none⟩) 1 rfl (new1 w5 x) (by simp) (by have := N5.out; have := HLB.out; simp only [List.length_cons, List.length_nil]; omega) ?_; intro L6 s6 m6 w6 HL6 R6; have N6 := Lib.hid (show L6.length = bs.length + 11 by rw [HL6.out, List.length_append, N5.out]; rfl); have HH6 := Lib.hid (HR3.out.call R6.out.below)) | (at_builtin; refine wpApp rfl _ _ rfl w3.heap.size L6 L3 _ _ rfl R6.out s3 m3 rfl HH6.out HRN.out (by have := N6.out; have := HLB.out; have := HRL.out; omega) ?_; intro L7 s7 m7 w7 HL7 R7) | fail)
  go_ret2
  rw [show X = L7 by rw [HXE.out, HL7.out, HL6.out, HL5B.out, HX0.out, mkB, HV2.out]; simp]
  exact R7.out.gives (HB.out.trans (R3.out.below.mono HB.out.size)) (Nat.le_trans HB.out.size R3.out.below.size) 0 _ rfl
set_option maxHeartbeats 4000000 in
theorem rappend_01 (i j k l : Int) (bs hd bd : List Int) (s sh sb : Option Addr) (m mh mb : Nat) (q : Int) (w : World) (hP : PkA w bs hd bd s sh sb m mh mb) (hq : seqB q = true) :
    Calls Try.prog 12 #[.slice s bs.length m, .agg (pkV i j k l hd bd sh sb mh mb), .bool false, .bool true, .int .i64 q] w (GivesBE (pka bs hd bd false true q) 0 w) := by
  unfold pkV
  obtain ⟨W0, hW0⟩ : ∃ W0, W0 = w.alloc (.cells #[.int .i64 i, .int .i64 j, .int .i64 k, .int .i64 l, .slice sh hd.length mh, .slice sb bd.length mb] 29) := ⟨_, rfl⟩
  have HB := Lib.hid (show Below w.heap.size w W0 by rw [hW0]; exact (Below.refl _ _).alloc (Nat.le_refl _) _)
  have HK := Lib.hid (show Blk W0 w.heap.size 29 #[.int .i64 i, .int .i64 j, .int .i64 k, .int .i64 l, .slice sh hd.length mh, .slice sb bd.length mb] by rw [hW0]; exact Blk.new _ _ _)
  have HW0 := Lib.hid hW0
  have HP := Lib.hid (hP.call HB.out)
  have c4 := HK.out.cell 4
  have c5 := HK.out.cell 5
  have c4a := (HK.out.alloc (.cells #[] 5)).cell 4
  have d1 : decide (q < 0) = false := by simp [seqB] at hq; simp; omega
  have d2 : decide (65535 < q) = false := by simp [seqB] at hq; simp; omega
  have hlp := hP.lp
  have d3 : decide ((67108864 : Int) < (hd.length : Int) + bd.length) = false := decide_eq_false (by omega)
  have w1e : IntKind.i64.wrap ((hd.length : Int) + (bd.length : Int)) = (hd.length : Int) + bd.length := IntWalk.i64_in _ (by omega)
  obtain ⟨X, hX⟩ : ∃ X, X = pka bs hd bd false true q := ⟨_, rfl⟩
  rw [← hX]
  obtain ⟨R, hR⟩ : ∃ R, R = rst hd bd true := ⟨_, rfl⟩
  have hXe : X = bs ++ (([] : List Int) ++ R) := by rw [hX, pka, if_pos hq, hR]; rfl
  have hRe : R = hd ++ ((Mk.dg 65460 2) ++ bd) := by rw [hR]; rfl
  have hRl : R.length = hd.length + bd.length + 2 := by rw [hRe, List.length_append, List.length_append, Mk.dg_len]; omega
  have hRb : Mk.bytes R := by rw [hR]; exact rst_bytes hP.yh hP.yd _
  have HXE := Lib.hid hXe
  have HRE := Lib.hid hRe
  have HRL := Lib.hid hRl
  have HRB := Lib.hid hRb
  have HLB := Lib.hid hP.lb
  have HYB := Lib.hid hP.yb
  have HLT := Lib.hid (Blk.lt HK.out)
  clear hP hW0 hX hq hXe hRe hRl hRb hR
  go_enter Try.func12, Try.ntmps12
  go_upto_region 1 with fail
  rw [← HW0.out]
  go_upto_region 7 with (first | (at_builtin; refine wpApp rfl _ _ rfl W0.heap.size [] hd _ _ rfl (Rw.new W0 _ (Nat.le_refl _)) sh mh rfl (HP.out.h.call ((Below.refl _ _).alloc (Nat.le_refl _) _)) HP.out.nh (by have := HP.out.lp; simp only [List.length_nil]; omega) ?_; intro L1 s1 m1 w1 HL1 R1; have N1 := Lib.hid (show L1.length = hd.length by rw [HL1.out]; simp); have D1 := Lib.hid (HK.out.belowAt R1.out.below (Blk.lt HK.out)); have d5 := D1.out.cell 5) | fail)
  clear c4 c5 c4a
  have H2 := fun (W : World) => new2 W 255 180
  go_upto_region 8 with (first | (at_builtin; refine wpApp rfl _ _ rfl W0.heap.size L1 [255, 180] _ _ rfl (R1.out.alloc _) (some ⟨w1.heap.size, 0, none⟩) 2 rfl (new2 _ _ _) (by simp) (by have := N1.out; have := HP.out.lp; simp only [List.length_cons, List.length_nil]; omega) ?_; intro L2 s2 m2 w2 HL2 R2; have N2 := Lib.hid (show L2.length = hd.length + 2 by rw [HL2.out, List.length_append, N1.out]; rfl); have D2 := Lib.hid (HK.out.belowAt R2.out.below (Blk.lt HK.out)); have d5 := D2.out.cell 5) | fail)
  go_upto_region 9 with (first | (at_builtin; refine wpApp rfl _ _ rfl W0.heap.size L2 bd _ _ rfl R2.out sb mb rfl (HP.out.d.below R2.out.below (Nat.le_refl _)) HP.out.nd (by have := HP.out.lp; have := N2.out; omega) ?_; intro L3 s3 m3 w3 HL3 R3) | fail)
  have hL3 : L3 = R := by rw [HL3.out, HL2.out, HL1.out, HRE.out]; simp [dg2]
  subst hL3
  have HR3 := Lib.hid R3.out.holds
  have hrn : s3 = none → L3 = [] ∧ m3 = 0 := (holds_own R3.out.own).2.2.2.2
  have HRN := Lib.hid hrn
  clear hrn
  go_wp2_with (first | (at_builtin; refine wpApp rfl _ _ rfl w3.heap.size [] bs _ _ rfl (Rw.new w3 _ (Nat.le_refl _)) s m rfl ((HP.out.b.below R3.out.below (Nat.le_refl _)).call ((Below.refl _ _).alloc (Nat.le_refl _) _)) HP.out.nb (by have := HP.out.lb; simp only [List.length_nil]; omega) ?_; intro L4 s4 m4 w4 HL4 R4; have N4 := Lib.hid (show L4.length = bs.length by rw [HL4.out]; simp); have HH4 := Lib.hid (HR3.out.call R4.out.below)) | (at_builtin; refine wpApp rfl _ _ rfl w3.heap.size L4 L3 _ _ rfl R4.out s3 m3 rfl HH4.out HRN.out (by have := N4.out; have := HLB.out; have := HRL.out; omega) ?_; intro L5 s5 m5 w5 HL5 R5) | fail)
  go_ret2
  rw [show X = L5 by rw [HXE.out, HL5.out, HL4.out]; simp]
  exact R5.out.gives (HB.out.trans (R3.out.below.mono HB.out.size)) (Nat.le_trans HB.out.size R3.out.below.size) 0 _ rfl
set_option maxHeartbeats 4000000 in
theorem rappend_00 (i j k l : Int) (bs hd bd : List Int) (s sh sb : Option Addr) (m mh mb : Nat) (q : Int) (w : World) (hP : PkA w bs hd bd s sh sb m mh mb) (hq : seqB q = true) :
    Calls Try.prog 12 #[.slice s bs.length m, .agg (pkV i j k l hd bd sh sb mh mb), .bool false, .bool false, .int .i64 q] w (GivesBE (pka bs hd bd false false q) 0 w) := by
  unfold pkV
  obtain ⟨W0, hW0⟩ : ∃ W0, W0 = w.alloc (.cells #[.int .i64 i, .int .i64 j, .int .i64 k, .int .i64 l, .slice sh hd.length mh, .slice sb bd.length mb] 29) := ⟨_, rfl⟩
  have HB := Lib.hid (show Below w.heap.size w W0 by rw [hW0]; exact (Below.refl _ _).alloc (Nat.le_refl _) _)
  have HK := Lib.hid (show Blk W0 w.heap.size 29 #[.int .i64 i, .int .i64 j, .int .i64 k, .int .i64 l, .slice sh hd.length mh, .slice sb bd.length mb] by rw [hW0]; exact Blk.new _ _ _)
  have HW0 := Lib.hid hW0
  have HP := Lib.hid (hP.call HB.out)
  have c4 := HK.out.cell 4
  have c5 := HK.out.cell 5
  have c4a := (HK.out.alloc (.cells #[] 5)).cell 4
  have d1 : decide (q < 0) = false := by simp [seqB] at hq; simp; omega
  have d2 : decide (65535 < q) = false := by simp [seqB] at hq; simp; omega
  have hlp := hP.lp
  have d3 : decide ((67108864 : Int) < (hd.length : Int) + bd.length) = false := decide_eq_false (by omega)
  have w1e : IntKind.i64.wrap ((hd.length : Int) + (bd.length : Int)) = (hd.length : Int) + bd.length := IntWalk.i64_in _ (by omega)
  obtain ⟨X, hX⟩ : ∃ X, X = pka bs hd bd false false q := ⟨_, rfl⟩
  rw [← hX]
  obtain ⟨R, hR⟩ : ∃ R, R = rst hd bd false := ⟨_, rfl⟩
  have hXe : X = bs ++ (([] : List Int) ++ R) := by rw [hX, pka, if_pos hq, hR]; rfl
  have hRe : R = hd ++ (([] : List Int) ++ bd) := by rw [hR]; rfl
  have hRl : R.length = hd.length + bd.length + 0 := by rw [hRe, List.length_append, List.length_append, List.length_nil]; omega
  have hRb : Mk.bytes R := by rw [hR]; exact rst_bytes hP.yh hP.yd _
  have HXE := Lib.hid hXe
  have HRE := Lib.hid hRe
  have HRL := Lib.hid hRl
  have HRB := Lib.hid hRb
  have HLB := Lib.hid hP.lb
  have HYB := Lib.hid hP.yb
  have HLT := Lib.hid (Blk.lt HK.out)
  clear hP hW0 hX hq hXe hRe hRl hRb hR
  go_enter Try.func12, Try.ntmps12
  go_upto_region 1 with fail
  rw [← HW0.out]
  go_upto_region 8 with (first | (at_builtin; refine wpApp rfl _ _ rfl W0.heap.size [] hd _ _ rfl (Rw.new W0 _ (Nat.le_refl _)) sh mh rfl (HP.out.h.call ((Below.refl _ _).alloc (Nat.le_refl _) _)) HP.out.nh (by have := HP.out.lp; simp only [List.length_nil]; omega) ?_; intro L1 s1 m1 w1 HL1 R1; have N1 := Lib.hid (show L1.length = hd.length by rw [HL1.out]; simp); have D1 := Lib.hid (HK.out.belowAt R1.out.below (Blk.lt HK.out)); have d5 := D1.out.cell 5) | fail)
  clear c4 c5 c4a
  go_upto_region 9 with (first | (at_builtin; refine wpApp rfl _ _ rfl W0.heap.size L1 bd _ _ rfl R1.out sb mb rfl (HP.out.d.below R1.out.below (Nat.le_refl _)) HP.out.nd (by have := HP.out.lp; have := N1.out; omega) ?_; intro L3 s3 m3 w3 HL3 R3) | fail)
  have hL3 : L3 = R := by rw [HL3.out, HL1.out, HRE.out]; simp
  subst hL3
  have HR3 := Lib.hid R3.out.holds
  have hrn : s3 = none → L3 = [] ∧ m3 = 0 := (holds_own R3.out.own).2.2.2.2
  have HRN := Lib.hid hrn
  clear hrn
  go_wp2_with (first | (at_builtin; refine wpApp rfl _ _ rfl w3.heap.size [] bs _ _ rfl (Rw.new w3 _ (Nat.le_refl _)) s m rfl ((HP.out.b.below R3.out.below (Nat.le_refl _)).call ((Below.refl _ _).alloc (Nat.le_refl _) _)) HP.out.nb (by have := HP.out.lb; simp only [List.length_nil]; omega) ?_; intro L4 s4 m4 w4 HL4 R4; have N4 := Lib.hid (show L4.length = bs.length by rw [HL4.out]; simp); have HH4 := Lib.hid (HR3.out.call R4.out.below)) | (at_builtin; refine wpApp rfl _ _ rfl w3.heap.size L4 L3 _ _ rfl R4.out s3 m3 rfl HH4.out HRN.out (by have := N4.out; have := HLB.out; have := HRL.out; omega) ?_; intro L5 s5 m5 w5 HL5 R5) | fail)
  go_ret2
  rw [show X = L5 by rw [HXE.out, HL5.out, HL4.out]; simp]
  exact R5.out.gives (HB.out.trans (R3.out.below.mono HB.out.size)) (Nat.le_trans HB.out.size R3.out.below.size) 0 _ rfl
end Go.Proofs.Ytpnnmibdboelpaa
