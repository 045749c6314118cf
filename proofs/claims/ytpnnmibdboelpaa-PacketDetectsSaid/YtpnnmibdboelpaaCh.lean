/-
  Layer 27: contract of the code's Append where it succeeds.
-/
import Derived.Test.YtpnnmibdboelpaaCg
set_option maxRecDepth 100000
namespace Go.Proofs.Ytpnnmibdboelpaa
open Go.RowKit

set_option maxHeartbeats 4000000 in
theorem append_11 (i j k l : Int) (bs hd bd : List Int) (s sh sb : Option Addr) (m mh mb : Nat) (q : Int) (w : World) (hP : PkA w bs hd bd s sh sb m mh mb) (hq : seqB q = true) :
    Calls Try.prog 11 #[.slice s bs.length m, .agg (pkV i j k l hd bd sh sb mh mb), .bool true, .bool true, .int .i64 q] w (GivesBE (pka bs hd bd true true q) 0 w) := by
  unfold pkV
  obtain ⟨W0, hW0⟩ : ∃ W0, W0 = w.alloc (.cells #[.int .i64 i, .int .i64 j, .int .i64 k, .int .i64 l, .slice sh hd.length mh, .slice sb bd.length mb] 29) := ⟨_, rfl⟩
  have HB := Lib.hid (show Below w.heap.size w W0 by rw [hW0]; exact (Below.refl _ _).alloc (Nat.le_refl _) _)
  have HK := Lib.hid (show Blk W0 w.heap.size 29 #[.int .i64 i, .int .i64 j, .int .i64 k, .int .i64 l, .slice sh hd.length mh, .slice sb bd.length mb] by rw [hW0]; exact Blk.new _ _ _)
  have HW0 := Lib.hid hW0
  have HP := Lib.hid (hP.call HB.out)
  have c4 := HK.out.cell 4
  have c5 := HK.out.cell 5
  have hlp := hP.lp
  have hlb := hP.lb
  have ks := fun W => isSeq_c q W
  rw [hq] at ks
  have KS := Lib.hid ks
  have w1 : IntKind.i64.wrap ((hd.length : Int) + (bd.length : Int)) = (hd.length : Int) + bd.length := IntWalk.i64_in _ (by omega)
  obtain ⟨T, hT⟩ : ∃ T : Nat, T = (bs.length + 11) + (hd.length + bd.length + 2) := ⟨_, rfl⟩
  have hTi : (bs.length : Int) + 11 + ((hd.length : Int) + (bd.length : Int) + 2) = (T : Int) := by omega
  have HT := Lib.hid hT
  have HTI := Lib.hid hTi
  obtain ⟨X, hX⟩ : ∃ X, X = pka bs hd bd true true q := ⟨_, rfl⟩
  rw [← hX]
  obtain ⟨R, hR⟩ : ∃ R, R = rst hd bd true := ⟨_, rfl⟩
  have hXe : X = bs ++ (mkB q (R.length : Nat) (Ck.crc R) ++ R) := by rw [hX, pka, if_pos hq, hR]; rfl
  have hRe : R = hd ++ ((Mk.dg 65460 2) ++ bd) := by rw [hR]; rfl
  have hRl : R.length = (hd.length + bd.length + 2) := by rw [hRe, List.length_append, List.length_append, Mk.dg_len]; omega
  have hRb : Mk.bytes R := by rw [hR]; exact rst_bytes hP.yh hP.yd _
  have HXE := Lib.hid hXe
  have HRE := Lib.hid hRe
  have HRL := Lib.hid hRl
  have HRB := Lib.hid hRb
  have HYB := Lib.hid hP.yb
  clear hP hW0 ks hT hX hTi hq hXe hRe hRl hRb hR
  go_enter Try.func11, Try.ntmps11
  go_upto_region 1 with fail
  rw [← HW0.out]
  go_quiet (fail)
  have HP1 := Lib.hid (HP.out.call (drewN_below' W0 nq))
  have HK1 := Lib.hid (HK.out.below (drewN_below' W0 nq))
  have HB1 := Lib.hid (HB.out.trans ((drewN_below' W0 nq).mono HB.out.size))
  generalize W0.drewN nq = W1 at *
  clear HP HK HB HW0 w1 c4 c5
  have d4 := HK1.out.cell 4
  have d5 := HK1.out.cell 5
  have hmk : ∀ W : World, (Instr.makeSlice 22 (.int .i64 ((bs.length : Int) + 11 + ((hd.length : Int) + (bd.length : Int) + 2))) (.int .i64 ((bs.length : Int) + 11 + ((hd.length : Int) + (bd.length : Int) + 2)))).run Try.prog W = .ok (.slice (some ⟨W.heap.size, 0, none⟩) T T) (W.alloc (zU T)) := fun W => by rw [HTI.out]; exact mkU T (by have := HT.out; omega) W
  go_upto_region 11 with (first | (go_at_call 20; (with_reducible refine (KS.out _).mono ?_); rintro e wn ⟨rfl, rfl⟩) | fail)
  have BW := Lib.hid (show Below W1.heap.size W1 (W1.alloc (zU T)) from (Below.refl _ _).alloc (Nat.le_refl _) _)
  have L0 := Lib.hid (zU_blk W1 T)
  clear hmk d4 d5
  generalize W1.alloc (zU T) = W2 at *
  -- the lists, one behind the other
  obtain ⟨pad, hpad⟩ : ∃ x : List Int, x = List.replicate 11 0 := ⟨_, rfl⟩
  obtain ⟨fz, hfz⟩ : ∃ x : List Int, x = List.replicate 2 0 := ⟨_, rfl⟩
  have hpl : pad.length = 11 := by rw [hpad, List.length_replicate]
  have hfl : fz.length = 2 := by rw [hfz, List.length_replicate]
  have hsp : List.replicate T (0 : Int) = List.replicate bs.length 0 ++ (pad ++ (List.replicate hd.length 0 ++ (fz ++ List.replicate bd.length 0))) := by
    rw [hpad, hfz]
    simp only [List.replicate_append_replicate]
    congr 1
    rw [HT.out]; omega
  obtain ⟨l0, hl0⟩ : ∃ x : List Int, x = List.replicate T 0 := ⟨_, rfl⟩
  rw [← hl0] at L0 hsp
  obtain ⟨l1, hl1⟩ : ∃ x, x = lay l0 0 bs := ⟨_, rfl⟩
  have e1 : l1 = (bs ++ pad) ++ (List.replicate hd.length 0 ++ (fz ++ List.replicate bd.length 0)) := by
    rw [hl1, hsp]
    have := lay_at [] (List.replicate bs.length 0) (pad ++ (List.replicate hd.length 0 ++ (fz ++ List.replicate bd.length 0))) bs (by simp)
    simp only [List.nil_append, List.length_nil] at this
    rw [this, List.append_assoc]
  have sl : (bs ++ pad).length = (bs.length + 11) := by rw [List.length_append]; omega
  obtain ⟨l2, hl2⟩ : ∃ x, x = lay l1 (bs.length + 11) hd := ⟨_, rfl⟩
  have e2 : l2 = (bs ++ pad) ++ (hd ++ (fz ++ List.replicate bd.length 0)) := by
    rw [hl2, e1]
    have := lay_at (bs ++ pad) (List.replicate hd.length 0) (fz ++ List.replicate bd.length 0) hd (by simp)
    rwa [sl] at this
  obtain ⟨l3, hl3⟩ : ∃ x, x = pt l2 ((bs.length + 11) + hd.length) 65460 2 := ⟨_, rfl⟩
  have e3 : l3 = ((bs ++ pad) ++ hd ++ Mk.dg 65460 2) ++ List.replicate bd.length 0 := by
    rw [hl3, e2]
    have := pt_at ((bs ++ pad) ++ hd) fz (List.replicate bd.length 0) 65460 2 hfl
    rw [show ((bs ++ pad) ++ hd).length = (bs.length + 11) + hd.length by rw [List.length_append, sl]] at this
    rw [← List.append_assoc (bs ++ pad) hd, this]
    simp
  have sl3 : ((bs ++ pad) ++ hd ++ (Mk.dg 65460 2)).length = (bs.length + 11) + (hd.length + 2) := by rw [List.length_append, List.length_append, sl, Mk.dg_len]; omega
  obtain ⟨l4, hl4⟩ : ∃ x, x = lay l3 ((bs.length + 11) + (hd.length + 2)) bd := ⟨_, rfl⟩
  have e4 : l4 = (bs ++ pad) ++ R := by
    rw [hl4, e3]
    have := lay_at ((bs ++ pad) ++ hd ++ (Mk.dg 65460 2)) (List.replicate bd.length 0) [] bd (by simp)
    rw [sl3, List.append_nil (List.replicate bd.length (0 : Int)), List.append_nil bd] at this
    rw [this, HRE.out]
    simp
  have N0 := Lib.hid (show l0.length = T by rw [hl0]; simp)
  have N1 := Lib.hid (show l1.length = T by rw [hl1, lay_len _ _ _ (by rw [N0.out, HT.out]; omega)]; exact N0.out)
  have N2 := Lib.hid (show l2.length = T by rw [hl2, lay_len _ _ _ (by rw [N1.out, HT.out]; omega)]; exact N1.out)
  have N3 := Lib.hid (show l3.length = T by rw [hl3, pt_len _ _ _ _ (by rw [N2.out, HT.out]; omega)]; exact N2.out)
  have N4 := Lib.hid (show l4.length = T by rw [hl4, lay_len _ _ _ (by rw [N3.out, HT.out]; omega)]; exact N3.out)
  have E1 := Lib.hid hl1
  have E2 := Lib.hid hl2
  have E3 := Lib.hid hl3
  have E4 := Lib.hid hl4
  have EE := Lib.hid e4
  have SL := Lib.hid sl
  have LE1 := Lib.hid (show bs.length ≤ T by rw [HT.out]; omega)
  have FIT1 := Lib.hid (show 0 + bs.length ≤ l0.length by rw [N0.out, HT.out]; omega)
  have HP2 := Lib.hid (HP1.out.call BW.out)
  have HPD := Lib.hid hpad
  clear hl0 hl1 hl2 hl3 hl4 e1 e2 e3 e4 sl sl3 hsp hpad hpl hfz hfl
  go_upto_region 12 with (first | (refine wpCopy rfl _ _ rfl (some ⟨W1.heap.size, 0, none⟩) s T T m bs rfl rfl LE1.out W1.heap.size 0 l0 L0.out (fun _ => rfl) HP2.out.b FIT1.out W1.heap.size W1 BW.out (Nat.le_refl _) ?_; intro w3 L1' B3; have L1 := Lib.hid (show Blk w3 W1.heap.size 5 (blkB l1) by rw [E1.out]; exact L1'.out); clear L1') | fail)
  have a1 : (bs.length : Int) + 11 ≤ (T : Int) := by have := HT.out; omega
  have a2 : (bs.length + 11) ≤ T := by have := HT.out; omega
  go_upto_region 13 with fail
  obtain ⟨Zv, hZ⟩ : ∃ Zv, Zv = (hd.length + bd.length + 2) := ⟨_, rfl⟩
  have hTZ : T - (bs.length + 11) = Zv := by rw [hZ, HT.out]; omega
  obtain ⟨o, ho, hoS⟩ : ∃ o, (if T = (bs.length + 11) then some (⟨W1.heap.size, 0, none⟩ : Addr) else some ⟨W1.heap.size, (bs.length + 11), none⟩) = some ⟨W1.heap.size, o, none⟩ ∧ (0 < Zv → o = (bs.length + 11)) := by
    by_cases h : T = (bs.length + 11)
    · exact ⟨0, by rw [if_pos h], fun hz => by omega⟩
    · exact ⟨_, by rw [if_neg h], fun _ => rfl⟩
  rw [ho, hTZ]
  have HZ := Lib.hid hZ
  have HO := Lib.hid hoS
  have LE2 := Lib.hid (show hd.length ≤ Zv by omega)
  have PO2 := Lib.hid (show 0 < hd.length → (some ⟨W1.heap.size, o, none⟩ : Option Addr) = some ⟨W1.heap.size, (bs.length + 11), none⟩ from fun h => by rw [hoS (by omega)])
  have FIT2 := Lib.hid (show (bs.length + 11) + hd.length ≤ l1.length by rw [N1.out, HT.out]; omega)
  have HP3 := Lib.hid (HP1.out.call B3.out)
  have HK3 := Lib.hid (HK1.out.below B3.out)
  have d4 := HK3.out.cell 4
  clear ho hTZ hoS hZ a1 a2
  go_upto_region 14 with (first | (refine wpCopy rfl _ _ rfl (some ⟨W1.heap.size, o, none⟩) sh Zv Zv mh hd rfl rfl LE2.out W1.heap.size (bs.length + 11) l1 L1.out PO2.out HP3.out.h FIT2.out W1.heap.size W1 B3.out (Nat.le_refl _) ?_; intro w4 L2' B4; have L2 := Lib.hid (show Blk w4 W1.heap.size 5 (blkB l2) by rw [E2.out]; exact L2'.out); clear L2') | fail)
  clear d4
  have hoe : o = (bs.length + 11) := HO.out (by have := HZ.out; omega)
  subst hoe
  have b1 : (hd.length : Int) ≤ (Zv : Int) := by have := HZ.out; omega
  have b2 : (hd.length : Int) + 2 ≤ (Zv : Int) := by have := HZ.out; omega
  have b3 : hd.length + 2 ≤ Zv := by have := HZ.out; omega
  have zf : (Zv = hd.length) = False := by simp; have := HZ.out; omega
  have w2e : IntKind.i64.wrap ((hd.length : Int) + 2) = (hd.length : Int) + 2 := IntWalk.i64_in _ (by omega)
  have kp := put_c l2 W1.heap.size ((bs.length + 11) + hd.length) 2 (Zv - hd.length) 65460 w4 L2.out (by omega) (by have := N2.out; have := HT.out; omega)
  rw [← E3.out] at kp
  go_upto_region 17 with (first | (go_at_call 21; (with_reducible refine kp.mono ?_); rintro e w5 ⟨rfl, hb, ho⟩; have L3 := Lib.hid hb; have B5 := Lib.hid (B4.out.trans (ho.below (Nat.le_refl _) B4.out.size)); clear hb ho kp) | fail)
  clear b1 b2 b3 zf w2e
  have HP5 := Lib.hid (HP1.out.call B5.out)
  have HK5 := Lib.hid (HK1.out.below B5.out)
  have FIT3 := Lib.hid (show (bs.length + 11) + (hd.length + 2) + bd.length ≤ l3.length by rw [N3.out, HT.out]; omega)
  obtain ⟨b5, -⟩ : Blk w5.drew w.heap.size 29 #[.int .i64 i, .int .i64 j, .int .i64 k, .int .i64 l, .slice sh hd.length mh, .slice sb bd.length mb] ∧ True := ⟨HK5.out, trivial⟩
  have d5 := b5.cell 5
  have b1 : ((hd.length : Int) + 2) ≤ (Zv : Int) := by have := HZ.out; omega
  have b2 : (hd.length + 2) ≤ Zv := by have := HZ.out; omega
  have b3 : (0 : Int) ≤ (hd.length : Int) + 2 := by omega
  have b4 : ((hd.length : Int) + 2).toNat = (hd.length + 2) := by omega
  have L3d := Lib.hid (show Blk w5.drew W1.heap.size 5 (blkB l3) from L3.out)
  have B5d := Lib.hid (show Below W1.heap.size W1 w5.drew from B5.out.drew)
  have HD5 := Lib.hid (show HoldsB w5.drew sb bd from HP5.out.d)
  clear b5
  have hcase : ((Zv = (hd.length + 2)) = True ∧ bd.length = 0) ∨ ((Zv = (hd.length + 2)) = False ∧ 0 < bd.length) := by
    have := HZ.out
    by_cases h : Zv = (hd.length + 2)
    · left; exact ⟨by simp [h], by omega⟩
    · right; exact ⟨by simp [h], by omega⟩
  rcases hcase with ⟨zc, hbd⟩ | ⟨zc, hbd⟩
  · have HX2 := Lib.hid (show Value.slice (some (⟨W1.heap.size, (bs.length + 11), none⟩ : Addr)) (Zv - (hd.length + 2)) (Zv - (hd.length + 2)) = .slice (some ⟨W1.heap.size, (bs.length + 11), none⟩) bd.length bd.length by congr 1 <;> (have := HZ.out; omega))
    have PO3 := Lib.hid (show 0 < bd.length → (some ⟨W1.heap.size, (bs.length + 11), none⟩ : Option Addr) = some ⟨W1.heap.size, (bs.length + 11) + (hd.length + 2), none⟩ from fun h => by omega)
    have HBD := Lib.hid hbd
    clear hbd
    go_still_tail 5, rfl
    go_wp2_with (first | (refine wpCopy rfl _ _ rfl (some ⟨W1.heap.size, (bs.length + 11), none⟩) sb bd.length bd.length mb bd (Eq.trans rfl HX2.out) rfl (Nat.le_refl _) W1.heap.size ((bs.length + 11) + (hd.length + 2)) l3 L3d.out PO3.out HD5.out FIT3.out W1.heap.size W1 B5d.out (Nat.le_refl _) ?_; intro w6 L4' B6; have L4 := Lib.hid (show Blk w6 W1.heap.size 5 (blkB l4) by rw [E4.out]; exact L4'.out); clear L4') | fail)
    clear zc
    have hRZ : R.length = Zv := by rw [HRL.out, HZ.out]
    have hh : HoldsB w6 (some ⟨W1.heap.size, (bs.length + 11), none⟩) R := by
      by_cases hz : Zv = 0
      · exact .inl (List.length_eq_zero_iff.1 (by omega))
      · have hoo : (bs.length + 11) = (bs.length + 11) := rfl
        have h := holds_blk L4.out (bs.length + 11) Zv
        have e : (l4.drop (bs.length + 11)).take Zv = R := by
          rw [EE.out, ← SL.out, List.drop_left, List.take_of_length_le (by omega)]
        rw [e] at h
        rw [hoo]
        exact h
    have kchk := checksum_c R (some ⟨W1.heap.size, (bs.length + 11), none⟩) Zv w6 hh HRB.out (by have := HZ.out; omega)
    rw [hRZ] at kchk
    have HRZ := Lib.hid hRZ
    clear hRZ hh
    go_upto_region 20 with (first | (go_at_call 9; (with_reducible refine kchk.mono ?_); rintro e wn ⟨rfl, rfl⟩) | fail)
    obtain ⟨W7, hW7⟩ : ∃ W7, W7 = w6.alloc (.cells #[.int .i64 q, .int .i64 ((hd.length : Int) + (bd.length : Int) + 2), .int .i64 (Ck.crc R)] 62) := ⟨_, rfl⟩
    obtain ⟨g7, hg7⟩ : ∃ g7, g7 = w6.heap.size := ⟨_, rfl⟩
    have B7 := Lib.hid (show Below W1.heap.size W1 W7 by rw [hW7]; exact B6.out.alloc B6.out.size _)
    have L7 := Lib.hid (show Blk W7.drew W1.heap.size 5 (blkB l4) by rw [hW7]; exact L4.out.alloc _)
    have M7 := Lib.hid (show Blk W7.drew g7 62 #[.int .i64 q, .int .i64 ((hd.length : Int) + (bd.length : Int) + 2), .int .i64 (Ck.crc R)] by rw [hW7, hg7]; exact Blk.new _ _ _)
    rw [← hW7, ← hg7]
    clear hW7 hg7 kchk
    have m0 := M7.out.cell 0
    have m1 := M7.out.cell 1
    have m2 := M7.out.cell 2
    have zf2 : (T = bs.length) = False := by simp; have := HT.out; omega
    have a1 : (bs.length : Int) ≤ (T : Int) := by have := HT.out; omega
    have a2 : (bs.length : Int) + 11 ≤ (T : Int) := by have := HT.out; omega
    have a3 : bs.length + 11 ≤ T := by have := HT.out; omega
    have a4 : ((bs.length : Int) + 11).toNat = bs.length + 11 := by omega
    have a5 : (0 : Int) ≤ (bs.length : Int) + 11 := by omega
    have a6 : (bs.length : Int) ≤ (bs.length : Int) + 11 := by omega
    have a7 : bs.length + 11 - bs.length = 11 := by omega
    have hl4b : Mk.bytes l4 := by
      rw [EE.out]
      refine Mk.bytes_app (Mk.bytes_app HYB.out ?_) HRB.out
      rw [HPD.out]
      intro x hx
      simp at hx
      omega
    have kw := write_c l4 W1.heap.size bs.length (T - bs.length) q ((hd.length : Int) + (bd.length : Int) + 2) (Ck.crc R) W7.drew L7.out (by rw [N4.out]; omega) (by omega) hl4b
    have hr : ((hd.length : Int) + (bd.length : Int) + 2) = ((R.length : Nat) : Int) := by rw [HRL.out]; omega
    have hfin : l4.take bs.length ++ (mkB q ((hd.length : Int) + (bd.length : Int) + 2) (Ck.crc R) ++ l4.drop (bs.length + 11)) = X := by
      rw [HXE.out, EE.out, hr]
      have e1 : (bs ++ pad ++ R).take bs.length = bs := by rw [List.append_assoc, List.take_left]
      have e2 : (bs ++ pad ++ R).drop (bs.length + 11) = R := by
        have := SL.out
        rw [← this, List.drop_left]
      rw [e1, e2]
    rw [hfin] at kw
    have HXL := Lib.hid (show X.length = T by rw [HXE.out, List.length_append, List.length_append, mkB_len, HRL.out, HT.out]; omega)
    clear hfin hr hl4b
    go_still_tail 6, rfl
    go_wp2_with (first | (go_at_call 22; (with_reducible refine kw.mono ?_); rintro e w8 ⟨rfl, hb, ho⟩; have L8 := Lib.hid hb; have B8 := Lib.hid ((show Below W1.heap.size W1 W7.drew from B7.out.drew).trans (ho.below (Nat.le_refl _) B7.out.size)); clear hb ho kw) | fail)
    go_ret2
    refine ⟨_, rfl, ?_, HB1.out.trans (B8.out.mono HB1.out.size)⟩
    have h := blk_own (B := w.heap.size) L8.out HB1.out.size (by rw [HXL.out, HT.out]; unfold maxLen; omega)
    rw [HXL.out] at h ⊢
    exact h
  · have HX2 := Lib.hid (show Value.slice (some (⟨W1.heap.size, (bs.length + 11) + (hd.length + 2), none⟩ : Addr)) (Zv - (hd.length + 2)) (Zv - (hd.length + 2)) = .slice (some ⟨W1.heap.size, (bs.length + 11) + (hd.length + 2), none⟩) bd.length bd.length by congr 1 <;> (have := HZ.out; omega))
    have PO3 := Lib.hid (show 0 < bd.length → (some ⟨W1.heap.size, (bs.length + 11) + (hd.length + 2), none⟩ : Option Addr) = some ⟨W1.heap.size, (bs.length + 11) + (hd.length + 2), none⟩ from fun _ => rfl)
    have HBD := Lib.hid hbd
    clear hbd
    go_still_tail 5, rfl
    go_wp2_with (first | (refine wpCopy rfl _ _ rfl (some ⟨W1.heap.size, (bs.length + 11) + (hd.length + 2), none⟩) sb bd.length bd.length mb bd (Eq.trans rfl HX2.out) rfl (Nat.le_refl _) W1.heap.size ((bs.length + 11) + (hd.length + 2)) l3 L3d.out PO3.out HD5.out FIT3.out W1.heap.size W1 B5d.out (Nat.le_refl _) ?_; intro w6 L4' B6; have L4 := Lib.hid (show Blk w6 W1.heap.size 5 (blkB l4) by rw [E4.out]; exact L4'.out); clear L4') | fail)
    clear zc
    have hRZ : R.length = Zv := by rw [HRL.out, HZ.out]
    have hh : HoldsB w6 (some ⟨W1.heap.size, (bs.length + 11), none⟩) R := by
      by_cases hz : Zv = 0
      · exact .inl (List.length_eq_zero_iff.1 (by omega))
      · have hoo : (bs.length + 11) = (bs.length + 11) := rfl
        have h := holds_blk L4.out (bs.length + 11) Zv
        have e : (l4.drop (bs.length + 11)).take Zv = R := by
          rw [EE.out, ← SL.out, List.drop_left, List.take_of_length_le (by omega)]
        rw [e] at h
        rw [hoo]
        exact h
    have kchk := checksum_c R (some ⟨W1.heap.size, (bs.length + 11), none⟩) Zv w6 hh HRB.out (by have := HZ.out; omega)
    rw [hRZ] at kchk
    have HRZ := Lib.hid hRZ
    clear hRZ hh
    go_upto_region 20 with (first | (go_at_call 9; (with_reducible refine kchk.mono ?_); rintro e wn ⟨rfl, rfl⟩) | fail)
    obtain ⟨W7, hW7⟩ : ∃ W7, W7 = w6.alloc (.cells #[.int .i64 q, .int .i64 ((hd.length : Int) + (bd.length : Int) + 2), .int .i64 (Ck.crc R)] 62) := ⟨_, rfl⟩
    obtain ⟨g7, hg7⟩ : ∃ g7, g7 = w6.heap.size := ⟨_, rfl⟩
    have B7 := Lib.hid (show Below W1.heap.size W1 W7 by rw [hW7]; exact B6.out.alloc B6.out.size _)
    have L7 := Lib.hid (show Blk W7.drew W1.heap.size 5 (blkB l4) by rw [hW7]; exact L4.out.alloc _)
    have M7 := Lib.hid (show Blk W7.drew g7 62 #[.int .i64 q, .int .i64 ((hd.length : Int) + (bd.length : Int) + 2), .int .i64 (Ck.crc R)] by rw [hW7, hg7]; exact Blk.new _ _ _)
    rw [← hW7, ← hg7]
    clear hW7 hg7 kchk
    have m0 := M7.out.cell 0
    have m1 := M7.out.cell 1
    have m2 := M7.out.cell 2
    have zf2 : (T = bs.length) = False := by simp; have := HT.out; omega
    have a1 : (bs.length : Int) ≤ (T : Int) := by have := HT.out; omega
    have a2 : (bs.length : Int) + 11 ≤ (T : Int) := by have := HT.out; omega
    have a3 : bs.length + 11 ≤ T := by have := HT.out; omega
    have a4 : ((bs.length : Int) + 11).toNat = bs.length + 11 := by omega
    have a5 : (0 : Int) ≤ (bs.length : Int) + 11 := by omega
    have a6 : (bs.length : Int) ≤ (bs.length : Int) + 11 := by omega
    have a7 : bs.length + 11 - bs.length = 11 := by omega
    have hl4b : Mk.bytes l4 := by
      rw [EE.out]
      refine Mk.bytes_app (Mk.bytes_app HYB.out ?_) HRB.out
      rw [HPD.out]
      intro x hx
      simp at hx
      omega
    have kw := write_c l4 W1.heap.size bs.length (T - bs.length) q ((hd.length : Int) + (bd.length : Int) + 2) (Ck.crc R) W7.drew L7.out (by rw [N4.out]; omega) (by omega) hl4b
    have hr : ((hd.length : Int) + (bd.length : Int) + 2) = ((R.length : Nat) : Int) := by rw [HRL.out]; omega
    have hfin : l4.take bs.length ++ (mkB q ((hd.length : Int) + (bd.length : Int) + 2) (Ck.crc R) ++ l4.drop (bs.length + 11)) = X := by
      rw [HXE.out, EE.out, hr]
      have e1 : (bs ++ pad ++ R).take bs.length = bs := by rw [List.append_assoc, List.take_left]
      have e2 : (bs ++ pad ++ R).drop (bs.length + 11) = R := by
        have := SL.out
        rw [← this, List.drop_left]
      rw [e1, e2]
    rw [hfin] at kw
    have HXL := Lib.hid (show X.length = T by rw [HXE.out, List.length_append, List.length_append, mkB_len, HRL.out, HT.out]; omega)
    clear hfin hr hl4b
    go_still_tail 6, rfl
    go_wp2_with (first | (go_at_call 22; (with_reducible refine kw.mono ?_); rintro e w8 ⟨rfl, hb, ho⟩; have L8 := Lib.hid hb; have B8 := Lib.hid ((show Below W1.heap.size W1 W7.drew from B7.out.drew).trans (ho.below (Nat.le_refl _) B7.out.size)); clear hb ho kw) | fail)
    go_ret2
    refine ⟨_, rfl, ?_, HB1.out.trans (B8.out.mono HB1.out.size)⟩
    have h := blk_own (B := w.heap.size) L8.out HB1.out.size (by rw [HXL.out, HT.out]; unfold maxLen; omega)
    rw [HXL.out] at h ⊢
    exact h
set_option maxHeartbeats 4000000 in
theorem append_10 (i j k l : Int) (bs hd bd : List Int) (s sh sb : Option Addr) (m mh mb : Nat) (q : Int) (w : World) (hP : PkA w bs hd bd s sh sb m mh mb) (hq : seqB q = true) :
    Calls Try.prog 11 #[.slice s bs.length m, .agg (pkV i j k l hd bd sh sb mh mb), .bool true, .bool false, .int .i64 q] w (GivesBE (pka bs hd bd true false q) 0 w) := by
  unfold pkV
  obtain ⟨W0, hW0⟩ : ∃ W0, W0 = w.alloc (.cells #[.int .i64 i, .int .i64 j, .int .i64 k, .int .i64 l, .slice sh hd.length mh, .slice sb bd.length mb] 29) := ⟨_, rfl⟩
  have HB := Lib.hid (show Below w.heap.size w W0 by rw [hW0]; exact (Below.refl _ _).alloc (Nat.le_refl _) _)
  have HK := Lib.hid (show Blk W0 w.heap.size 29 #[.int .i64 i, .int .i64 j, .int .i64 k, .int .i64 l, .slice sh hd.length mh, .slice sb bd.length mb] by rw [hW0]; exact Blk.new _ _ _)
  have HW0 := Lib.hid hW0
  have HP := Lib.hid (hP.call HB.out)
  have c4 := HK.out.cell 4
  have c5 := HK.out.cell 5
  have hlp := hP.lp
  have hlb := hP.lb
  have ks := fun W => isSeq_c q W
  rw [hq] at ks
  have KS := Lib.hid ks
  have w1 : IntKind.i64.wrap ((hd.length : Int) + (bd.length : Int)) = (hd.length : Int) + bd.length := IntWalk.i64_in _ (by omega)
  obtain ⟨T, hT⟩ : ∃ T : Nat, T = (bs.length + 11) + (hd.length + bd.length) := ⟨_, rfl⟩
  have hTi : (bs.length : Int) + 11 + ((hd.length : Int) + (bd.length : Int)) = (T : Int) := by omega
  have HT := Lib.hid hT
  have HTI := Lib.hid hTi
  obtain ⟨X, hX⟩ : ∃ X, X = pka bs hd bd true false q := ⟨_, rfl⟩
  rw [← hX]
  obtain ⟨R, hR⟩ : ∃ R, R = rst hd bd false := ⟨_, rfl⟩
  have hXe : X = bs ++ (mkB q (R.length : Nat) (Ck.crc R) ++ R) := by rw [hX, pka, if_pos hq, hR]; rfl
  have hRe : R = hd ++ (([] : List Int) ++ bd) := by rw [hR]; rfl
  have hRl : R.length = (hd.length + bd.length) := by rw [hRe, List.length_append, List.length_append, List.length_nil]; omega
  have hRb : Mk.bytes R := by rw [hR]; exact rst_bytes hP.yh hP.yd _
  have HXE := Lib.hid hXe
  have HRE := Lib.hid hRe
  have HRL := Lib.hid hRl
  have HRB := Lib.hid hRb
  have HYB := Lib.hid hP.yb
  clear hP hW0 ks hT hX hTi hq hXe hRe hRl hRb hR
  go_enter Try.func11, Try.ntmps11
  go_upto_region 1 with fail
  rw [← HW0.out]
  go_quiet (fail)
  have HP1 := Lib.hid (HP.out.call (drewN_below' W0 nq))
  have HK1 := Lib.hid (HK.out.below (drewN_below' W0 nq))
  have HB1 := Lib.hid (HB.out.trans ((drewN_below' W0 nq).mono HB.out.size))
  generalize W0.drewN nq = W1 at *
  clear HP HK HB HW0 w1 c4 c5
  have d4 := HK1.out.cell 4
  have d5 := HK1.out.cell 5
  have hmk : ∀ W : World, (Instr.makeSlice 22 (.int .i64 ((bs.length : Int) + 11 + ((hd.length : Int) + (bd.length : Int)))) (.int .i64 ((bs.length : Int) + 11 + ((hd.length : Int) + (bd.length : Int))))).run Try.prog W = .ok (.slice (some ⟨W.heap.size, 0, none⟩) T T) (W.alloc (zU T)) := fun W => by rw [HTI.out]; exact mkU T (by have := HT.out; omega) W
  go_upto_region 11 with (first | (go_at_call 20; (with_reducible refine (KS.out _).mono ?_); rintro e wn ⟨rfl, rfl⟩) | fail)
  have BW := Lib.hid (show Below W1.heap.size W1 (W1.alloc (zU T)) from (Below.refl _ _).alloc (Nat.le_refl _) _)
  have L0 := Lib.hid (zU_blk W1 T)
  clear hmk d4 d5
  generalize W1.alloc (zU T) = W2 at *
  -- the lists, one behind the other
  obtain ⟨pad, hpad⟩ : ∃ x : List Int, x = List.replicate 11 0 := ⟨_, rfl⟩
  obtain ⟨fz, hfz⟩ : ∃ x : List Int, x = List.replicate 0 0 := ⟨_, rfl⟩
  have hpl : pad.length = 11 := by rw [hpad, List.length_replicate]
  have hfl : fz.length = 0 := by rw [hfz, List.length_replicate]
  have hsp : List.replicate T (0 : Int) = List.replicate bs.length 0 ++ (pad ++ (List.replicate hd.length 0 ++ (fz ++ List.replicate bd.length 0))) := by
    rw [hpad, hfz]
    simp only [List.replicate_append_replicate]
    congr 1
    rw [HT.out]; omega
  obtain ⟨l0, hl0⟩ : ∃ x : List Int, x = List.replicate T 0 := ⟨_, rfl⟩
  rw [← hl0] at L0 hsp
  obtain ⟨l1, hl1⟩ : ∃ x, x = lay l0 0 bs := ⟨_, rfl⟩
  have e1 : l1 = (bs ++ pad) ++ (List.replicate hd.length 0 ++ (fz ++ List.replicate bd.length 0)) := by
    rw [hl1, hsp]
    have := lay_at [] (List.replicate bs.length 0) (pad ++ (List.replicate hd.length 0 ++ (fz ++ List.replicate bd.length 0))) bs (by simp)
    simp only [List.nil_append, List.length_nil] at this
    rw [this, List.append_assoc]
  have sl : (bs ++ pad).length = (bs.length + 11) := by rw [List.length_append]; omega
  obtain ⟨l2, hl2⟩ : ∃ x, x = lay l1 (bs.length + 11) hd := ⟨_, rfl⟩
  have e2 : l2 = (bs ++ pad) ++ (hd ++ (fz ++ List.replicate bd.length 0)) := by
    rw [hl2, e1]
    have := lay_at (bs ++ pad) (List.replicate hd.length 0) (fz ++ List.replicate bd.length 0) hd (by simp)
    rwa [sl] at this
  obtain ⟨l3, hl3⟩ : ∃ x, x = l2 := ⟨_, rfl⟩
  have e3 : l3 = ((bs ++ pad) ++ hd ++ ([] : List Int)) ++ List.replicate bd.length 0 := by
    rw [hl3, e2, show fz = [] from List.length_eq_zero_iff.1 hfl]; simp
  have sl3 : ((bs ++ pad) ++ hd ++ ([] : List Int)).length = (bs.length + 11) + hd.length := by rw [List.length_append, List.length_append, sl, List.length_nil]; omega
  obtain ⟨l4, hl4⟩ : ∃ x, x = lay l3 ((bs.length + 11) + hd.length) bd := ⟨_, rfl⟩
  have e4 : l4 = (bs ++ pad) ++ R := by
    rw [hl4, e3]
    have := lay_at ((bs ++ pad) ++ hd ++ ([] : List Int)) (List.replicate bd.length 0) [] bd (by simp)
    rw [sl3, List.append_nil (List.replicate bd.length (0 : Int)), List.append_nil bd] at this
    rw [this, HRE.out]
    simp
  have N0 := Lib.hid (show l0.length = T by rw [hl0]; simp)
  have N1 := Lib.hid (show l1.length = T by rw [hl1, lay_len _ _ _ (by rw [N0.out, HT.out]; omega)]; exact N0.out)
  have N2 := Lib.hid (show l2.length = T by rw [hl2, lay_len _ _ _ (by rw [N1.out, HT.out]; omega)]; exact N1.out)
  have N3 := Lib.hid (show l3.length = T by rw [hl3]; exact N2.out)
  have N4 := Lib.hid (show l4.length = T by rw [hl4, lay_len _ _ _ (by rw [N3.out, HT.out]; omega)]; exact N3.out)
  have E1 := Lib.hid hl1
  have E2 := Lib.hid hl2
  have E3 := Lib.hid hl3
  have E4 := Lib.hid hl4
  have EE := Lib.hid e4
  have SL := Lib.hid sl
  have LE1 := Lib.hid (show bs.length ≤ T by rw [HT.out]; omega)
  have FIT1 := Lib.hid (show 0 + bs.length ≤ l0.length by rw [N0.out, HT.out]; omega)
  have HP2 := Lib.hid (HP1.out.call BW.out)
  have HPD := Lib.hid hpad
  clear hl0 hl1 hl2 hl3 hl4 e1 e2 e3 e4 sl sl3 hsp hpad hpl hfz hfl
  go_upto_region 12 with (first | (refine wpCopy rfl _ _ rfl (some ⟨W1.heap.size, 0, none⟩) s T T m bs rfl rfl LE1.out W1.heap.size 0 l0 L0.out (fun _ => rfl) HP2.out.b FIT1.out W1.heap.size W1 BW.out (Nat.le_refl _) ?_; intro w3 L1' B3; have L1 := Lib.hid (show Blk w3 W1.heap.size 5 (blkB l1) by rw [E1.out]; exact L1'.out); clear L1') | fail)
  have a1 : (bs.length : Int) + 11 ≤ (T : Int) := by have := HT.out; omega
  have a2 : (bs.length + 11) ≤ T := by have := HT.out; omega
  go_upto_region 13 with fail
  obtain ⟨Zv, hZ⟩ : ∃ Zv, Zv = (hd.length + bd.length) := ⟨_, rfl⟩
  have hTZ : T - (bs.length + 11) = Zv := by rw [hZ, HT.out]; omega
  obtain ⟨o, ho, hoS⟩ : ∃ o, (if T = (bs.length + 11) then some (⟨W1.heap.size, 0, none⟩ : Addr) else some ⟨W1.heap.size, (bs.length + 11), none⟩) = some ⟨W1.heap.size, o, none⟩ ∧ (0 < Zv → o = (bs.length + 11)) := by
    by_cases h : T = (bs.length + 11)
    · exact ⟨0, by rw [if_pos h], fun hz => by omega⟩
    · exact ⟨_, by rw [if_neg h], fun _ => rfl⟩
  rw [ho, hTZ]
  have HZ := Lib.hid hZ
  have HO := Lib.hid hoS
  have LE2 := Lib.hid (show hd.length ≤ Zv by omega)
  have PO2 := Lib.hid (show 0 < hd.length → (some ⟨W1.heap.size, o, none⟩ : Option Addr) = some ⟨W1.heap.size, (bs.length + 11), none⟩ from fun h => by rw [hoS (by omega)])
  have FIT2 := Lib.hid (show (bs.length + 11) + hd.length ≤ l1.length by rw [N1.out, HT.out]; omega)
  have HP3 := Lib.hid (HP1.out.call B3.out)
  have HK3 := Lib.hid (HK1.out.below B3.out)
  have d4 := HK3.out.cell 4
  clear ho hTZ hoS hZ a1 a2
  go_upto_region 14 with (first | (refine wpCopy rfl _ _ rfl (some ⟨W1.heap.size, o, none⟩) sh Zv Zv mh hd rfl rfl LE2.out W1.heap.size (bs.length + 11) l1 L1.out PO2.out HP3.out.h FIT2.out W1.heap.size W1 B3.out (Nat.le_refl _) ?_; intro w4 L2' B4; have L2 := Lib.hid (show Blk w4 W1.heap.size 5 (blkB l2) by rw [E2.out]; exact L2'.out); clear L2') | fail)
  clear d4
  have L3 := Lib.hid (show Blk w4 W1.heap.size 5 (blkB l3) by rw [E3.out]; exact L2.out)
  have B5 := Lib.hid B4.out
  obtain ⟨w5, hw5⟩ : ∃ w5, w5 = w4 := ⟨_, rfl⟩
  rw [← hw5] at L3 B5
  go_upto_region 17 with fail
  rw [← hw5]
  clear hw5
  have HP5 := Lib.hid (HP1.out.call B5.out)
  have HK5 := Lib.hid (HK1.out.below B5.out)
  have FIT3 := Lib.hid (show (bs.length + 11) + hd.length + bd.length ≤ l3.length by rw [N3.out, HT.out]; omega)
  obtain ⟨b5, -⟩ : Blk w5.drew w.heap.size 29 #[.int .i64 i, .int .i64 j, .int .i64 k, .int .i64 l, .slice sh hd.length mh, .slice sb bd.length mb] ∧ True := ⟨HK5.out, trivial⟩
  have d5 := b5.cell 5
  have b1 : ((hd.length : Int)) ≤ (Zv : Int) := by have := HZ.out; omega
  have b2 : hd.length ≤ Zv := by have := HZ.out; omega
  have b3 : (0 : Int) ≤ (hd.length : Int) := by omega
  have b4 : ((hd.length : Int)).toNat = hd.length := by omega
  have L3d := Lib.hid (show Blk w5.drew W1.heap.size 5 (blkB l3) from L3.out)
  have B5d := Lib.hid (show Below W1.heap.size W1 w5.drew from B5.out.drew)
  have HD5 := Lib.hid (show HoldsB w5.drew sb bd from HP5.out.d)
  clear b5
  have hcase : ((Zv = hd.length) = True ∧ bd.length = 0) ∨ ((Zv = hd.length) = False ∧ 0 < bd.length) := by
    have := HZ.out
    by_cases h : Zv = hd.length
    · left; exact ⟨by simp [h], by omega⟩
    · right; exact ⟨by simp [h], by omega⟩
  rcases hcase with ⟨zc, hbd⟩ | ⟨zc, hbd⟩
  · have HX2 := Lib.hid (show Value.slice (some (⟨W1.heap.size, o, none⟩ : Addr)) (Zv - hd.length) (Zv - hd.length) = .slice (some ⟨W1.heap.size, o, none⟩) bd.length bd.length by congr 1 <;> (have := HZ.out; omega))
    have PO3 := Lib.hid (show 0 < bd.length → (some ⟨W1.heap.size, o, none⟩ : Option Addr) = some ⟨W1.heap.size, (bs.length + 11) + hd.length, none⟩ from fun h => by omega)
    have HBD := Lib.hid hbd
    clear hbd
    go_still_tail 5, rfl
    go_wp2_with (first | (refine wpCopy rfl _ _ rfl (some ⟨W1.heap.size, o, none⟩) sb bd.length bd.length mb bd (Eq.trans rfl HX2.out) rfl (Nat.le_refl _) W1.heap.size ((bs.length + 11) + hd.length) l3 L3d.out PO3.out HD5.out FIT3.out W1.heap.size W1 B5d.out (Nat.le_refl _) ?_; intro w6 L4' B6; have L4 := Lib.hid (show Blk w6 W1.heap.size 5 (blkB l4) by rw [E4.out]; exact L4'.out); clear L4') | fail)
    clear zc
    have hRZ : R.length = Zv := by rw [HRL.out, HZ.out]
    have hh : HoldsB w6 (some ⟨W1.heap.size, o, none⟩) R := by
      by_cases hz : Zv = 0
      · exact .inl (List.length_eq_zero_iff.1 (by omega))
      · have hoo : o = (bs.length + 11) := HO.out (by have := HZ.out; omega)
        have h := holds_blk L4.out (bs.length + 11) Zv
        have e : (l4.drop (bs.length + 11)).take Zv = R := by
          rw [EE.out, ← SL.out, List.drop_left, List.take_of_length_le (by omega)]
        rw [e] at h
        rw [hoo]
        exact h
    have kchk := checksum_c R (some ⟨W1.heap.size, o, none⟩) Zv w6 hh HRB.out (by have := HZ.out; omega)
    rw [hRZ] at kchk
    have HRZ := Lib.hid hRZ
    clear hRZ hh
    go_upto_region 20 with (first | (go_at_call 9; (with_reducible refine kchk.mono ?_); rintro e wn ⟨rfl, rfl⟩) | fail)
    obtain ⟨W7, hW7⟩ : ∃ W7, W7 = w6.alloc (.cells #[.int .i64 q, .int .i64 ((hd.length : Int) + (bd.length : Int)), .int .i64 (Ck.crc R)] 62) := ⟨_, rfl⟩
    obtain ⟨g7, hg7⟩ : ∃ g7, g7 = w6.heap.size := ⟨_, rfl⟩
    have B7 := Lib.hid (show Below W1.heap.size W1 W7 by rw [hW7]; exact B6.out.alloc B6.out.size _)
    have L7 := Lib.hid (show Blk W7.drew W1.heap.size 5 (blkB l4) by rw [hW7]; exact L4.out.alloc _)
    have M7 := Lib.hid (show Blk W7.drew g7 62 #[.int .i64 q, .int .i64 ((hd.length : Int) + (bd.length : Int)), .int .i64 (Ck.crc R)] by rw [hW7, hg7]; exact Blk.new _ _ _)
    rw [← hW7, ← hg7]
    clear hW7 hg7 kchk
    have m0 := M7.out.cell 0
    have m1 := M7.out.cell 1
    have m2 := M7.out.cell 2
    have zf2 : (T = bs.length) = False := by simp; have := HT.out; omega
    have a1 : (bs.length : Int) ≤ (T : Int) := by have := HT.out; omega
    have a2 : (bs.length : Int) + 11 ≤ (T : Int) := by have := HT.out; omega
    have a3 : bs.length + 11 ≤ T := by have := HT.out; omega
    have a4 : ((bs.length : Int) + 11).toNat = bs.length + 11 := by omega
    have a5 : (0 : Int) ≤ (bs.length : Int) + 11 := by omega
    have a6 : (bs.length : Int) ≤ (bs.length : Int) + 11 := by omega
    have a7 : bs.length + 11 - bs.length = 11 := by omega
    have hl4b : Mk.bytes l4 := by
      rw [EE.out]
      refine Mk.bytes_app (Mk.bytes_app HYB.out ?_) HRB.out
      rw [HPD.out]
      intro x hx
      simp at hx
      omega
    have kw := write_c l4 W1.heap.size bs.length (T - bs.length) q ((hd.length : Int) + (bd.length : Int)) (Ck.crc R) W7.drew L7.out (by rw [N4.out]; omega) (by omega) hl4b
    have hr : ((hd.length : Int) + (bd.length : Int)) = ((R.length : Nat) : Int) := by rw [HRL.out]; omega
    have hfin : l4.take bs.length ++ (mkB q ((hd.length : Int) + (bd.length : Int)) (Ck.crc R) ++ l4.drop (bs.length + 11)) = X := by
      rw [HXE.out, EE.out, hr]
      have e1 : (bs ++ pad ++ R).take bs.length = bs := by rw [List.append_assoc, List.take_left]
      have e2 : (bs ++ pad ++ R).drop (bs.length + 11) = R := by
        have := SL.out
        rw [← this, List.drop_left]
      rw [e1, e2]
    rw [hfin] at kw
    have HXL := Lib.hid (show X.length = T by rw [HXE.out, List.length_append, List.length_append, mkB_len, HRL.out, HT.out]; omega)
    clear hfin hr hl4b
    go_still_tail 6, rfl
    go_wp2_with (first | (go_at_call 22; (with_reducible refine kw.mono ?_); rintro e w8 ⟨rfl, hb, ho⟩; have L8 := Lib.hid hb; have B8 := Lib.hid ((show Below W1.heap.size W1 W7.drew from B7.out.drew).trans (ho.below (Nat.le_refl _) B7.out.size)); clear hb ho kw) | fail)
    go_ret2
    refine ⟨_, rfl, ?_, HB1.out.trans (B8.out.mono HB1.out.size)⟩
    have h := blk_own (B := w.heap.size) L8.out HB1.out.size (by rw [HXL.out, HT.out]; unfold maxLen; omega)
    rw [HXL.out] at h ⊢
    exact h
  · have HX2 := Lib.hid (show Value.slice (some (⟨W1.heap.size, o + hd.length, none⟩ : Addr)) (Zv - hd.length) (Zv - hd.length) = .slice (some ⟨W1.heap.size, o + hd.length, none⟩) bd.length bd.length by congr 1 <;> (have := HZ.out; omega))
    have PO3 := Lib.hid (show 0 < bd.length → (some ⟨W1.heap.size, o + hd.length, none⟩ : Option Addr) = some ⟨W1.heap.size, (bs.length + 11) + hd.length, none⟩ from fun _ => by rw [HO.out (by have := HZ.out; omega)])
    have HBD := Lib.hid hbd
    clear hbd
    go_still_tail 5, rfl
    go_wp2_with (first | (refine wpCopy rfl _ _ rfl (some ⟨W1.heap.size, o + hd.length, none⟩) sb bd.length bd.length mb bd (Eq.trans rfl HX2.out) rfl (Nat.le_refl _) W1.heap.size ((bs.length + 11) + hd.length) l3 L3d.out PO3.out HD5.out FIT3.out W1.heap.size W1 B5d.out (Nat.le_refl _) ?_; intro w6 L4' B6; have L4 := Lib.hid (show Blk w6 W1.heap.size 5 (blkB l4) by rw [E4.out]; exact L4'.out); clear L4') | fail)
    clear zc
    have hRZ : R.length = Zv := by rw [HRL.out, HZ.out]
    have hh : HoldsB w6 (some ⟨W1.heap.size, o, none⟩) R := by
      by_cases hz : Zv = 0
      · exact .inl (List.length_eq_zero_iff.1 (by omega))
      · have hoo : o = (bs.length + 11) := HO.out (by have := HZ.out; omega)
        have h := holds_blk L4.out (bs.length + 11) Zv
        have e : (l4.drop (bs.length + 11)).take Zv = R := by
          rw [EE.out, ← SL.out, List.drop_left, List.take_of_length_le (by omega)]
        rw [e] at h
        rw [hoo]
        exact h
    have kchk := checksum_c R (some ⟨W1.heap.size, o, none⟩) Zv w6 hh HRB.out (by have := HZ.out; omega)
    rw [hRZ] at kchk
    have HRZ := Lib.hid hRZ
    clear hRZ hh
    go_upto_region 20 with (first | (go_at_call 9; (with_reducible refine kchk.mono ?_); rintro e wn ⟨rfl, rfl⟩) | fail)
    obtain ⟨W7, hW7⟩ : ∃ W7, W7 = w6.alloc (.cells #[.int .i64 q, .int .i64 ((hd.length : Int) + (bd.length : Int)), .int .i64 (Ck.crc R)] 62) := ⟨_, rfl⟩
    obtain ⟨g7, hg7⟩ : ∃ g7, g7 = w6.heap.size := ⟨_, rfl⟩
    have B7 := Lib.hid (show Below W1.heap.size W1 W7 by rw [hW7]; exact B6.out.alloc B6.out.size _)
    have L7 := Lib.hid (show Blk W7.drew W1.heap.size 5 (blkB l4) by rw [hW7]; exact L4.out.alloc _)
    have M7 := Lib.hid (show Blk W7.drew g7 62 #[.int .i64 q, .int .i64 ((hd.length : Int) + (bd.length : Int)), .int .i64 (Ck.crc R)] by rw [hW7, hg7]; exact Blk.new _ _ _)
    rw [← hW7, ← hg7]
    clear hW7 hg7 kchk
    have m0 := M7.out.cell 0
    have m1 := M7.out.cell 1
    have m2 := M7.out.cell 2
    have zf2 : (T = bs.length) = False := by simp; have := HT.out; omega
    have a1 : (bs.length : Int) ≤ (T : Int) := by have := HT.out; omega
    have a2 : (bs.length : Int) + 11 ≤ (T : Int) := by have := HT.out; omega
    have a3 : bs.length + 11 ≤ T := by have := HT.out; omega
    have a4 : ((bs.length : Int) + 11).toNat = bs.length + 11 := by omega
    have a5 : (0 : Int) ≤ (bs.length : Int) + 11 := by omega
    have a6 : (bs.length : Int) ≤ (bs.length : Int) + 11 := by omega
    have a7 : bs.length + 11 - bs.length = 11 := by omega
    have hl4b : Mk.bytes l4 := by
      rw [EE.out]
      refine Mk.bytes_app (Mk.bytes_app HYB.out ?_) HRB.out
      rw [HPD.out]
      intro x hx
      simp at hx
      omega
    have kw := write_c l4 W1.heap.size bs.length (T - bs.length) q ((hd.length : Int) + (bd.length : Int)) (Ck.crc R) W7.drew L7.out (by rw [N4.out]; omega) (by omega) hl4b
    have hr : ((hd.length : Int) + (bd.length : Int)) = ((R.length : Nat) : Int) := by rw [HRL.out]; omega
    have hfin : l4.take bs.length ++ (mkB q ((hd.length : Int) + (bd.length : Int)) (Ck.crc R) ++ l4.drop (bs.length + 11)) = X := by
      rw [HXE.out, EE.out, hr]
      have e1 : (bs ++ pad ++ R).take bs.length = bs := by rw [List.append_assoc, List.take_left]
      have e2 : (bs ++ pad ++ R).drop (bs.length + 11) = R := by
        have := SL.out
        rw [← this, List.drop_left]
      rw [e1, e2]
    rw [hfin] at kw
    have HXL := Lib.hid (show X.length = T by rw [HXE.out, List.length_append, List.length_append, mkB_len, HRL.out, HT.out]; omega)
    clear hfin hr hl4b
    go_still_tail 6, rfl
    go_wp2_with (first | (go_at_call 22; (with_reducible refine kw.mono ?_); rintro e w8 ⟨rfl, hb, ho⟩; have L8 := Lib.hid hb; have B8 := Lib.hid ((show Below W1.heap.size W1 W7.drew from B7.out.drew).trans (ho.below (Nat.le_refl _) B7.out.size)); clear hb ho kw) | fail)
    go_ret2
    refine ⟨_, rfl, ?_, HB1.out.trans (B8.out.mono HB1.out.size)⟩
    have h := blk_own (B := w.heap.size) L8.out HB1.out.size (by rw [HXL.out, HT.out]; unfold maxLen; omega)
    rw [HXL.out] at h ⊢
    exact h
end Go.Proofs.Ytpnnmibdboelpaa
