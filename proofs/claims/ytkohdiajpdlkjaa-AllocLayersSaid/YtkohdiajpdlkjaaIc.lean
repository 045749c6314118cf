/-
  Layer 20: contract of the reference's Points.
-/
import Derived.Test.YtkohdiajpdlkjaaIb
set_option maxRecDepth 100000
namespace Go.Proofs.Ytkohdiajpdlkjaa
open Go.RowKit

set_option maxHeartbeats 8000000 in
theorem zpoints_c (R D : List Int) (n d mr md : Nat) (sr sd : Option Addr) (W : World) (hR : HoldsI W sr R) (hD : HoldsI W sd D) (hn : n = R.length) (hd : d = D.length) :
    Calls Try.prog 24 #[.agg #[.slice sr n mr, .slice sd d md]] W (GivesI (if VP R D then nats (hull R D) else []) W) := by
  obtain ⟨i0, hi, hz0, hz1, hz2⟩ := info_i
  obtain ⟨WA, hWA⟩ : ∃ x, x = W.alloc (.cells #[.slice sr n mr, .slice sd d md] 37) := ⟨_, rfl⟩
  have hB : Below W.heap.size W WA := by rw [hWA]; exact below_alloc (Below.refl _ W) _
  have hX : Blk WA W.heap.size 37 #[.slice sr n mr, .slice sd d md] := by rw [hWA]; exact Blk.new W _ _
  have HB := Lib.hid hB
  have HX := Lib.hid hX
  have HR := Lib.hid (hR.below hB (Nat.le_refl _))
  have HD := Lib.hid (hD.below hB (Nat.le_refl _))
  have HWA := Lib.hid hWA
  have kv := zvalid_c R D n d mr md sr sd WA HR.out HD.out hn hd
  obtain ⟨q0, q1⟩ := cv2 hX
  by_cases hv : VP R D
  · rw [if_pos hv]
    rw [decide_eq_true hv] at kv
    have hnd : d = n := by rw [hn, hd]; exact hv.1
    subst hnd
    have HV := Lib.hid hv
    have HDN := Lib.hid hd
    have H179 := Lib.hid (show 1 ≤ d ∧ d ≤ 179 by have := hv.1; have := hv.2.1; have := hv.2.2.1; omega)
    rw [hWA] at kv q0 q1
    clear hB hX hR hD hWA hn hd hv
    go_enter Try.func24, Try.ntmps24
    go_wp2_with (first | (go_at_call 14; (with_reducible refine kv.mono ?_); rintro e w1 ⟨rfl, hb⟩; have B1 := Lib.hid (show Below WA.heap.size WA w1 by rw [HWA.out]; exact hb); clear hb))
    clear q0 q1 kv
    have hI : Hid (PtZ R D WA w1 (.slice none 0 0) (.int .i64 0) []) :=
      ⟨World.ownsRow_nil _ _ _ _, B1.out, .inl ⟨0, D.length, rfl, rfl, by have := H179.out; have := HDN.out; omega, by omega, Nat.le_refl _⟩⟩
    go_loopw [3, 4] (fun p i wr => ∃ (L : List Nat), Hid (PtZ R D WA wr p i L)) (fun p _ _ => 180 - lenOf p)
    case atStart => exact ⟨[], hI⟩
    case round =>
      obtain ⟨L, hP⟩ := hrel
      obtain ⟨s, m, rfl⟩ := own_slice hP.out.1
      rcases hP.out.2.2 with ⟨last, f, rfl, h2, h3, h4, h5⟩ | ⟨rfl, h2, h3⟩
      · have HS := Lib.hid h2
        have HLT := Lib.hid h3
        have HF := Lib.hid h4
        have HLE := Lib.hid h5
        have HOW := Lib.hid hP.out.1
        have HBW := Lib.hid hP.out.2.1
        obtain ⟨q0, q1⟩ := cv2 (HX.out.below hP.out.2.1)
        have kn := fun (W1 : World) (hb : Below WA.heap.size WA W1) => znext_c R D HV.out d mr md last sr sd W1 HDN.out (HR.out.call hb) (HD.out.call hb) (by have := HLT.out; have := HDN.out; omega)
        have KN := Lib.hid kn
        have t0 : (0 : Int) ≤ (last : Int) := by omega
        generalize hl : L.length = l at *
        have HL := Lib.hid hl.symm
        have hl178 : Hid (l ≤ 178) := by have := HLE.out; have := HLT.out; have := H179.out; have := HDN.out; exact (show l ≤ 178 by omega)
        obtain ⟨q, hq⟩ : ∃ q, q = nxt R D last := ⟨_, rfl⟩
        rw [← hq] at KN
        have HQ := Lib.hid hq
        clear kn h2 h3 h4 h5 hl hP hq
        go_wp2_with (first | (at_builtin; refine wpList_append_own_at _ rfl _ _ 25 rfl WA.heap.size 3 i0 (.int .i64 0) 1 8 Try.underlying25 hi hz0 hz1 hz2 rfl (by decide) _ l _ rfl (own_below HOW.out ((Below.refl _ _).alloc (Nat.le_refl _) _)) ⟨wr.heap.size, 0, none⟩ 1 1 [.int .i64 (last : Int)] rfl rfl (one_new8 _ _ _) (by intro u hu; simp at hu; subst hu; rfl) (by have := hl178.out; unfold maxLen; omega) (by have := hl178.out; omega) (by have := HBW.out.size; simp; omega) ?_))
        intro v' w3 hown hgrow _ _
        obtain ⟨s5, m5, rfl⟩ := own_slice hown
        have hbb : Below WA.heap.size WA w3 := (HBW.out.alloc HBW.out.size (.cells #[.int .i64 (last : Int)] 3)).grown hgrow (by have := HBW.out.size; simp; omega) fun k hk => (own_foot HOW.out hk).1
        have HOWN := Lib.hid hown
        have HGR := Lib.hid hgrow
        obtain ⟨q0, q1⟩ := cv2 (HX.out.below hbb)
        have kn := KN.out w3 hbb
        clear hown hgrow hbb
        unfold outI at kn
        generalize hz : (if q = last then -1 else (q : Int)) = z at *
        have HZ := Lib.hid hz
        clear hz
        go_wp2_with (first | (go_at_call 32; (with_reducible refine kn.mono ?_); rintro e w4 ⟨rfl, hb4⟩; have B4 := Lib.hid hb4; clear hb4))
        go_roundw
        case rel =>
          have ho := HOW.out
          have hn := HOWN.out
          have hg := HGR.out
          rw [HL.out] at ho hn hg
          have h9 := PtZ.grow ho HBW.out HS.out HLT.out HF.out (by have := HLE.out; have := HL.out; omega) hn hg B4.out HQ.out
          rw [HZ.out, ← HL.out] at h9
          exact ⟨L ++ [last], h9⟩
        case measure => have := hl178.out; simp [lenOf]; omega
      · have ho := own_holds (L := L) hP.out.1
        have HH := Lib.hid ho.2
        have HOB := Lib.hid (own_base hP.out.1)
        have HCAP := Lib.hid (show L.length ≤ m by have := own_cap hP.out.1; have := ho.1; omega)
        have HBW := Lib.hid hP.out.2.1
        have HS := Lib.hid h2
        clear h2 h3 hP ho
        go_wp2_with fail
        go_ret
        exact ⟨s, m, by show Ending.returned (.slice s L.length m) = _; rw [HS.out, nats_len], by rw [HS.out]; exact HH.out, below_call HB.out HBW.out, by rw [HS.out, nats_len]; exact HCAP.out, fun b o e => Nat.le_trans HB.out.size (HOB.out b o e)⟩
  · rw [if_neg hv]
    rw [decide_eq_false hv] at kv
    rw [hWA] at kv q0 q1
    clear hv hB hX hR hD hWA hn hd
    go_enter Try.func24, Try.ntmps24
    go_wp2_with (first | (go_at_call 14; (with_reducible refine kv.mono ?_); rintro e w1 ⟨rfl, hb⟩; have B1 := Lib.hid (show Below WA.heap.size WA w1 by rw [HWA.out]; exact hb); clear hb))
    go_ret
    exact ⟨none, 0, rfl, .inl rfl, below_call HB.out B1.out, Nat.le_refl _, fun b o e => by simp at e⟩
end Go.Proofs.Ytkohdiajpdlkjaa
