/-
  Layer 28: the chapter's examples hold.
-/
import Derived.Test.YtagfmmkhgggfmaaMw
import Derived.Lib.SlBytesConst
import Derived.Lib.SmallJoins
set_option maxRecDepth 100000
namespace Go.Proofs.Ytagfmmkhgggfmaa
open Go.RowKit

theorem ex_ap : Mk.ap [] 65444 [104, 105] = [255, 164, 0, 4, 104, 105] := by kernel_rfl
theorem ex_ape : Mk.apE 65444 [104, 105] = 0 := by kernel_rfl
theorem ex_al : Mk.al [255, 160, 255, 164, 0, 4, 104, 105, 255, 175] 11 0 = ⟨[(65440, []), (65444, [104, 105])], 8, 0⟩ := by kernel_rfl
theorem ex_r1 : Mk.rs [255, 164, 0, 1] 0 = ⟨0, [], 0, 4⟩ := by kernel_rfl
theorem ex_r2 : Mk.rs [255, 179, 0, 2] 0 = ⟨0, [], 0, 11⟩ := by kernel_rfl
theorem ex_un : Mk.un [] 258 2 = [1, 2] := by kernel_rfl
theorem ex_une : Mk.unE 258 2 = 0 := by kernel_rfl
theorem ex_s1 : strOfNums [255, 164, 0, 4, 104, 105] = ⟨#[255, 164, 0, 4, 104, 105]⟩ := by kernel_rfl
theorem ex_s2 : strOfNums [1, 2] = ⟨#[1, 2]⟩ := by kernel_rfl
theorem bytes_of (l : List Int) (h : l.all (fun x => decide (0 ≤ x) && decide (x ≤ 255)) = true) : Mk.bytes l := by
  intro x hx
  have := List.all_eq_true.1 h x hx
  simpa using this
set_option maxHeartbeats 2000000 in
theorem ex28_c (w : World) : Calls Try.prog 14 #[] w fun e w' => e = .returned (.bool true) ∧ Below w.heap.size w w' := by
  have k1 := fun (W : World) (s : Option Addr) (m : Nat) (hP : HoldsB W s [104, 105]) (hs : s = none → ([104, 105] : List Int) = [] ∧ m = 0) => append_c [] none 0 65444 [104, 105] s m W (.inl rfl) (fun _ => ⟨rfl, rfl⟩) (by simp) hP hs (by simp)
  have k2 := fun (W : World) (s : Option Addr) (m : Nat) (hH : HoldsB W s [255, 160, 255, 164, 0, 4, 104, 105, 255, 175]) (hm : 10 ≤ m) (hl : m ≤ maxLen) => all_c [255, 160, 255, 164, 0, 4, 104, 105, 255, 175] s m 0 W hH (bytes_of _ rfl) hm (by simp) hl
  have k3 := fun (W : World) (s : Option Addr) (m : Nat) (hH : HoldsB W s [255, 164, 0, 1]) (hm : 4 ≤ m) (hl : m ≤ maxLen) => read_c [255, 164, 0, 1] s m 0 W hH (bytes_of _ rfl) hm (by simp) hl
  have k4 := fun (W : World) (s : Option Addr) (m : Nat) (hH : HoldsB W s [255, 179, 0, 2]) (hm : 4 ≤ m) (hl : m ≤ maxLen) => read_c [255, 179, 0, 2] s m 0 W hH (bytes_of _ rfl) hm (by simp) hl
  have k5 := fun (W : World) => uint_c [] none 0 258 2 W (.inl rfl) (fun _ => ⟨rfl, rfl⟩) (by simp)
  rw [ex_ap, ex_ape] at k1
  simp only [List.length_cons, List.length_nil, Nat.zero_add, Nat.reduceAdd, ex_al, ex_r1, ex_r2, ex_un, ex_une] at k2 k3 k4 k5 k1
  have K1 := Lib.hid k1
  have K2 := Lib.hid k2
  have K3 := Lib.hid k3
  have K4 := Lib.hid k4
  have K5 := Lib.hid k5
  clear k1 k2 k3 k4 k5
  have kc := Lib.run_convert_bytes_const (P := Try.prog) w 24 5 #[.int .u8 104, .int .u8 105] 2 2 Try.underlying24 Try.underlying5
  have HM := Lib.hid (show HoldsB (w.alloc (.cells #[.int .u8 104, .int .u8 105] 5 (2, 3))) (some ⟨w.heap.size, 0, none⟩) [104, 105] from .inr ⟨w.heap.size, 0, rfl, fun k hk => by
    rw [World.cell?_alloc_mark]
    match k, hk with
    | 0, _ => rfl
    | 1, _ => rfl⟩)
  have HM0 := Lib.hid (show Below w.heap.size w (w.alloc (.cells #[.int .u8 104, .int .u8 105] 5 (2, 3))) from (Below.refl _ _).alloc (Nat.le_refl _) _)
  have K2' := Lib.hid (show ∀ W : World, Calls Try.prog 19 #[.slice (some ⟨W.heap.size, 0, none⟩) 10 10, .int .i64 0] (W.alloc (.cells #[.int .u8 255, .int .u8 160, .int .u8 255, .int .u8 164, .int .u8 0, .int .u8 4, .int .u8 104, .int .u8 105, .int .u8 255, .int .u8 175] 5)) (GivesAl ⟨[(65440, []), (65444, [104, 105])], 8, 0⟩ (W.alloc (.cells #[.int .u8 255, .int .u8 160, .int .u8 255, .int .u8 164, .int .u8 0, .int .u8 4, .int .u8 104, .int .u8 105, .int .u8 255, .int .u8 175] 5))) from fun W => K2.out _ _ 10 (holdsB_new W [255, 160, 255, 164, 0, 4, 104, 105, 255, 175]) (Nat.le_refl _) (by decide))
  have K3' := Lib.hid (show ∀ W : World, Calls Try.prog 17 #[.slice (some ⟨W.heap.size, 0, none⟩) 4 4, .int .i64 0] (W.alloc (.cells #[.int .u8 255, .int .u8 164, .int .u8 0, .int .u8 1] 5)) (GivesSeg ⟨0, [], 0, 4⟩ (W.alloc (.cells #[.int .u8 255, .int .u8 164, .int .u8 0, .int .u8 1] 5))) from fun W => K3.out _ _ 4 (holdsB_new W [255, 164, 0, 1]) (Nat.le_refl _) (by decide))
  have K4' := Lib.hid (show ∀ W : World, Calls Try.prog 17 #[.slice (some ⟨W.heap.size, 0, none⟩) 4 4, .int .i64 0] (W.alloc (.cells #[.int .u8 255, .int .u8 179, .int .u8 0, .int .u8 2] 5)) (GivesSeg ⟨0, [], 0, 11⟩ (W.alloc (.cells #[.int .u8 255, .int .u8 179, .int .u8 0, .int .u8 2] 5))) from fun W => K4.out _ _ 4 (holdsB_new W [255, 179, 0, 2]) (Nat.le_refl _) (by decide))
  clear K2 K3 K4
  go_enter Try.func14, Try.ntmps14
  go_upto_region 2 with (first | (go_at_call 15; (with_reducible refine (K1.out _ (some ⟨w.heap.size, 0, none⟩) 2 HM.out (by simp)).mono ?_); rintro e w1 ⟨v1, rfl, ho, hb⟩; obtain ⟨_, s1, m1, rfl, hh, _, _⟩ := HoldsB.of_own ho; have H1 := Lib.hid hh; have HB1 := Lib.hid (HM0.out.trans (hb.mono HM0.out.size)); clear ho hb hh) | fail)
  clear kc
  go_upto_region 3 with (first | (go_at_call 19; (with_reducible refine (K2'.out _).mono ?_); rintro e w2 ⟨v2, Q2, rfl, ho, hs, hb⟩; obtain ⟨s2, m2, rfl, _⟩ := own_holdsS ho hs; have hb' := ((Below.refl _ w1).alloc (Nat.le_refl _) _).trans (hb.mono (by simp)); have H2 := Lib.hid (H1.out.call hb'); have HB2 := Lib.hid (HB1.out.trans (hb'.mono HB1.out.size)); clear ho hb hs hb') | fail)
  go_upto_region 4 with (first | (go_at_call 17; (with_reducible refine (K3'.out _).mono ?_); rintro e w3 ⟨v3, rfl, ho, hb⟩; obtain ⟨_, s3, m3, rfl, hh, _, _⟩ := HoldsB.of_own ho; have hb' := ((Below.refl _ w2).alloc (Nat.le_refl _) _).trans (hb.mono (by simp)); have H3 := Lib.hid ((H2.out.call hb').call ((Below.refl _ _).alloc (Nat.le_refl _) (.cells #[.int .i64 0, .slice s3 0 m3] 26))); have HB3 := Lib.hid ((HB2.out.trans (hb'.mono HB2.out.size)).alloc (Nat.le_trans HB2.out.size hb'.size) (.cells #[.int .i64 0, .slice s3 0 m3] 26)); clear ho hb hb' hh) | fail)
  generalize w3.alloc (.cells #[.int .i64 0, .slice s3 0 m3] 26) = W3 at *
  go_upto_region 5 with (first | (go_at_call 17; (with_reducible refine (K4'.out _).mono ?_); rintro e w4 ⟨v4, rfl, ho, hb⟩; obtain ⟨_, s4, m4, rfl, hh, _, _⟩ := HoldsB.of_own ho; have hb' := ((Below.refl _ W3).alloc (Nat.le_refl _) _).trans (hb.mono (by simp)); have H4 := Lib.hid ((H3.out.call hb').call ((Below.refl _ _).alloc (Nat.le_refl _) (.cells #[.int .i64 0, .slice s4 0 m4] 26))); have HB4 := Lib.hid ((HB3.out.trans (hb'.mono HB3.out.size)).alloc (Nat.le_trans HB3.out.size hb'.size) (.cells #[.int .i64 0, .slice s4 0 m4] 26)); clear ho hb hb' hh) | fail)
  go_upto_region 6 with (first | (go_at_call 23; (with_reducible refine (K5.out _).mono ?_); rintro e w5 ⟨v5, rfl, ho, hb⟩; obtain ⟨_, s5, m5, rfl, hh, _, _⟩ := HoldsB.of_own ho; have cv5 := conv_b _ _ s5 m5 hh; have cv1 := conv_b _ _ s1 m1 (H4.out.call hb); rw [ex_s1] at cv1; rw [ex_s2] at cv5; simp only [List.length_cons, List.length_nil, Nat.zero_add, Nat.reduceAdd] at cv1 cv5; have HB5 := Lib.hid (HB4.out.trans (hb.mono HB4.out.size)); clear ho hb hh) | fail)
  go_wp2_with fail
  go_ret
  exact ⟨rfl, HB5.out⟩
end Go.Proofs.Ytagfmmkhgggfmaa
