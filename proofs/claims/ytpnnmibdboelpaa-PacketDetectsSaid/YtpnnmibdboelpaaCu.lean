/-
  Layer 27: the chapter's examples hold.
-/
import Derived.Test.YtpnnmibdboelpaaCt
import Derived.Test.YtpnnmibdboelpaaCl
import Derived.Lib.SlBytesConst
import Derived.Lib.SmallJoins
set_option maxRecDepth 100000
namespace Go.Proofs.Ytpnnmibdboelpaa
open Go.RowKit

theorem ex_a : pka [] [0] [] true true 3 = [255, 179, 0, 3, 0, 0, 0, 3, 40, 60, 28, 0, 255, 180] := by decide
theorem ex_c1 : Ck.crc [49, 50, 51, 52, 53, 54, 55, 56, 57] = 10673 := by decide
theorem ex_c0 : Ck.crc [] = 65535 := by decide
theorem ex_f0 : fr [255, 179, 0, 3, 0, 0, 0, 3, 40, 60, 28, 0, 255, 180] 0 = ⟨3, 11, 14, 0⟩ := by kernel_rfl
theorem ex_f1 : fr [255, 179, 0, 3, 0, 0, 0, 3, 40, 60, 28, 0, 255, 180] 1 = ⟨0, 0, 0, 11⟩ := by kernel_rfl
theorem ex_rs : rs ([255, 179] ++ [255, 179, 0, 3, 0, 0, 0, 3, 40, 60, 28, 0, 255, 180]) 0 0 9 = ⟨2, 3, true⟩ := by kernel_rfl
theorem pke3 : pkE 3 = 0 := by decide
set_option maxHeartbeats 2000000 in
theorem ex27_c (w : World) : Calls Try.prog 8 #[] w fun e w' => e = .returned (.bool true) ∧ Below w.heap.size w w' := by
  have k1 : Calls Try.prog 11 #[.slice none 0 0, .agg #[.int .i64 0, .int .i64 0, .int .i64 0, .int .i64 0, .slice (some ⟨w.heap.size, 0, none⟩) 1 1, .slice none 0 0], .bool true, .bool true, .int .i64 3] (w.alloc (.cells #[.int .u8 0] 5)) (GivesBE [255, 179, 0, 3, 0, 0, 0, 3, 40, 60, 28, 0, 255, 180] 0 (w.alloc (.cells #[.int .u8 0] 5))) := by
    have h := append_c 0 0 0 0 [] [0] [] none (some ⟨w.heap.size, 0, none⟩) none 0 1 0 true true 3 (w.alloc (.cells #[.int .u8 0] 5)) ⟨.inl rfl, new1 w 0, .inl rfl, fun _ => ⟨rfl, rfl⟩, (by simp), fun _ => ⟨rfl, rfl⟩, bytes_of _ rfl, bytes_of _ rfl, bytes_of _ rfl, by simp, by simp⟩
    rw [ex_a, pke3] at h
    exact h
  have K2 := Lib.hid (show ∀ (W : World), Calls Try.prog 9 #[.slice (some ⟨W.heap.size, 0, none⟩) 9 9] (W.alloc (.cells #[.int .u8 49, .int .u8 50, .int .u8 51, .int .u8 52, .int .u8 53, .int .u8 54, .int .u8 55, .int .u8 56, .int .u8 57] 5 (9, 10))) (fun e w' => e = .returned (.int .i64 10673) ∧ W.alloc (.cells #[.int .u8 49, .int .u8 50, .int .u8 51, .int .u8 52, .int .u8 53, .int .u8 54, .int .u8 55, .int .u8 56, .int .u8 57] 5 (9, 10)) = w') from fun W => by
    have h := checksum_c [49, 50, 51, 52, 53, 54, 55, 56, 57] (some ⟨W.heap.size, 0, none⟩) 9 (W.alloc (.cells #[.int .u8 49, .int .u8 50, .int .u8 51, .int .u8 52, .int .u8 53, .int .u8 54, .int .u8 55, .int .u8 56, .int .u8 57] 5 (9, 10))) (.inr ⟨W.heap.size, 0, rfl, fun k hk => by
      rw [World.cell?_alloc_mark]
      match k, hk with
      | 0, _ => rfl
      | 1, _ => rfl
      | 2, _ => rfl
      | 3, _ => rfl
      | 4, _ => rfl
      | 5, _ => rfl
      | 6, _ => rfl
      | 7, _ => rfl
      | 8, _ => rfl⟩) (bytes_of _ rfl) (by simp)
    rw [ex_c1] at h
    exact h)
  have K3 := Lib.hid (show ∀ (W : World), Calls Try.prog 9 #[.slice none 0 0] W (fun e w' => e = .returned (.int .i64 65535) ∧ W = w') from fun W => by
    have h := checksum_c [] none 0 W (.inl rfl) (bytes_of _ rfl) (by simp)
    rw [ex_c0] at h
    exact h)
  have K4 := Lib.hid (show ∀ (W : World) (s : Option Addr) (m : Nat), HoldsB W s [255, 179, 0, 3, 0, 0, 0, 3, 40, 60, 28, 0, 255, 180] → 14 ≤ m → Calls Try.prog 14 #[.slice s 14 m, .int .i64 0] W (GivesFr ⟨3, 11, 14, 0⟩ W) from fun W s m h hm => by
    have h := frame_c [255, 179, 0, 3, 0, 0, 0, 3, 40, 60, 28, 0, 255, 180] s m 0 W h (bytes_of _ rfl) hm (by simp)
    rw [ex_f0] at h
    exact h)
  have K5 := Lib.hid (show ∀ (W : World) (s : Option Addr) (m : Nat), HoldsB W s [255, 179, 0, 3, 0, 0, 0, 3, 40, 60, 28, 0, 255, 180] → 14 ≤ m → Calls Try.prog 14 #[.slice s 14 m, .int .i64 1] W (GivesFr ⟨0, 0, 0, 11⟩ W) from fun W s m h hm => by
    have h := frame_c [255, 179, 0, 3, 0, 0, 0, 3, 40, 60, 28, 0, 255, 180] s m 1 W h (bytes_of _ rfl) hm (by simp)
    rw [ex_f1] at h
    exact h)
  have K6 := Lib.hid (show ∀ (W : World) (L : List Int) (s : Option Addr) (m : Nat), L = [255, 179] ++ [255, 179, 0, 3, 0, 0, 0, 3, 40, 60, 28, 0, 255, 180] → HoldsB W s L → L.length ≤ m → Calls Try.prog 16 #[.slice s L.length m, .int .i64 0, .int .i64 0, .int .i64 9] W (GivesRs ⟨2, 3, true⟩ W) from fun W L s m e h hm => by
    subst e
    have h := resync_c _ s m 0 0 9 W h (bytes_of _ rfl) hm (by simp)
    rw [ex_rs] at h
    exact h)
  have HB0 := Lib.hid (show Below w.heap.size w (w.alloc (.cells #[.int .u8 0] 5)) from (Below.refl _ _).alloc (Nat.le_refl _) _)
  have kc := fun (W : World) => Lib.run_convert_bytes_const (P := Try.prog) W 22 5 #[.int .u8 49, .int .u8 50, .int .u8 51, .int .u8 52, .int .u8 53, .int .u8 54, .int .u8 55, .int .u8 56, .int .u8 57] 9 9 Try.underlying22 Try.underlying5
  go_enter Try.func8, Try.ntmps8
  go_upto_region 2 with (first | (go_at_call 11; (with_reducible refine k1.mono ?_); rintro e w1 ⟨v1, rfl, ho, hb⟩; obtain ⟨_, s1, m1, rfl, hh, hm, _⟩ := HoldsB.of_own ho; have H1 := Lib.hid hh; have HB1 := Lib.hid (HB0.out.trans (hb.mono HB0.out.size)); have HM := Lib.hid (show 14 ≤ m1 from hm.1); have HN := Lib.hid hm; clear ho hb hh hm) | fail)
  go_upto_region 4 with (first | (go_at_call 9; (with_reducible refine (K2.out _).mono ?_); rintro e w2 ⟨rfl, rfl⟩) | (go_at_call 9; (with_reducible refine (K3.out _).mono ?_); rintro e w2 ⟨rfl, rfl⟩) | fail)
  have hb2 : Below w1.heap.size w1 (w1.alloc (.cells #[.int .u8 49, .int .u8 50, .int .u8 51, .int .u8 52, .int .u8 53, .int .u8 54, .int .u8 55, .int .u8 56, .int .u8 57] 5 (9, 10))) := (Below.refl _ _).alloc (Nat.le_refl _) _
  have HB2 := Lib.hid (HB1.out.trans (hb2.mono HB1.out.size))
  have H2 := Lib.hid (H1.out.call hb2)
  clear hb2 kc k1
  generalize (w1.alloc (.cells #[.int .u8 49, .int .u8 50, .int .u8 51, .int .u8 52, .int .u8 53, .int .u8 54, .int .u8 55, .int .u8 56, .int .u8 57] 5 (9, 10))) = W2 at *
  go_upto_region 5 with (first | (go_at_call 14; (with_reducible refine (K4.out _ _ _ H2.out HM.out).mono ?_); rintro e w3 ⟨rfl, hb⟩; have HB3 := Lib.hid (HB2.out.trans (hb.mono HB2.out.size)); have H3 := Lib.hid (H2.out.call hb); clear hb) | fail)
  have ha : Below w3.heap.size w3 (w3.alloc (.cells #[.int .i64 11, .int .i64 14] 36)) := (Below.refl _ _).alloc (Nat.le_refl _) _
  have HB4 := Lib.hid (HB3.out.trans (ha.mono HB3.out.size))
  have H4 := Lib.hid (H3.out.call ha)
  have HS := Lib.hid (show Blk (w3.alloc (.cells #[.int .i64 11, .int .i64 14] 36)) w3.heap.size 36 #[.int .i64 11, .int .i64 14] from Blk.new _ _ _)
  clear ha
  generalize w3.alloc (.cells #[.int .i64 11, .int .i64 14] 36) = W4 at *
  generalize w3.heap.size = g at *
  go_upto_region 6 with (first | (go_at_call 14; (with_reducible refine (K5.out _ _ _ H4.out HM.out).mono ?_); rintro e w5 ⟨rfl, hb⟩; have HB5 := Lib.hid (HB4.out.trans (hb.mono HB4.out.size)); have H5 := Lib.hid (H4.out.call hb); have HS5 := Lib.hid (HS.out.below hb); clear hb) | fail)
  have ha : Below w5.heap.size w5 (w5.alloc (.cells #[.int .i64 0, .int .i64 0] 36)) := (Below.refl _ _).alloc (Nat.le_refl _) _
  have HB6 := Lib.hid (HB5.out.trans (ha.mono HB5.out.size))
  have H6 := Lib.hid (H5.out.call ha)
  have HS6 := Lib.hid (HS5.out.below ha)
  clear ha
  generalize w5.alloc (.cells #[.int .i64 0, .int .i64 0] 36) = W6 at *
  have HR := Lib.hid (show Rw W6.heap.size W6 (some ⟨W6.heap.size, 0, none⟩) 2 [255, 179] (W6.alloc (.cells #[.int .u8 255, .int .u8 179] 5)) from ⟨blk_own (l := [255, 179]) (Blk.new _ _ _) (Nat.le_refl _) (by unfold maxLen; simp), (Below.refl _ _).alloc (Nat.le_refl _) _, Nat.le_refl _⟩)
  have H7 := Lib.hid (H6.out.call ((Below.refl _ W6).alloc (Nat.le_refl _) (.cells #[.int .u8 255, .int .u8 179] 5)))
  have HN0 := Lib.hid (show s1 = none → [255, 179, 0, 3, 0, 0, 0, 3, 40, 60, 28, 0, 255, 180] = ([] : List Int) ∧ m1 = 0 from fun z => by have h := H7.out; rw [z] at h; rcases h with q | ⟨_, _, q, _⟩ <;> simp at q)
  go_upto_region 7 with (first | (at_builtin; refine wpApp rfl _ _ rfl W6.heap.size [255, 179] [255, 179, 0, 3, 0, 0, 0, 3, 40, 60, 28, 0, 255, 180] _ _ rfl HR.out s1 m1 rfl H7.out HN0.out (by simp) ?_; intro L2 s2 m2 w8 HL2 R2; have B8 := Lib.hid R2.out.below; have hh := HoldsB.of_own R2.out.own; obtain ⟨_, s3, m3, e3, h3, h4, _⟩ := hh; have k6 := K6.out w8 L2 s2 m2 HL2.out R2.out.holds (by injection e3 with a b c; omega)) | (go_at_call 16; (with_reducible refine k6.mono ?_); rintro e w9 ⟨rfl, hb⟩; have hb9 := B8.out.trans (hb.mono B8.out.size); have HB9 := Lib.hid (HB6.out.trans (hb9.mono HB6.out.size)); have HS9 := HS6.out.below hb9; have c0 := HS9.two.1; have c1 := HS9.two.2; clear hb) | fail)
  go_wp2_with fail
  go_ret
  exact ⟨rfl, HB9.out⟩
end Go.Proofs.Ytpnnmibdboelpaa
