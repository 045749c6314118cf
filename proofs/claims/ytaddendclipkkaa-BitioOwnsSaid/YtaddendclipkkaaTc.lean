/-
  Layer 10: the code's Set.
-/
import Derived.Test.YtaddendclipkkaaTb
set_option maxRecDepth 100000
namespace Go.Proofs.Ytaddendclipkkaa
open Go.RowKit

def okT (w h : Nat) (x y v : Int) (m : Int) : Prop := inT w h x y ∧ 0 ≤ v ∧ v ≤ m
instance (w h : Nat) (x y v m : Int) : Decidable (okT w h x y v m) := by unfold okT; infer_instance
def stE (u : Int) (w h : Nat) (x y v : Int) : Int := if u ≠ 0 then 6 else if okT w h x y v 65535 then 0 else 2
def stF (u : Int) (w h : Nat) (f : Nat → Nat → Int) (x y v : Int) : Nat → Nat → Int := if u = 0 ∧ okT w h x y v 65535 then upF f x.toNat y.toNat v else f
section
variable {W W' : World} {B A L w h D : Nat} {nd : Nat → Nat} {u : Int} {f : Nat → Nat → Int} {l : Nat → Nat → Nat → Int} {b : Nat → Nat → Nat → Bool}
theorem Tr.congr {Q Q' : Nat → Nat → Nat → Nd} (H : Tr W B A L nd w h D u Q) (hQ : ∀ k, k < D → ∀ X Y, Q k X Y = Q' k X Y) (hb : ∀ k x y, 0 ≤ (Q' k x y).l ∧ (Q' k x y).l ≤ 65536) : Tr W B A L nd w h D u Q' := by
  refine ⟨H.w1, H.h1, H.sz, H.ws, H.hs, H.d1, H.d2, H.top, H.us, H.geA, H.geL, H.geN, H.inj, H.obj, H.lvs, fun k hk => ?_, hb⟩
  obtain ⟨cs, h1, h2⟩ := H.nds k hk
  refine ⟨cs, h1, fun x y hx hy => ?_⟩
  rw [← hQ k hk]
  exact h2 x y hx hy
set_option maxHeartbeats 4000000 in
theorem set_yes (H : Tr W B A L nd w h D 0 (mkQ w h f l b)) (x y : Nat) (v : Int) (hx : x < w) (hy : y < h) (h0 : 0 ≤ v) (h1 : v ≤ 65535) :
    Calls Try.prog 33 #[.pointer (some ⟨A, 0, none⟩), .int .i64 (x : Int), .int .i64 (y : Int), .int .i64 v] W fun e w' => e = .returned (.int .i64 0) ∧ Tr w' B A L nd w h D 0 (mkQ w h (upF f x y v) l b) ∧ Kf (Tf A L nd D) W w' := by
  have tm := tmade_y A W H.cells.1
  have hc := has_c H (x : Int) (y : Int)
  rw [decide_eq_true (by unfold inT; omega)] at hc
  obtain ⟨c0, ⟨m, c1⟩, c2⟩ := H.cells
  obtain ⟨i, hi⟩ : ∃ i, i = y / 2 ^ 0 * dm w 0 + x / 2 ^ 0 := ⟨_, rfl⟩
  have HI := Lib.hid hi
  have HH := Lib.hid H
  have HXY := Lib.hid (And.intro hx hy)
  have hd0 : 0 < D := H.d1
  have hd17 : D ≤ 17 := H.d2
  clear H hi hx hy
  go_enter Try.func33, Try.ntmps33
  go_wp2_with (first | (go_at_call 59; (with_reducible refine tm.mono ?_); rintro e wn ⟨rfl, rfl⟩))
  refine hc.mono ?_
  rintro e w1 ⟨rfl, hb1⟩
  have H1 := Lib.hid (HH.out.below hb1)
  have K1 := Lib.hid (Kf.of_below (Tf A L nd D) hb1)
  have hon := on_c H1.out 0 x y hd0 HXY.out.1 HXY.out.2 i HI.out
  clear hb1 hc tm c0 c1 c2
  go_wp2_with fail
  refine hon.mono ?_
  rintro e w2 ⟨rfl, hb2⟩
  have H2 := Lib.hid (H1.out.below hb2)
  have K2 := Lib.hid (K1.out.trans (Kf.of_below (Tf A L nd D) hb2))
  obtain ⟨a0, a1, a2⟩ := H2.out.at hd0 HXY.out.1 HXY.out.2 HI.out
  have fr := H2.out.free hd0
  have N3 : Hid (Tr (w2.setCell ⟨nd 0, i * 3, none⟩ (.int .i64 v)) B A L nd w h D 0 (mkS w h f (upF f x y v) l b 1) ∧ Kf (Tf A L nd D) W (w2.setCell ⟨nd 0, i * 3, none⟩ (.int .i64 v))) := by
    have hp := H2.out.put (k := 0) (X := x / 2 ^ 0) (Y := y / 2 ^ 0) hd0 (dm_at HXY.out.1 0) (dm_at HXY.out.2 0) 0 (by omega) ⟨v, l 0 (x / 2 ^ 0) (y / 2 ^ 0), b 0 (x / 2 ^ 0) (y / 2 ^ 0)⟩ (fun c hc hn => by
      match c, hc with
      | 0, _ => exact absurd rfl hn
      | 1, _ => rfl
      | 2, _ => rfl) (HH.out.qb 0 (x / 2 ^ 0) (y / 2 ^ 0)) (o := i * 3) (by rw [HI.out]; omega)
    have hv : mv w h (upF f x y v) 0 (x / 2 ^ 0) (y / 2 ^ 0) = v := by
      simp only [Nat.pow_zero, Nat.div_one]
      show upF f x y v x y = v
      unfold upF
      rw [if_pos ⟨rfl, rfl⟩]
    have hs := mkS_next w h f x y v l b 0
    rw [hv] at hs
    rw [mkS_zero] at hs
    rw [hs] at hp
    exact ⟨hp, K2.out.trans (Kf.set _ _ _ (.inr (.inr ⟨0, hd0, rfl⟩)) _)⟩
  clear hon hb2 H1 K1 H2 K2
  go_wp2_with fail
  generalize w2.setCell ⟨nd 0, i * 3, none⟩ (.int .i64 v) = w3 at *
  clear a0 a1 a2 fr
  go_loopw [9] (fun z wr => ∃ k : Nat, 1 ≤ k ∧ k ≤ D ∧ z = .int .i64 (k : Int) ∧ Hid (Tr wr B A L nd w h D 0 (mkS w h f (upF f x y v) l b k) ∧ Kf (Tf A L nd D) W wr)) (fun z _ => D - (intOf z).toNat)
  case atStart => exact ⟨1, by omega, by omega, rfl, N3.out⟩
  case round =>
    obtain ⟨k, hk1, hkD, rfl, hT⟩ := hrel
    obtain ⟨c0, ⟨m, c1⟩, c2⟩ := hT.out.1.cells
    by_cases hlt : k < D
    · obtain ⟨j, rfl⟩ : ∃ j, k = j + 1 := ⟨k - 1, by omega⟩
      obtain ⟨i2, hi2⟩ : ∃ i, i = y / 2 ^ (j + 1) * dm w (j + 1) + x / 2 ^ (j + 1) := ⟨_, rfl⟩
      have T0 := Lib.hid hT.out
      have HI2 := Lib.hid hi2
      have hon := on_c T0.out.1 (j + 1) x y hlt HXY.out.1 HXY.out.2 i2 HI2.out
      clear hT hi2
      go_wp2_with fail
      refine hon.mono ?_
      rintro e w4 ⟨rfl, hb4⟩
      have H4 := Lib.hid (T0.out.1.below hb4)
      have K4 := Lib.hid (T0.out.2.trans (Kf.of_below (Tf A L nd D) hb4))
      have hls := least_c H4.out j x y hlt HXY.out.1 HXY.out.2
      have hval : lsA (fun X Y => (mkS w h f (upF f x y v) l b (j + 1) j X Y).v) (2 * (x / 2 ^ (j + 1))) (2 * (y / 2 ^ (j + 1))) (min 2 (dm w j - 2 * (x / 2 ^ (j + 1)))) 65535 (min 2 (dm h j - 2 * (y / 2 ^ (j + 1)))) = mv w h (upF f x y v) (j + 1) (x / 2 ^ (j + 1)) (y / 2 ^ (j + 1)) := by
        show _ = lsA _ _ _ _ _ _
        congr 1
        funext X Y
        show mv w h (if j < j + 1 then upF f x y v else f) j X Y = _
        rw [if_pos (by omega)]
      rw [hval] at hls
      clear hon hb4 hval c0 c1 c2
      go_wp2_with fail
      refine hls.mono ?_
      rintro e w5 ⟨rfl, hb5⟩
      have H5 := Lib.hid (H4.out.below hb5)
      have K5 := Lib.hid (K4.out.trans (Kf.of_below (Tf A L nd D) hb5))
      obtain ⟨a0, a1, a2⟩ := H5.out.at hlt HXY.out.1 HXY.out.2 HI2.out
      have fr := H5.out.free hlt
      have hp := H5.out.put (k := j + 1) (X := x / 2 ^ (j + 1)) (Y := y / 2 ^ (j + 1)) hlt (dm_at HXY.out.1 _) (dm_at HXY.out.2 _) 0 (by omega) ⟨mv w h (upF f x y v) (j + 1) (x / 2 ^ (j + 1)) (y / 2 ^ (j + 1)), l (j + 1) (x / 2 ^ (j + 1)) (y / 2 ^ (j + 1)), b (j + 1) (x / 2 ^ (j + 1)) (y / 2 ^ (j + 1))⟩ (fun c hc hn => by
        match c, hc with
        | 0, _ => exact absurd rfl hn
        | 1, _ => rfl
        | 2, _ => rfl) (HH.out.qb (j + 1) (x / 2 ^ (j + 1)) (y / 2 ^ (j + 1))) (o := i2 * 3) (by rw [HI2.out]; omega)
      rw [mkS_next] at hp
      generalize mv w h (upF f x y v) (j + 1) (x / 2 ^ (j + 1)) (y / 2 ^ (j + 1)) = va at *
      have N6 : Hid (Tr (w5.setCell ⟨nd (j + 1), i2 * 3, none⟩ (.int .i64 va)) B A L nd w h D 0 (mkS w h f (upF f x y v) l b (j + 1 + 1)) ∧ Kf (Tf A L nd D) W (w5.setCell ⟨nd (j + 1), i2 * 3, none⟩ (.int .i64 va))) := ⟨hp, K5.out.trans (Kf.set _ _ _ (.inr (.inr ⟨j + 1, hlt, rfl⟩)) _)⟩
      clear hls hb5 hp T0 H4 K4 H5 K5
      go_wp2_with fail
      go_roundw
      case rel => exact ⟨j + 1 + 1, by omega, by omega, by go_num, N6⟩
      case measure => simp [intOf]; omega
    · obtain rfl : k = D := by omega
      have T0 := Lib.hid hT.out
      clear hT
      go_wp2_with fail
      go_ret
      refine ⟨rfl, T0.out.1.congr (fun i hi X Y => ?_) HH.out.qb, T0.out.2⟩
      show (⟨mv w h (if i < k then upF f x y v else f) i X Y, l i X Y, b i X Y⟩ : Nd) = _
      rw [if_pos hi]
      rfl
theorem set_c (H : Tr W B A L nd w h D u (mkQ w h f l b)) (x y v : Int) :
    Calls Try.prog 33 #[.pointer (some ⟨A, 0, none⟩), .int .i64 x, .int .i64 y, .int .i64 v] W fun e w' => e = .returned (.int .i64 (stE u w h x y v)) ∧ Tr w' B A L nd w h D u (mkQ w h (stF u w h f x y v) l b) ∧ Kf (Tf A L nd D) W w' := by
  unfold stE stF
  have tm := tmade_y A W H.cells.1
  by_cases hu : u = 0
  · subst hu
    rw [if_neg (by omega)]
    by_cases hok : okT w h x y v 65535
    · rw [if_pos hok, if_pos ⟨rfl, hok⟩]
      obtain ⟨⟨i1, i2, i3, i4⟩, i5, i6⟩ := hok
      obtain ⟨x0, rfl⟩ : ∃ n : Nat, x = n := ⟨x.toNat, by omega⟩
      obtain ⟨y0, rfl⟩ : ∃ n : Nat, y = n := ⟨y.toNat, by omega⟩
      exact set_yes H x0 y0 v (by omega) (by omega) i5 i6
    · rw [if_neg hok, if_neg (fun c => hok c.2)]
      have hc := has_c H x y
      obtain ⟨c0, ⟨m, c1⟩, c2⟩ := H.cells
      have HH := Lib.hid H
      clear H
      by_cases hin : inT w h x y
      · rw [decide_eq_true hin] at hc
        have hv : v < 0 ∨ (0 ≤ v ∧ 65535 < v) := by
          by_cases p : v < 0
          · exact .inl p
          · by_cases q : 65535 < v
            · exact .inr ⟨by omega, q⟩
            · exact absurd ⟨hin, by omega, by omega⟩ hok
        clear hok hin
        rcases hv with hv | ⟨hv, hv2⟩
        · go_enter Try.func33, Try.ntmps33
          go_wp2_with (first | (go_at_call 59; (with_reducible refine tm.mono ?_); rintro e wn ⟨rfl, rfl⟩))
          refine hc.mono ?_
          rintro e w1 ⟨rfl, hb1⟩
          have HB := Lib.hid hb1
          clear hb1 hc tm c0 c1 c2
          go_wp2_with fail
          go_ret
          exact ⟨rfl, HH.out.below HB.out, Kf.of_below _ HB.out⟩
        · go_enter Try.func33, Try.ntmps33
          go_wp2_with (first | (go_at_call 59; (with_reducible refine tm.mono ?_); rintro e wn ⟨rfl, rfl⟩))
          refine hc.mono ?_
          rintro e w1 ⟨rfl, hb1⟩
          have HB := Lib.hid hb1
          clear hb1 hc tm c0 c1 c2
          go_wp2_with fail
          go_ret
          exact ⟨rfl, HH.out.below HB.out, Kf.of_below _ HB.out⟩
      · rw [decide_eq_false hin] at hc
        clear hok hin
        go_enter Try.func33, Try.ntmps33
        go_wp2_with (first | (go_at_call 59; (with_reducible refine tm.mono ?_); rintro e wn ⟨rfl, rfl⟩))
        refine hc.mono ?_
        rintro e w1 ⟨rfl, hb1⟩
        have HB := Lib.hid hb1
        clear hb1 hc tm c0 c1 c2
        go_wp2_with fail
        go_ret
        exact ⟨rfl, HH.out.below HB.out, Kf.of_below _ HB.out⟩
  · rw [if_pos hu, if_neg (fun c => hu c.1)]
    obtain ⟨c0, ⟨m, c1⟩, c2⟩ := H.cells
    have hu1 : (u != 0) = true := by simpa using hu
    have HH := Lib.hid H
    clear H hu
    go_enter Try.func33, Try.ntmps33
    go_wp2_with (first | (go_at_call 59; (with_reducible refine tm.mono ?_); rintro e wn ⟨rfl, rfl⟩))
    go_ret
    exact ⟨rfl, HH.out, Kf.refl _ _⟩
end
end Go.Proofs.Ytaddendclipkkaa
