/-
  Layer 10: the reference's New and Depth.
-/
import Derived.Test.YtaddendclipkkaaTh
set_option maxRecDepth 100000
namespace Go.Proofs.Ytaddendclipkkaa
open Go.RowKit

/-- The number of nodes below level k. -/
def bs (w h : Nat) : Nat → Nat
  | 0 => 0
  | k + 1 => bs w h k + dm w k * dm h k
theorem bs_le {w h : Nat} (hw : 1 ≤ w) (hh : 1 ≤ h) (hp : w * h ≤ 65536) : ∀ k, bs w h k ≤ k * 65536
  | 0 => Nat.le_refl _
  | k + 1 => by
    have := bs_le hw hh hp k
    have h2 : dm w k * dm h k ≤ 65536 := Nat.le_trans (Nat.mul_le_mul (dm_le hw k) (dm_le hh k)) hp
    unfold bs
    omega
theorem dep_more {w h k : Nat} (h1 : 1 ≤ w) (h2 : 1 ≤ h) (h3 : w ≤ 65536) (h4 : h ≤ 65536) (hk : k + 1 < dep w h) : 2 ≤ dm w k * dm h k := by
  have hd : k < Lib.bitLen (max w h - 1) := by unfold dep at hk; omega
  have hz : 0 < max w h - 1 := by
    rcases Nat.eq_zero_or_pos (max w h - 1) with h0 | h0
    · rw [h0, bl_zero] at hd; omega
    · exact h0
  obtain ⟨_, _, hp, _⟩ := bl_bd hz (by omega)
  have hk2 : 2 ^ k ≤ max w h - 1 := Nat.le_trans (Nat.pow_le_pow_right (by omega) (by omega)) hp
  have e1 := dm_is h1 k
  have e2 := dm_is h2 k
  have p1 := dm_pos h1 k
  have p2 := dm_pos h2 k
  have h2k : 0 < 2 ^ k := Nat.two_pow_pos k
  have : 2 ≤ dm w k ∨ 2 ≤ dm h k := by
    by_cases hwk : 2 ^ k ≤ w - 1
    · left
      rw [e1]
      have := Nat.div_pos hwk h2k
      omega
    · right
      have hhk : 2 ^ k ≤ h - 1 := by omega
      rw [e2]
      have := Nat.div_pos hhk h2k
      omega
  rcases this with hq | hq
  · exact Nat.le_trans (by omega) (Nat.mul_le_mul hq p2)
  · exact Nat.le_trans (by omega) (Nat.mul_le_mul p1 hq)
theorem infoU : (Try.prog.info? 105).map (fun i => (i.zero, i.size, i.bytes)) = some (some (.agg #[.int .i64 0, .int .i64 0, .bool false]), 3, 24) := by kernel_rfl
theorem mk_unodes (c : Nat) (hc : c ≤ 2000000) (W : World) : (Instr.makeSlice 95 (.int .i64 (c : Int)) (.int .i64 (c : Int))).run Try.prog W = .ok (.slice (some ⟨W.heap.size, 0, none⟩) c c) (W.alloc (.cells (madeCells #[.int .i64 0, .int .i64 0, .bool false] (c * 3)) 105)) := by
  obtain ⟨i0, hi, hz0, hz1, hz2⟩ := info_parts infoU
  have hr := run_make (P := Try.prog) W 95 105 i0 _ Try.underlying95 hi hz0 .i64 .i64 c c (by omega) (Int.le_refl _) (by rw [hz2]; omega) (by omega)
  rw [hz1, Int.toNat_natCast] at hr
  exact hr
/-- A new tree of the reference. -/
def UNew (w h : Nat) (W : World) (e : Ending) (w' : World) : Prop := e = .returned (.tuple #[.pointer (some ⟨W.heap.size + 1, 0, none⟩), .int .i64 0]) ∧ Below W.heap.size W w' ∧
  Blk w' (W.heap.size + 1) 97 #[.bool true, .int .i64 (w : Int), .int .i64 (h : Int), .slice (some ⟨W.heap.size, 0, none⟩) (bs w h (dep w h)) (bs w h (dep w h)), .bool false, .bool false] ∧
  Blk w' W.heap.size 105 (madeCells #[.int .i64 0, .int .i64 0, .bool false] (bs w h (dep w h) * 3))
set_option maxHeartbeats 4000000 in
theorem unew_yes (w h : Nat) (hok : okN (w : Int) (h : Int)) (W : World) : Calls Try.prog 28 #[.int .i64 (w : Int), .int .i64 (h : Int)] W (UNew w h W) := by
  have hb : 1 ≤ w ∧ 1 ≤ h ∧ w ≤ 65536 ∧ h ≤ 65536 ∧ w * h ≤ 65536 := by
    obtain ⟨a, b, c, d, e⟩ := hok
    rw [← Int.natCast_mul] at e
    omega
  obtain ⟨b1, b2, b3, b4, b5⟩ := hb
  have hd := dep_ok b1 b2 b3 b4
  have hbs := bs_le b1 b2 b5 (dep w h)
  have mk := mk_unodes (bs w h (dep w h)) (by omega)
  have wm : IntKind.i64.wrap ((w : Int) * (h : Int)) = ((w * h : Nat) : Int) := by rw [← Int.natCast_mul, IntWalk.i64_left]; generalize w * h = P at *; unfold wrap64; omega
  have c1 : ¬ (w : Int) < 1 := by omega
  have c2 : ¬ (h : Int) < 1 := by omega
  have c3 : ¬ (65536 : Int) < (w : Int) := by omega
  have c4 : ¬ (65536 : Int) < (h : Int) := by omega
  have c5 : ¬ (65536 : Int) < ((w * h : Nat) : Int) := by omega
  have HB := Lib.hid (And.intro b1 (And.intro b2 (And.intro b3 (And.intro b4 b5))))
  have HD := Lib.hid hd
  have HBS := Lib.hid (fun k (hk : k ≤ 17) => Nat.le_trans (bs_le b1 b2 b5 k) (Nat.mul_le_mul_right _ hk))
  have MORE := Lib.hid (fun k => dep_more (k := k) b1 b2 b3 b4)
  unfold UNew
  obtain ⟨D, hD⟩ : ∃ D, D = dep w h := ⟨_, rfl⟩
  rw [← hD] at mk HD MORE ⊢
  have P0 : Hid (((w * h : Nat) : Int) = ((bs w h 1 : Nat) : Int)) := Lib.hid (by show _ = ((0 + w * h : Nat) : Int); omega)
  obtain ⟨p, hp⟩ : ∃ p, p = w * h := ⟨_, rfl⟩
  rw [← hp] at wm c5 P0
  clear hok b1 b2 b3 b4 b5 hd hbs hD hp
  go_enter Try.func28, Try.ntmps28
  go_wp2_with fail
  clear wm c1 c2 c3 c4 c5
  go_loopw [6, 7, 8] (fun n a b wr => ∃ k : Nat, k < D ∧ n = .int .i64 ((bs w h (k + 1) : Nat) : Int) ∧ a = .int .i64 ((dm w k : Nat) : Int) ∧ b = .int .i64 ((dm h k : Nat) : Int) ∧ Hid (wr = W)) (fun _ a b _ => (intOf a + intOf b).toNat)
  case atStart => exact ⟨0, by have := HD.out.1; omega, by rw [P0.out], rfl, rfl, rfl⟩
  case round =>
    obtain ⟨k, hk, rfl, rfl, rfl, hT⟩ := hrel
    obtain rfl := hT.out
    clear hT
    have q1 := dm_pos HB.out.1 k
    have q2 := dm_pos HB.out.2.1 k
    have q3 := dm_le HB.out.1 k
    have q4 := dm_le HB.out.2.1 k
    have q5 : dm w k * dm h k ≤ 65536 := Nat.le_trans (Nat.mul_le_mul q3 q4) HB.out.2.2.2.2
    have q6 : dm w k ≤ 65536 := by have := HB.out; omega
    have q7 : dm h k ≤ 65536 := by have := HB.out; omega
    have wm : IntKind.i64.wrap (((dm w k : Nat) : Int) * ((dm h k : Nat) : Int)) = ((dm w k * dm h k : Nat) : Int) := by rw [← Int.natCast_mul, IntWalk.i64_left]; generalize dm w k * dm h k = P at *; unfold wrap64; omega
    by_cases hlt : k + 1 < D
    · have hm := MORE.out k hlt
      have g1 : (1 : Int) < ((dm w k * dm h k : Nat) : Int) := by omega
      have w1 : IntKind.i64.wrap (((dm w k : Nat) : Int) + 1) = ((dm w k : Nat) : Int) + 1 := by rw [IntWalk.i64_left]; unfold wrap64; omega
      have w2 : IntKind.i64.wrap (((dm h k : Nat) : Int) + 1) = ((dm h k : Nat) : Int) + 1 := by rw [IntWalk.i64_left]; unfold wrap64; omega
      have e1 : (((dm w k : Nat) : Int) + 1) / 2 = ((dm w (k + 1) : Nat) : Int) := by show _ = (((dm w k + 1) / 2 : Nat) : Int); omega
      have e2 : (((dm h k : Nat) : Int) + 1) / 2 = ((dm h (k + 1) : Nat) : Int) := by show _ = (((dm h k + 1) / 2 : Nat) : Int); omega
      have r1 := dm_le HB.out.1 (k + 1)
      have r2 := dm_le HB.out.2.1 (k + 1)
      have r5 : dm w (k + 1) * dm h (k + 1) ≤ 65536 := Nat.le_trans (Nat.mul_le_mul r1 r2) HB.out.2.2.2.2
      have wm2 : IntKind.i64.wrap (((dm w (k + 1) : Nat) : Int) * ((dm h (k + 1) : Nat) : Int)) = ((dm w (k + 1) * dm h (k + 1) : Nat) : Int) := by rw [← Int.natCast_mul, IntWalk.i64_left]; generalize dm w (k + 1) * dm h (k + 1) = P at *; unfold wrap64; omega
      have hbs := HBS.out (k + 1) (by have := HD.out.2.1; omega)
      have hn : ((bs w h (k + 1 + 1) : Nat) : Int) = ((bs w h (k + 1) : Nat) : Int) + ((dm w (k + 1) * dm h (k + 1) : Nat) : Int) := by show ((bs w h (k + 1) + dm w (k + 1) * dm h (k + 1) : Nat) : Int) = _; omega
      have wn : IntKind.i64.wrap (((bs w h (k + 1) : Nat) : Int) + ((dm w (k + 1) * dm h (k + 1) : Nat) : Int)) = ((bs w h (k + 1 + 1) : Nat) : Int) := by rw [hn, IntWalk.i64_left]; have := HD.out.2.1; unfold wrap64; omega
      have MS : Hid (dm w (k + 1) + dm h (k + 1) < dm w k + dm h k) := by
        have h1 : dm w (k + 1) = (dm w k + 1) / 2 := rfl
        have h2 : dm h (k + 1) = (dm h k + 1) / 2 := rfl
        have h3 : 2 ≤ dm w k ∨ 2 ≤ dm h k := by
          by_cases a : 2 ≤ dm w k
          · exact .inl a
          · have : dm w k = 1 := by omega
            rw [this, Nat.one_mul] at hm
            exact .inr hm
        exact Lib.hid (by omega)
      generalize hA1 : dm w (k + 1) = a1 at *
      generalize hB1 : dm h (k + 1) = b1 at *
      generalize hN2 : bs w h (k + 1 + 1) = n2 at *
      have A1 := Lib.hid hA1
      have B1 := Lib.hid hB1
      have N2 := Lib.hid hN2
      generalize a1 * b1 = p1 at *
      generalize dm w k * dm h k = pp at *
      generalize dm w k = a0 at *
      generalize dm h k = b0 at *
      generalize bs w h (k + 1) = n1 at *
      clear q1 q2 q3 q4 q5 hm hA1 hB1 hN2 r1 r2 r5 hbs hn
      go_wp2_with fail
      go_roundw
      case rel => exact ⟨k + 1, hlt, by first | (rw [N2.out]; done) | rw [N2.out, wn], by first | (rw [A1.out]; done) | rw [A1.out, e1], by first | (rw [B1.out]; done) | rw [B1.out, e2], by first | exact rfl | exact Lib.hid trivial⟩
      case measure => simp [intOf]; have := MS.out; omega
    · have hkD : k = D - 1 := by omega
      have e1 : dm w k = 1 := by rw [hkD]; exact HD.out.2.2.1
      have e2 : dm h k = 1 := by rw [hkD]; exact HD.out.2.2.2
      have hk1 : k + 1 = D := by omega
      rw [e1, e2, hk1]
      have hA := below_alloc (Below.refl _ wr) (.cells (madeCells #[.int .i64 0, .int .i64 0, .bool false] (bs w h D * 3)) 105)
      have b0 := Blk.new wr 105 (madeCells #[.int .i64 0, .int .i64 0, .bool false] (bs w h D * 3))
      have hA2 := below_alloc (Below.refl _ (wr.alloc (.cells (madeCells #[.int .i64 0, .int .i64 0, .bool false] (bs w h D * 3)) 105))) (.cells #[.bool true, .int .i64 (w : Int), .int .i64 (h : Int), .slice (some ⟨wr.heap.size, 0, none⟩) (bs w h D) (bs w h D), .bool false, .bool false] 97)
      have b1 := Blk.new (wr.alloc (.cells (madeCells #[.int .i64 0, .int .i64 0, .bool false] (bs w h D * 3)) 105)) 97 #[.bool true, .int .i64 (w : Int), .int .i64 (h : Int), .slice (some ⟨wr.heap.size, 0, none⟩) (bs w h D) (bs w h D), .bool false, .bool false]
      rw [show (wr.alloc (.cells (madeCells #[.int .i64 0, .int .i64 0, .bool false] (bs w h D * 3)) 105)).heap.size = wr.heap.size + 1 by simp] at b1
      have F := Lib.hid (And.intro (below_call hA hA2) (And.intro b1 (b0.below hA2)))
      clear q1 q2 q3 q4 q5 q6 q7 wm hkD e1 e2 hk1 hA b0 hA2 b1
      go_wp2_with fail
      go_ret2
      exact ⟨rfl, F.out⟩
theorem unew_no (w h : Int) (hok : ¬ okN w h) (W : World) : Calls Try.prog 28 #[.int .i64 w, .int .i64 h] W fun e w' => e = .returned (.tuple #[.pointer none, .int .i64 (chE w h)]) ∧ W = w' := by
  have hcs : (w < 1 ∧ chE w h = 2) ∨ (1 ≤ w ∧ h < 1 ∧ chE w h = 2) ∨ (1 ≤ w ∧ 1 ≤ h ∧ 65536 < w ∧ chE w h = 5) ∨ (1 ≤ w ∧ 1 ≤ h ∧ w ≤ 65536 ∧ 65536 < h ∧ chE w h = 5) ∨ (1 ≤ w ∧ 1 ≤ h ∧ w ≤ 65536 ∧ h ≤ 65536 ∧ chE w h = 5) := by
    unfold chE
    rw [if_neg hok]
    by_cases h1 : w < 1
    · exact .inl ⟨h1, by rw [if_pos (.inl h1)]⟩
    by_cases h2 : h < 1
    · exact .inr (.inl ⟨by omega, h2, by rw [if_pos (.inr h2)]⟩)
    rw [if_neg (by omega)]
    by_cases h3 : 65536 < w
    · exact .inr (.inr (.inl ⟨by omega, by omega, h3, rfl⟩))
    by_cases h4 : 65536 < h
    · exact .inr (.inr (.inr (.inl ⟨by omega, by omega, by omega, h4, rfl⟩)))
    · exact .inr (.inr (.inr (.inr ⟨by omega, by omega, by omega, by omega, rfl⟩)))
  rcases hcs with ⟨h1, e⟩ | ⟨h1, h2, e⟩ | ⟨h1, h2, h3, e⟩ | ⟨h1, h2, h3, h4, e⟩ | ⟨h1, h2, h3, h4, e⟩
  · rw [e]
    clear e hok
    go_enter Try.func28, Try.ntmps28
    go_wp2_with fail
    go_ret2
    exact ⟨rfl, rfl⟩
  · rw [e]
    clear e hok
    go_enter Try.func28, Try.ntmps28
    go_wp2_with fail
    go_ret2
    exact ⟨rfl, rfl⟩
  · rw [e]
    clear e hok
    go_enter Try.func28, Try.ntmps28
    go_wp2_with fail
    go_ret2
    exact ⟨rfl, rfl⟩
  · rw [e]
    clear e hok
    go_enter Try.func28, Try.ntmps28
    go_wp2_with fail
    go_ret2
    exact ⟨rfl, rfl⟩
  · rw [e]
    obtain ⟨p1, p2, p3⟩ := mul_wrap h1 h2 h3 h4
    obtain ⟨p, hp0, q1⟩ : ∃ p, p = w * h ∧ IntKind.i64.wrap (w * h) = p := ⟨_, rfl, p1⟩
    have hp : 65536 < p := by rw [hp0]; unfold okN at hok; omega
    clear e hok p1 p2 p3 hp0
    go_enter Try.func28, Try.ntmps28
    go_wp2_with fail
    go_ret2
    exact ⟨rfl, rfl⟩
theorem chE_ne {w h : Int} (hok : ¬ okN w h) : (chE w h != 0) = true := by
  unfold chE
  split
  · rfl
  · first | rfl | (rw [if_neg hok]; rfl)
set_option maxHeartbeats 4000000 in
theorem udepth_c (w h : Int) (W : World) : Calls Try.prog 30 #[.int .i64 w, .int .i64 h] W fun e w' => e = .returned (.int .i64 (if okN w h then ((dep w.toNat h.toNat : Nat) : Int) else 0)) ∧ Below W.heap.size W w' := by
  by_cases hok : okN w h
  · rw [if_pos hok]
    have hb : 1 ≤ w ∧ 1 ≤ h ∧ w ≤ 65536 ∧ h ≤ 65536 := ⟨hok.1, hok.2.1, hok.2.2.1, hok.2.2.2.1⟩
    obtain ⟨a, rfl⟩ : ∃ n : Nat, w = n := ⟨w.toNat, by omega⟩
    obtain ⟨b, rfl⟩ : ∃ n : Nat, h = n := ⟨h.toNat, by omega⟩
    rw [show (Int.toNat (a : Int)) = a by omega, show (Int.toNat (b : Int)) = b by omega]
    have n1 := unew_yes a b hok W
    have hb2 : 1 ≤ a ∧ 1 ≤ b ∧ a ≤ 65536 ∧ b ≤ 65536 ∧ a * b ≤ 65536 := by
      obtain ⟨_, _, _, _, e⟩ := hok
      rw [← Int.natCast_mul] at e
      omega
    have hd := dep_ok hb2.1 hb2.2.1 hb2.2.2.1 hb2.2.2.2.1
    have MORE := Lib.hid (fun k => dep_more (k := k) hb2.1 hb2.2.1 hb2.2.2.1 hb2.2.2.2.1)
    have HB := Lib.hid hb2
    have HD := Lib.hid hd
    unfold UNew at n1
    obtain ⟨D, hD⟩ : ∃ D, D = dep a b := ⟨_, rfl⟩
    rw [← hD] at HD MORE n1 ⊢
    clear hok hb hb2 hd hD
    go_enter Try.func30, Try.ntmps30
    go_wp2_with fail
    refine n1.mono ?_
    rintro e w1 ⟨rfl, hbl, _, _⟩
    have BL := Lib.hid hbl
    clear hbl n1
    go_wp2_with fail
    go_loopw [0, 1, 7] (fun x y n wr => ∃ k : Nat, k < D ∧ n = .int .i64 ((k + 1 : Nat) : Int) ∧ x = .int .i64 ((dm a k : Nat) : Int) ∧ y = .int .i64 ((dm b k : Nat) : Int) ∧ Hid (wr = w1)) (fun x y _ _ => (intOf x + intOf y).toNat)
    case atStart => exact ⟨0, by have := HD.out.1; omega, rfl, rfl, rfl, rfl⟩
    case round =>
      obtain ⟨k, hk, rfl, rfl, rfl, hT⟩ := hrel
      obtain rfl := hT.out
      clear hT
      have q1 := dm_pos HB.out.1 k
      have q2 := dm_pos HB.out.2.1 k
      have q3 := dm_le HB.out.1 k
      have q4 := dm_le HB.out.2.1 k
      have q5 : dm a k * dm b k ≤ 65536 := Nat.le_trans (Nat.mul_le_mul q3 q4) HB.out.2.2.2.2
      have q6 : dm a k ≤ 65536 := by have := HB.out; omega
      have q7 : dm b k ≤ 65536 := by have := HB.out; omega
      have wm : IntKind.i64.wrap (((dm a k : Nat) : Int) * ((dm b k : Nat) : Int)) = ((dm a k * dm b k : Nat) : Int) := by rw [← Int.natCast_mul, IntWalk.i64_left]; generalize dm a k * dm b k = P at *; unfold wrap64; omega
      have k17 : k < 17 := by have := HD.out.2.1; omega
      by_cases hlt : k + 1 < D
      · have hm := MORE.out k hlt
        have g1 : (1 : Int) < ((dm a k * dm b k : Nat) : Int) := by omega
        have w1 : IntKind.i64.wrap (((dm a k : Nat) : Int) + 1) = ((dm a k : Nat) : Int) + 1 := by rw [IntWalk.i64_left]; unfold wrap64; omega
        have w2 : IntKind.i64.wrap (((dm b k : Nat) : Int) + 1) = ((dm b k : Nat) : Int) + 1 := by rw [IntWalk.i64_left]; unfold wrap64; omega
        have e1 : (((dm a k : Nat) : Int) + 1) / 2 = ((dm a (k + 1) : Nat) : Int) := by show _ = (((dm a k + 1) / 2 : Nat) : Int); omega
        have e2 : (((dm b k : Nat) : Int) + 1) / 2 = ((dm b (k + 1) : Nat) : Int) := by show _ = (((dm b k + 1) / 2 : Nat) : Int); omega
        have wn : IntKind.i64.wrap (((k + 1 : Nat) : Int) + 1) = ((k + 1 + 1 : Nat) : Int) := by rw [IntWalk.i64_left]; unfold wrap64; omega
        have MS : Hid (dm a (k + 1) + dm b (k + 1) < dm a k + dm b k) := by
          have h1 : dm a (k + 1) = (dm a k + 1) / 2 := rfl
          have h2 : dm b (k + 1) = (dm b k + 1) / 2 := rfl
          have h3 : 2 ≤ dm a k ∨ 2 ≤ dm b k := by
            by_cases a' : 2 ≤ dm a k
            · exact .inl a'
            · have : dm a k = 1 := by omega
              rw [this, Nat.one_mul] at hm
              exact .inr hm
          exact Lib.hid (by omega)
        generalize hA1 : dm a (k + 1) = a1 at *
        generalize hB1 : dm b (k + 1) = b1 at *
        have A1 := Lib.hid hA1
        have B1 := Lib.hid hB1
        generalize dm a k * dm b k = pp at *
        generalize dm a k = a0 at *
        generalize dm b k = b0 at *
        clear q1 q2 q3 q4 q5 hm hA1 hB1
        go_wp2_with fail
        go_roundw
        case rel => exact ⟨k + 1, hlt, by go_num, by first | (rw [A1.out]; done) | rw [A1.out, e1], by first | (rw [B1.out]; done) | rw [B1.out, e2], by first | exact rfl | exact Lib.hid trivial⟩
        case measure => simp [intOf]; have := MS.out; omega
      · have hkD : k = D - 1 := by omega
        have e1 : dm a k = 1 := by rw [hkD]; exact HD.out.2.2.1
        have e2 : dm b k = 1 := by rw [hkD]; exact HD.out.2.2.2
        have hk1 : k + 1 = D := by omega
        rw [e1, e2, hk1]
        clear q1 q2 q3 q4 q5 q6 q7 wm hkD e1 e2 hk1
        go_wp2_with fail
        go_ret
        exact ⟨rfl, BL.out⟩
  · rw [if_neg hok]
    have n1 := unew_no w h hok
    have hne := chE_ne hok
    generalize chE w h = ce at *
    clear hok
    go_enter Try.func30, Try.ntmps30
    go_wp2_with (first | (go_at_call 28; (with_reducible refine (n1 _).mono ?_); rintro e wn ⟨rfl, rfl⟩))
    go_ret
    exact ⟨rfl, Below.refl _ _⟩
end Go.Proofs.Ytaddendclipkkaa
