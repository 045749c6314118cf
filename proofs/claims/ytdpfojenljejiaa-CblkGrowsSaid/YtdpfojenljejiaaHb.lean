/-
  Layer 14: grown: how the numbers of neighbors change when a coefficient becomes significant.
-/
import Derived.Test.YtdpfojenljejiaaHa
set_option maxRecDepth 100000
namespace Go.Proofs.Ytdpfojenljejiaa
open Go.RowKit

/-- Whether number i of (U, V) grows when (x, y) becomes significant. -/
def want (c : Bool) (x y U V : Int) (i : Nat) : Bool :=
  if i = 0 then decide ((U = x + 1 ∨ U = x - 1) ∧ V = y)
  else if i = 1 then decide (U = x ∧ (V = y + 1 ∨ (V = y - 1 ∧ ¬ (c = true ∧ V % 4 = 3))))
  else decide ((U = x + 1 ∨ U = x - 1) ∧ (V = y + 1 ∨ (V = y - 1 ∧ ¬ (c = true ∧ V % 4 = 3))))
theorem b8d (P : Prop) [Decidable P] : b8 (decide P) = if P then 1 else 0 := by by_cases h : P <;> simp [b8, h]
theorem cn_mark (q : St) (x y a b : Int) (hq : q.s x y = false) : cn { q with s := upd q.s x y true } a b = cn q a b + if a = x ∧ b = y then 1 else 0 := by
  unfold cn
  show b8 (upd q.s x y true a b) = _
  unfold upd
  by_cases hc : a = x ∧ b = y
  · rw [if_pos hc, if_pos hc, hc.1, hc.2, hq]; rfl
  · rw [if_neg hc, if_neg hc]; omega
theorem hid_is (y : Int) (c : Bool) : hid y c = decide (c = true ∧ y % 4 = 3) := by
  unfold hid
  by_cases h : y % 4 = 3 <;> cases c <;> simp [h]
theorem grow_H (q : St) (x y U V : Int) (c : Bool) (hq : q.s x y = false) : nbH { q with s := upd q.s x y true } U V = nbH q U V + b8 (want c x y U V 0) := by
  unfold nbH want
  rw [if_pos rfl, b8d, cn_mark q x y _ _ hq, cn_mark q x y _ _ hq]
  (repeat' split) <;> omega
theorem grow_V (q : St) (x y U V : Int) (c : Bool) (hq : q.s x y = false) : nbV { q with s := upd q.s x y true } U V c = nbV q U V c + b8 (want c x y U V 1) := by
  have e : want c x y U V 1 = decide (U = x ∧ (V = y + 1 ∨ (V = y - 1 ∧ ¬ (c = true ∧ V % 4 = 3)))) := rfl
  rw [e, b8d]
  unfold nbV
  rw [cn_mark q x y _ _ hq, cn_mark q x y _ _ hq, hid_is]
  by_cases h : c = true ∧ V % 4 = 3
  · have h' := eq_true h
    clear h
    simp only [h', decide_true, if_true, not_true_eq_false, and_false, or_false]
    (repeat' split) <;> omega
  · have h' := eq_false h
    clear h
    simp only [h', decide_false, Bool.false_eq_true, if_false, not_false_eq_true, and_true]
    (repeat' split) <;> omega
theorem grow_D (q : St) (x y U V : Int) (c : Bool) (hq : q.s x y = false) : nbD { q with s := upd q.s x y true } U V c = nbD q U V c + b8 (want c x y U V 2) := by
  have e : want c x y U V 2 = decide ((U = x + 1 ∨ U = x - 1) ∧ (V = y + 1 ∨ (V = y - 1 ∧ ¬ (c = true ∧ V % 4 = 3)))) := rfl
  rw [e, b8d]
  unfold nbD
  rw [cn_mark q x y _ _ hq, cn_mark q x y _ _ hq, cn_mark q x y _ _ hq, cn_mark q x y _ _ hq, hid_is]
  by_cases h : c = true ∧ V % 4 = 3
  · have h' := eq_true h
    clear h
    simp only [h', decide_true, if_true, not_true_eq_false, and_false, or_false]
    (repeat' split) <;> omega
  · have h' := eq_false h
    clear h
    simp only [h', decide_false, Bool.false_eq_true, if_false, not_false_eq_true, and_true]
    (repeat' split) <;> omega
theorem b3 {w : World} {g : Nat} {a b c : Bool} (h : Blk w g 77 #[.bool a, .bool b, .bool c]) (i : Nat) (hi : i < 3) : w.cell? ⟨g, i, none⟩ = some (.bool (if i = 0 then a else if i = 1 then b else c)) := by
  match i, hi with
  | 0, _ => exact h.cell 0
  | 1, _ => exact h.cell 1
  | 2, _ => exact h.cell 2
set_option maxHeartbeats 40000000 in
theorem grown_c (a b : List Int) (sa sb : Option Addr) (ma mb w h : Nat) (x y : Int) (c : Bool) (W : World) (hw : w ≤ 12) (hh : h ≤ 12) (hin : inB w h x y) (Ha : HoldsI W sa a) (Hb : HoldsI W sb b) (la : a.length = 3 * (h * w)) (lb : b.length = 3 * (h * w))
    (hd : ∀ U V : Nat, U < w → V < h → ∀ i, i < 3 → b.getD (3 * (V * w + U) + i) 0 = a.getD (3 * (V * w + U) + i) 0 + b8 (want c x y U V i)) :
    Calls Try.prog 37 #[.slice sa a.length ma, .slice sb b.length mb, .int .i64 (w : Int), .int .i64 (h : Int), .int .i64 x, .int .i64 y, .bool c] W fun e w' => e = .returned (.bool true) ∧ Below W.heap.size W w' := by
  have hmx := fun (x y : Int) => (show (if x < y then y else x) = max x y by split <;> omega)
  have HA := Lib.hid Ha
  have HB := Lib.hid Hb
  have LA := Lib.hid la
  have LB := Lib.hid lb
  have HD := Lib.hid hd
  have HI := Lib.hid hin
  have HW := Lib.hid (And.intro hw hh)
  clear Ha Hb la lb hd hin hw hh
  go_enter Try.func37, Try.ntmps37
  go_wp2_with fail
  go_loopw [15] (fun i wr => ∃ V : Nat, V ≤ h ∧ i = .int .i64 (V : Int) ∧ Hid (Below W.heap.size W wr)) (fun i _ => h - (intOf i).toNat)
  case atStart => exact ⟨0, by omega, rfl, Below.refl _ _⟩
  case round =>
    obtain ⟨V, hV, rfl, hT⟩ := hrel
    obtain ⟨hw12, hh12⟩ := HW.out
    by_cases hlV : V < h
    · have hT0 := Lib.hid hT.out
      clear hT
      go_wp2_with fail
      go_loopw [16] (fun i wr => ∃ U : Nat, U ≤ w ∧ i = .int .i64 (U : Int) ∧ Hid (Below W.heap.size W wr)) (fun i _ => w - (intOf i).toNat)
      case atStart => exact ⟨0, by omega, rfl, hT0.out⟩
      case round =>
        obtain ⟨U, hU, rfl, hT⟩ := hrel
        by_cases hlU : U < w
        · have hT1 := Lib.hid hT.out
          obtain ⟨i1, i2, i3, i4⟩ := HI.out
          have hglt := grid_lt hlU hlV
          have hhw : w * h ≤ 144 := Nat.mul_le_mul hw12 hh12
          have s1 : IntKind.i64.wrap ((U : Int) - x) = (U : Int) - x := by rw [IntWalk.i64_left]; unfold wrap64; omega
          have s2 : IntKind.i64.wrap (x - (U : Int)) = x - (U : Int) := by rw [IntWalk.i64_left]; unfold wrap64; omega
          have s3 : IntKind.i64.wrap ((V : Int) - y) = (V : Int) - y := by rw [IntWalk.i64_left]; unfold wrap64; omega
          have s4 : IntKind.i64.wrap (y - (V : Int)) = y - (V : Int) := by rw [IntWalk.i64_left]; unfold wrap64; omega
          have p1 := wrap_mul V w (by have := Nat.mul_le_mul (show V ≤ 12 by omega) hw12; omega)
          have p2 : IntKind.i64.wrap (((V * w : Nat) : Int) + (U : Int)) = ((V * w + U : Nat) : Int) := by rw [IntWalk.i64_left]; generalize V * w = P at *; unfold wrap64; omega
          have p3 : IntKind.i64.wrap (3 * ((V * w + U : Nat) : Int)) = ((3 * (V * w + U) : Nat) : Int) := by rw [IntWalk.i64_left]; generalize V * w = P at *; unfold wrap64; omega
          have hdd := fun i hi => HD.out U V hlU hlV i hi
          have hk3 : 3 * (V * w + U) + 3 ≤ 3 * (h * w) := by rw [Nat.mul_comm h w]; omega
          have hk500 : 3 * (V * w + U) ≤ 500 := by omega
          have wd0 : want c x y U V 0 = decide (((U : Int) = x + 1 ∨ (U : Int) = x - 1) ∧ (V : Int) = y) := rfl
          have wd1 : want c x y U V 1 = decide ((U : Int) = x ∧ ((V : Int) = y + 1 ∨ ((V : Int) = y - 1 ∧ ¬ (c = true ∧ (V : Int) % 4 = 3)))) := rfl
          have wd2 : want c x y U V 2 = decide (((U : Int) = x + 1 ∨ (U : Int) = x - 1) ∧ ((V : Int) = y + 1 ∨ ((V : Int) = y - 1 ∧ ¬ (c = true ∧ (V : Int) % 4 = 3)))) := rfl
          have HDD := Lib.hid hdd
          have HK := Lib.hid hk3
          have HWD := Lib.hid (And.intro wd0 (And.intro wd1 wd2))
          generalize 3 * (V * w + U) = at0 at *
          generalize V * w + U = j0 at *
          generalize V * w = P at *
          have mx1 : max ((U : Int) - x) (x - (U : Int)) = max (x - (U : Int)) ((U : Int) - x) := by omega
          have mx2 : max ((V : Int) - y) (y - (V : Int)) = max (y - (V : Int)) ((V : Int) - y) := by omega
          obtain ⟨dx, hdx⟩ : ∃ dx, dx = max (x - (U : Int)) ((U : Int) - x) := ⟨_, rfl⟩
          obtain ⟨dy, hdy⟩ : ∃ dy, dy = max (y - (V : Int)) ((V : Int) - y) := ⟨_, rfl⟩
          have HX := Lib.hid hdx
          have HY := Lib.hid hdy
          rw [← hdx] at mx1
          rw [← hdy] at mx2
          replace hdx := hdx.symm
          replace hdy := hdy.symm
          clear hdd hk3 wd0 wd1 wd2 hglt hhw hT
          by_cases g1 : dx ≤ 1
          · by_cases g2 : dy ≤ 1
            · by_cases g3 : dx = 0
              · subst g3
                by_cases g4 : dy = 0
                · subst g4
                  have W0 : Hid (want c x y U V 0 = false ∧ want c x y U V 1 = false ∧ want c x y U V 2 = false) := by
                    have h1 := HX.out
                    have h2 := HY.out
                    obtain ⟨e0, e1, e2⟩ := HWD.out
                    rw [e0, e1, e2]
                    skip
                    exact ⟨by first | (rw [decide_eq_false_iff_not]; omega) | (rw [decide_eq_true_iff]; omega), by first | (rw [decide_eq_false_iff_not]; omega) | (rw [decide_eq_true_iff]; omega), by first | (rw [decide_eq_false_iff_not]; omega) | (rw [decide_eq_true_iff]; omega)⟩
                  have hA := below_alloc (Below.refl _ wr) (.cells #[.bool false, .bool false, .bool false] 77)
                  have B2 := Lib.hid (below_call hT1.out hA)
                  have M2 := Lib.hid (Blk.new wr 77 #[.bool false, .bool false, .bool false])
                  clear hA
                  go_wp2_with fail
                  clear s1 s2 s3 s4 p1 p2 p3 mx1 mx2 hdx hdy
                  generalize hG : wr.heap.size = G at *
                  clear hG
                  generalize wr.alloc (.cells #[.bool false, .bool false, .bool false] 77) = w2 at *
                  go_loopw [22] (fun i wr => ∃ k : Nat, k ≤ 3 ∧ i = .int .i64 (k : Int) ∧ Hid (Below w2.heap.size w2 wr)) (fun i _ => 3 - (intOf i).toNat)
                  case atStart => exact ⟨0, by omega, rfl, Below.refl _ _⟩
                  case round =>
                    obtain ⟨k, hk, rfl, hS⟩ := hrel
                    by_cases hlk : k < 3
                    · have BB := Lib.hid (below_call B2.out hS.out)
                      obtain ⟨ga, oa, rfl, ca⟩ := (HA.out.call BB.out).at (k := at0 + k) (by have := LA.out; have := HK.out; omega)
                      obtain ⟨gb, ob, rfl, cb⟩ := (HB.out.call BB.out).at (k := at0 + k) (by have := LB.out; have := HK.out; omega)
                      have la : at0 + k < a.length := by have := LA.out; have := HK.out; omega
                      have lb : at0 + k < b.length := by have := LB.out; have := HK.out; omega
                      have cw := b3 (M2.out.below hS.out) k hlk
                      have hz := HDD.out k hlk
                      have pk : IntKind.i64.wrap ((at0 : Int) + (k : Int)) = ((at0 + k : Nat) : Int) := by rw [IntWalk.i64_left]; unfold wrap64; omega
                      have ht : want c x y U V k = (if k = 0 then false else if k = 1 then false else false) := by
                        obtain ⟨e0, e1, e2⟩ := W0.out
                        obtain rfl | rfl | rfl : k = 0 ∨ k = 1 ∨ k = 2 := by omega
                        · exact e0
                        · exact e1
                        · exact e2
                      rw [ht] at hz
                      have hk3 : (k : Int) < 3 := by omega
                      generalize (if k = 0 then false else if k = 1 then false else false) = tt at *
                      generalize a.getD (at0 + k) 0 = za at *
                      generalize b.getD (at0 + k) 0 = zb at *
                      have laI : ((at0 + k : Nat) : Int) < (a.length : Int) := by omega
                      have lbI : ((at0 + k : Nat) : Int) < (b.length : Int) := by omega
                      generalize at0 + k = kk at *
                      clear ht BB
                      cases tt with
                      | true =>
                        have hz1 : zb = za + 1 := hz
                        have wz : IntKind.i64.wrap (zb - za) = 1 := by rw [hz1, show za + 1 - za = 1 by omega]; decide
                        clear hz hz1
                        go_wp2_with fail
                        go_quiet (fail)
                        have cw' : (wr.drewN nq).cell? ⟨G, k, none⟩ = some (.bool true) := ((drewN_below wr nq).cell (p := ⟨G, k, none⟩) (cell_lt cw)).trans cw
                        go_wp2_with fail
                        go_roundw
                        case rel => exact ⟨k + 1, by omega, by go_num, below_call hS.out (drewN_below _ _)⟩
                        case measure => simp [intOf]; omega
                      | false =>
                        have hz1 : zb = za := by rw [hz]; show za + 0 = za; omega
                        have wz : IntKind.i64.wrap (zb - za) = 0 := by rw [hz1, show za - za = 0 by omega]; decide
                        clear hz hz1
                        go_wp2_with fail
                        go_quiet (fail)
                        have cw' : (wr.drewN nq).cell? ⟨G, k, none⟩ = some (.bool false) := ((drewN_below wr nq).cell (p := ⟨G, k, none⟩) (cell_lt cw)).trans cw
                        go_wp2_with fail
                        go_roundw
                        case rel => exact ⟨k + 1, by omega, by go_num, below_call hS.out (drewN_below _ _)⟩
                        case measure => simp [intOf]; omega
                    · obtain rfl : k = 3 := by omega
                      go_wp2_with fail
                      go_roundw
                      case rel => exact ⟨U + 1, by omega, by go_num, below_call B2.out hS.out⟩
                      case measure => simp [intOf]; omega
                · skip
                  have g5 : dy = 1 := by have := HY.out; omega
                  subst g5
                  by_cases g6 : (V : Int) = y + 1
                  · have n1 : (y == (V : Int) + 1) = false := by simp; omega
                    have G6 := Lib.hid g6
                    clear g6
                    cases c with
                    | false =>
                      have W0 : Hid (want false x y U V 0 = false ∧ want false x y U V 1 = true ∧ want false x y U V 2 = false) := by
                        have h1 := HX.out
                        have hh0 := G6.out
                        have h2 := HY.out
                        obtain ⟨e0, e1, e2⟩ := HWD.out
                        rw [e0, e1, e2]
                        simp only [Bool.false_eq_true, false_and, not_false_eq_true, and_true]
                        exact ⟨by first | (rw [decide_eq_false_iff_not]; omega) | (rw [decide_eq_true_iff]; omega), by first | (rw [decide_eq_false_iff_not]; omega) | (rw [decide_eq_true_iff]; omega), by first | (rw [decide_eq_false_iff_not]; omega) | (rw [decide_eq_true_iff]; omega)⟩
                      have hA := below_alloc (Below.refl _ wr) (.cells #[.bool false, .bool true, .bool false] 77)
                      have B2 := Lib.hid (below_call hT1.out hA)
                      have M2 := Lib.hid (Blk.new wr 77 #[.bool false, .bool true, .bool false])
                      clear hA
                      have q1 : ((U : Int) - x == 0) = true := by have := HX.out; simp; omega
                      have q2 : ((U : Int) - x + 1 == 2) = false := by have := HX.out; simp; omega
                      go_wp2_with fail
                      try rw [q1]
                      try rw [q2]
                      clear s1 s2 s3 s4 p1 p2 p3 mx1 mx2 hdx hdy
                      generalize hG : wr.heap.size = G at *
                      clear hG
                      generalize wr.alloc (.cells #[.bool false, .bool true, .bool false] 77) = w2 at *
                      go_loopw [22] (fun i wr => ∃ k : Nat, k ≤ 3 ∧ i = .int .i64 (k : Int) ∧ Hid (Below w2.heap.size w2 wr)) (fun i _ => 3 - (intOf i).toNat)
                      case atStart => exact ⟨0, by omega, rfl, Below.refl _ _⟩
                      case round =>
                        obtain ⟨k, hk, rfl, hS⟩ := hrel
                        by_cases hlk : k < 3
                        · have BB := Lib.hid (below_call B2.out hS.out)
                          obtain ⟨ga, oa, rfl, ca⟩ := (HA.out.call BB.out).at (k := at0 + k) (by have := LA.out; have := HK.out; omega)
                          obtain ⟨gb, ob, rfl, cb⟩ := (HB.out.call BB.out).at (k := at0 + k) (by have := LB.out; have := HK.out; omega)
                          have la : at0 + k < a.length := by have := LA.out; have := HK.out; omega
                          have lb : at0 + k < b.length := by have := LB.out; have := HK.out; omega
                          have cw := b3 (M2.out.below hS.out) k hlk
                          have hz := HDD.out k hlk
                          have pk : IntKind.i64.wrap ((at0 : Int) + (k : Int)) = ((at0 + k : Nat) : Int) := by rw [IntWalk.i64_left]; unfold wrap64; omega
                          have ht : want false x y U V k = (if k = 0 then false else if k = 1 then true else false) := by
                            obtain ⟨e0, e1, e2⟩ := W0.out
                            obtain rfl | rfl | rfl : k = 0 ∨ k = 1 ∨ k = 2 := by omega
                            · exact e0
                            · exact e1
                            · exact e2
                          rw [ht] at hz
                          have hk3 : (k : Int) < 3 := by omega
                          generalize (if k = 0 then false else if k = 1 then true else false) = tt at *
                          generalize a.getD (at0 + k) 0 = za at *
                          generalize b.getD (at0 + k) 0 = zb at *
                          have laI : ((at0 + k : Nat) : Int) < (a.length : Int) := by omega
                          have lbI : ((at0 + k : Nat) : Int) < (b.length : Int) := by omega
                          generalize at0 + k = kk at *
                          clear ht BB
                          cases tt with
                          | true =>
                            have hz1 : zb = za + 1 := hz
                            have wz : IntKind.i64.wrap (zb - za) = 1 := by rw [hz1, show za + 1 - za = 1 by omega]; decide
                            clear hz hz1
                            go_wp2_with fail
                            go_quiet (fail)
                            have cw' : (wr.drewN nq).cell? ⟨G, k, none⟩ = some (.bool true) := ((drewN_below wr nq).cell (p := ⟨G, k, none⟩) (cell_lt cw)).trans cw
                            go_wp2_with fail
                            go_roundw
                            case rel => exact ⟨k + 1, by omega, by go_num, below_call hS.out (drewN_below _ _)⟩
                            case measure => simp [intOf]; omega
                          | false =>
                            have hz1 : zb = za := by rw [hz]; show za + 0 = za; omega
                            have wz : IntKind.i64.wrap (zb - za) = 0 := by rw [hz1, show za - za = 0 by omega]; decide
                            clear hz hz1
                            go_wp2_with fail
                            go_quiet (fail)
                            have cw' : (wr.drewN nq).cell? ⟨G, k, none⟩ = some (.bool false) := ((drewN_below wr nq).cell (p := ⟨G, k, none⟩) (cell_lt cw)).trans cw
                            go_wp2_with fail
                            go_roundw
                            case rel => exact ⟨k + 1, by omega, by go_num, below_call hS.out (drewN_below _ _)⟩
                            case measure => simp [intOf]; omega
                        · obtain rfl : k = 3 := by omega
                          go_wp2_with fail
                          go_roundw
                          case rel => exact ⟨U + 1, by omega, by go_num, below_call B2.out hS.out⟩
                          case measure => simp [intOf]; omega
                    | true =>
                      have W0 : Hid (want true x y U V 0 = false ∧ want true x y U V 1 = true ∧ want true x y U V 2 = false) := by
                        have h1 := HX.out
                        have hh0 := G6.out
                        have h2 := HY.out
                        obtain ⟨e0, e1, e2⟩ := HWD.out
                        rw [e0, e1, e2]
                        simp only [true_and, eq_self]
                        exact ⟨by first | (rw [decide_eq_false_iff_not]; omega) | (rw [decide_eq_true_iff]; omega), by first | (rw [decide_eq_false_iff_not]; omega) | (rw [decide_eq_true_iff]; omega), by first | (rw [decide_eq_false_iff_not]; omega) | (rw [decide_eq_true_iff]; omega)⟩
                      have hA := below_alloc (Below.refl _ wr) (.cells #[.bool false, .bool true, .bool false] 77)
                      have B2 := Lib.hid (below_call hT1.out hA)
                      have M2 := Lib.hid (Blk.new wr 77 #[.bool false, .bool true, .bool false])
                      clear hA
                      have q1 : ((U : Int) - x == 0) = true := by have := HX.out; simp; omega
                      have q2 : ((U : Int) - x + 1 == 2) = false := by have := HX.out; simp; omega
                      go_wp2_with fail
                      try rw [q1]
                      try rw [q2]
                      clear s1 s2 s3 s4 p1 p2 p3 mx1 mx2 hdx hdy
                      generalize hG : wr.heap.size = G at *
                      clear hG
                      generalize wr.alloc (.cells #[.bool false, .bool true, .bool false] 77) = w2 at *
                      go_loopw [22] (fun i wr => ∃ k : Nat, k ≤ 3 ∧ i = .int .i64 (k : Int) ∧ Hid (Below w2.heap.size w2 wr)) (fun i _ => 3 - (intOf i).toNat)
                      case atStart => exact ⟨0, by omega, rfl, Below.refl _ _⟩
                      case round =>
                        obtain ⟨k, hk, rfl, hS⟩ := hrel
                        by_cases hlk : k < 3
                        · have BB := Lib.hid (below_call B2.out hS.out)
                          obtain ⟨ga, oa, rfl, ca⟩ := (HA.out.call BB.out).at (k := at0 + k) (by have := LA.out; have := HK.out; omega)
                          obtain ⟨gb, ob, rfl, cb⟩ := (HB.out.call BB.out).at (k := at0 + k) (by have := LB.out; have := HK.out; omega)
                          have la : at0 + k < a.length := by have := LA.out; have := HK.out; omega
                          have lb : at0 + k < b.length := by have := LB.out; have := HK.out; omega
                          have cw := b3 (M2.out.below hS.out) k hlk
                          have hz := HDD.out k hlk
                          have pk : IntKind.i64.wrap ((at0 : Int) + (k : Int)) = ((at0 + k : Nat) : Int) := by rw [IntWalk.i64_left]; unfold wrap64; omega
                          have ht : want true x y U V k = (if k = 0 then false else if k = 1 then true else false) := by
                            obtain ⟨e0, e1, e2⟩ := W0.out
                            obtain rfl | rfl | rfl : k = 0 ∨ k = 1 ∨ k = 2 := by omega
                            · exact e0
                            · exact e1
                            · exact e2
                          rw [ht] at hz
                          have hk3 : (k : Int) < 3 := by omega
                          generalize (if k = 0 then false else if k = 1 then true else false) = tt at *
                          generalize a.getD (at0 + k) 0 = za at *
                          generalize b.getD (at0 + k) 0 = zb at *
                          have laI : ((at0 + k : Nat) : Int) < (a.length : Int) := by omega
                          have lbI : ((at0 + k : Nat) : Int) < (b.length : Int) := by omega
                          generalize at0 + k = kk at *
                          clear ht BB
                          cases tt with
                          | true =>
                            have hz1 : zb = za + 1 := hz
                            have wz : IntKind.i64.wrap (zb - za) = 1 := by rw [hz1, show za + 1 - za = 1 by omega]; decide
                            clear hz hz1
                            go_wp2_with fail
                            go_quiet (fail)
                            have cw' : (wr.drewN nq).cell? ⟨G, k, none⟩ = some (.bool true) := ((drewN_below wr nq).cell (p := ⟨G, k, none⟩) (cell_lt cw)).trans cw
                            go_wp2_with fail
                            go_roundw
                            case rel => exact ⟨k + 1, by omega, by go_num, below_call hS.out (drewN_below _ _)⟩
                            case measure => simp [intOf]; omega
                          | false =>
                            have hz1 : zb = za := by rw [hz]; show za + 0 = za; omega
                            have wz : IntKind.i64.wrap (zb - za) = 0 := by rw [hz1, show za - za = 0 by omega]; decide
                            clear hz hz1
                            go_wp2_with fail
                            go_quiet (fail)
                            have cw' : (wr.drewN nq).cell? ⟨G, k, none⟩ = some (.bool false) := ((drewN_below wr nq).cell (p := ⟨G, k, none⟩) (cell_lt cw)).trans cw
                            go_wp2_with fail
                            go_roundw
                            case rel => exact ⟨k + 1, by omega, by go_num, below_call hS.out (drewN_below _ _)⟩
                            case measure => simp [intOf]; omega
                        · obtain rfl : k = 3 := by omega
                          go_wp2_with fail
                          go_roundw
                          case rel => exact ⟨U + 1, by omega, by go_num, below_call B2.out hS.out⟩
                          case measure => simp [intOf]; omega
                  · have n1 : (y == (V : Int) + 1) = true := by have := HY.out; simp; omega
                    have G6 := Lib.hid g6
                    clear g6
                    cases c with
                    | false =>
                      have W0 : Hid (want false x y U V 0 = false ∧ want false x y U V 1 = true ∧ want false x y U V 2 = false) := by
                        have h1 := HX.out
                        have hh0 := G6.out
                        have h2 := HY.out
                        obtain ⟨e0, e1, e2⟩ := HWD.out
                        rw [e0, e1, e2]
                        simp only [Bool.false_eq_true, false_and, not_false_eq_true, and_true]
                        exact ⟨by first | (rw [decide_eq_false_iff_not]; omega) | (rw [decide_eq_true_iff]; omega), by first | (rw [decide_eq_false_iff_not]; omega) | (rw [decide_eq_true_iff]; omega), by first | (rw [decide_eq_false_iff_not]; omega) | (rw [decide_eq_true_iff]; omega)⟩
                      have hA := below_alloc (Below.refl _ wr) (.cells #[.bool false, .bool true, .bool false] 77)
                      have B2 := Lib.hid (below_call hT1.out hA)
                      have M2 := Lib.hid (Blk.new wr 77 #[.bool false, .bool true, .bool false])
                      clear hA
                      have q1 : ((U : Int) - x == 0) = true := by have := HX.out; simp; omega
                      have q2 : ((U : Int) - x + 1 == 2) = false := by have := HX.out; simp; omega
                      go_wp2_with fail
                      try rw [q1]
                      try rw [q2]
                      clear s1 s2 s3 s4 p1 p2 p3 mx1 mx2 hdx hdy
                      generalize hG : wr.heap.size = G at *
                      clear hG
                      generalize wr.alloc (.cells #[.bool false, .bool true, .bool false] 77) = w2 at *
                      go_loopw [22] (fun i wr => ∃ k : Nat, k ≤ 3 ∧ i = .int .i64 (k : Int) ∧ Hid (Below w2.heap.size w2 wr)) (fun i _ => 3 - (intOf i).toNat)
                      case atStart => exact ⟨0, by omega, rfl, Below.refl _ _⟩
                      case round =>
                        obtain ⟨k, hk, rfl, hS⟩ := hrel
                        by_cases hlk : k < 3
                        · have BB := Lib.hid (below_call B2.out hS.out)
                          obtain ⟨ga, oa, rfl, ca⟩ := (HA.out.call BB.out).at (k := at0 + k) (by have := LA.out; have := HK.out; omega)
                          obtain ⟨gb, ob, rfl, cb⟩ := (HB.out.call BB.out).at (k := at0 + k) (by have := LB.out; have := HK.out; omega)
                          have la : at0 + k < a.length := by have := LA.out; have := HK.out; omega
                          have lb : at0 + k < b.length := by have := LB.out; have := HK.out; omega
                          have cw := b3 (M2.out.below hS.out) k hlk
                          have hz := HDD.out k hlk
                          have pk : IntKind.i64.wrap ((at0 : Int) + (k : Int)) = ((at0 + k : Nat) : Int) := by rw [IntWalk.i64_left]; unfold wrap64; omega
                          have ht : want false x y U V k = (if k = 0 then false else if k = 1 then true else false) := by
                            obtain ⟨e0, e1, e2⟩ := W0.out
                            obtain rfl | rfl | rfl : k = 0 ∨ k = 1 ∨ k = 2 := by omega
                            · exact e0
                            · exact e1
                            · exact e2
                          rw [ht] at hz
                          have hk3 : (k : Int) < 3 := by omega
                          generalize (if k = 0 then false else if k = 1 then true else false) = tt at *
                          generalize a.getD (at0 + k) 0 = za at *
                          generalize b.getD (at0 + k) 0 = zb at *
                          have laI : ((at0 + k : Nat) : Int) < (a.length : Int) := by omega
                          have lbI : ((at0 + k : Nat) : Int) < (b.length : Int) := by omega
                          generalize at0 + k = kk at *
                          clear ht BB
                          cases tt with
                          | true =>
                            have hz1 : zb = za + 1 := hz
                            have wz : IntKind.i64.wrap (zb - za) = 1 := by rw [hz1, show za + 1 - za = 1 by omega]; decide
                            clear hz hz1
                            go_wp2_with fail
                            go_quiet (fail)
                            have cw' : (wr.drewN nq).cell? ⟨G, k, none⟩ = some (.bool true) := ((drewN_below wr nq).cell (p := ⟨G, k, none⟩) (cell_lt cw)).trans cw
                            go_wp2_with fail
                            go_roundw
                            case rel => exact ⟨k + 1, by omega, by go_num, below_call hS.out (drewN_below _ _)⟩
                            case measure => simp [intOf]; omega
                          | false =>
                            have hz1 : zb = za := by rw [hz]; show za + 0 = za; omega
                            have wz : IntKind.i64.wrap (zb - za) = 0 := by rw [hz1, show za - za = 0 by omega]; decide
                            clear hz hz1
                            go_wp2_with fail
                            go_quiet (fail)
                            have cw' : (wr.drewN nq).cell? ⟨G, k, none⟩ = some (.bool false) := ((drewN_below wr nq).cell (p := ⟨G, k, none⟩) (cell_lt cw)).trans cw
                            go_wp2_with fail
                            go_roundw
                            case rel => exact ⟨k + 1, by omega, by go_num, below_call hS.out (drewN_below _ _)⟩
                            case measure => simp [intOf]; omega
                        · obtain rfl : k = 3 := by omega
                          go_wp2_with fail
                          go_roundw
                          case rel => exact ⟨U + 1, by omega, by go_num, below_call B2.out hS.out⟩
                          case measure => simp [intOf]; omega
                    | true =>
                      by_cases g7 : (V : Int) % 4 = 3
                      · have n2 : ((V : Int) % 4 == 3) = true := by simp [g7]
                        have G7 := Lib.hid g7
                        clear g7
                        have W0 : Hid (want true x y U V 0 = false ∧ want true x y U V 1 = false ∧ want true x y U V 2 = false) := by
                          have h1 := HX.out
                          have hh0 := G6.out
                          have hh1 := G7.out
                          have h2 := HY.out
                          obtain ⟨e0, e1, e2⟩ := HWD.out
                          rw [e0, e1, e2]
                          simp only [true_and, eq_self]
                          exact ⟨by first | (rw [decide_eq_false_iff_not]; omega) | (rw [decide_eq_true_iff]; omega), by first | (rw [decide_eq_false_iff_not]; omega) | (rw [decide_eq_true_iff]; omega), by first | (rw [decide_eq_false_iff_not]; omega) | (rw [decide_eq_true_iff]; omega)⟩
                        have hA := below_alloc (Below.refl _ wr) (.cells #[.bool false, .bool false, .bool false] 77)
                        have B2 := Lib.hid (below_call hT1.out hA)
                        have M2 := Lib.hid (Blk.new wr 77 #[.bool false, .bool false, .bool false])
                        clear hA
                        have q1 : ((U : Int) - x == 0) = true := by have := HX.out; simp; omega
                        have q2 : ((U : Int) - x + 1 == 2) = false := by have := HX.out; simp; omega
                        go_wp2_with fail
                        try rw [q1]
                        try rw [q2]
                        clear s1 s2 s3 s4 p1 p2 p3 mx1 mx2 hdx hdy
                        generalize hG : wr.heap.size = G at *
                        clear hG
                        generalize wr.alloc (.cells #[.bool false, .bool false, .bool false] 77) = w2 at *
                        go_loopw [22] (fun i wr => ∃ k : Nat, k ≤ 3 ∧ i = .int .i64 (k : Int) ∧ Hid (Below w2.heap.size w2 wr)) (fun i _ => 3 - (intOf i).toNat)
                        case atStart => exact ⟨0, by omega, rfl, Below.refl _ _⟩
                        case round =>
                          obtain ⟨k, hk, rfl, hS⟩ := hrel
                          by_cases hlk : k < 3
                          · have BB := Lib.hid (below_call B2.out hS.out)
                            obtain ⟨ga, oa, rfl, ca⟩ := (HA.out.call BB.out).at (k := at0 + k) (by have := LA.out; have := HK.out; omega)
                            obtain ⟨gb, ob, rfl, cb⟩ := (HB.out.call BB.out).at (k := at0 + k) (by have := LB.out; have := HK.out; omega)
                            have la : at0 + k < a.length := by have := LA.out; have := HK.out; omega
                            have lb : at0 + k < b.length := by have := LB.out; have := HK.out; omega
                            have cw := b3 (M2.out.below hS.out) k hlk
                            have hz := HDD.out k hlk
                            have pk : IntKind.i64.wrap ((at0 : Int) + (k : Int)) = ((at0 + k : Nat) : Int) := by rw [IntWalk.i64_left]; unfold wrap64; omega
                            have ht : want true x y U V k = (if k = 0 then false else if k = 1 then false else false) := by
                              obtain ⟨e0, e1, e2⟩ := W0.out
                              obtain rfl | rfl | rfl : k = 0 ∨ k = 1 ∨ k = 2 := by omega
                              · exact e0
                              · exact e1
                              · exact e2
                            rw [ht] at hz
                            have hk3 : (k : Int) < 3 := by omega
                            generalize (if k = 0 then false else if k = 1 then false else false) = tt at *
                            generalize a.getD (at0 + k) 0 = za at *
                            generalize b.getD (at0 + k) 0 = zb at *
                            have laI : ((at0 + k : Nat) : Int) < (a.length : Int) := by omega
                            have lbI : ((at0 + k : Nat) : Int) < (b.length : Int) := by omega
                            generalize at0 + k = kk at *
                            clear ht BB
                            cases tt with
                            | true =>
                              have hz1 : zb = za + 1 := hz
                              have wz : IntKind.i64.wrap (zb - za) = 1 := by rw [hz1, show za + 1 - za = 1 by omega]; decide
                              clear hz hz1
                              go_wp2_with fail
                              go_quiet (fail)
                              have cw' : (wr.drewN nq).cell? ⟨G, k, none⟩ = some (.bool true) := ((drewN_below wr nq).cell (p := ⟨G, k, none⟩) (cell_lt cw)).trans cw
                              go_wp2_with fail
                              go_roundw
                              case rel => exact ⟨k + 1, by omega, by go_num, below_call hS.out (drewN_below _ _)⟩
                              case measure => simp [intOf]; omega
                            | false =>
                              have hz1 : zb = za := by rw [hz]; show za + 0 = za; omega
                              have wz : IntKind.i64.wrap (zb - za) = 0 := by rw [hz1, show za - za = 0 by omega]; decide
                              clear hz hz1
                              go_wp2_with fail
                              go_quiet (fail)
                              have cw' : (wr.drewN nq).cell? ⟨G, k, none⟩ = some (.bool false) := ((drewN_below wr nq).cell (p := ⟨G, k, none⟩) (cell_lt cw)).trans cw
                              go_wp2_with fail
                              go_roundw
                              case rel => exact ⟨k + 1, by omega, by go_num, below_call hS.out (drewN_below _ _)⟩
                              case measure => simp [intOf]; omega
                          · obtain rfl : k = 3 := by omega
                            go_wp2_with fail
                            go_roundw
                            case rel => exact ⟨U + 1, by omega, by go_num, below_call B2.out hS.out⟩
                            case measure => simp [intOf]; omega
                      · have n2 : ((V : Int) % 4 == 3) = false := by simp [g7]
                        have G7 := Lib.hid g7
                        clear g7
                        have W0 : Hid (want true x y U V 0 = false ∧ want true x y U V 1 = true ∧ want true x y U V 2 = false) := by
                          have h1 := HX.out
                          have hh0 := G6.out
                          have hh1 := G7.out
                          have h2 := HY.out
                          obtain ⟨e0, e1, e2⟩ := HWD.out
                          rw [e0, e1, e2]
                          simp only [true_and, eq_self]
                          exact ⟨by first | (rw [decide_eq_false_iff_not]; omega) | (rw [decide_eq_true_iff]; omega), by first | (rw [decide_eq_false_iff_not]; omega) | (rw [decide_eq_true_iff]; omega), by first | (rw [decide_eq_false_iff_not]; omega) | (rw [decide_eq_true_iff]; omega)⟩
                        have hA := below_alloc (Below.refl _ wr) (.cells #[.bool false, .bool true, .bool false] 77)
                        have B2 := Lib.hid (below_call hT1.out hA)
                        have M2 := Lib.hid (Blk.new wr 77 #[.bool false, .bool true, .bool false])
                        clear hA
                        have q1 : ((U : Int) - x == 0) = true := by have := HX.out; simp; omega
                        have q2 : ((U : Int) - x + 1 == 2) = false := by have := HX.out; simp; omega
                        go_wp2_with fail
                        try rw [q1]
                        try rw [q2]
                        clear s1 s2 s3 s4 p1 p2 p3 mx1 mx2 hdx hdy
                        generalize hG : wr.heap.size = G at *
                        clear hG
                        generalize wr.alloc (.cells #[.bool false, .bool true, .bool false] 77) = w2 at *
                        go_loopw [22] (fun i wr => ∃ k : Nat, k ≤ 3 ∧ i = .int .i64 (k : Int) ∧ Hid (Below w2.heap.size w2 wr)) (fun i _ => 3 - (intOf i).toNat)
                        case atStart => exact ⟨0, by omega, rfl, Below.refl _ _⟩
                        case round =>
                          obtain ⟨k, hk, rfl, hS⟩ := hrel
                          by_cases hlk : k < 3
                          · have BB := Lib.hid (below_call B2.out hS.out)
                            obtain ⟨ga, oa, rfl, ca⟩ := (HA.out.call BB.out).at (k := at0 + k) (by have := LA.out; have := HK.out; omega)
                            obtain ⟨gb, ob, rfl, cb⟩ := (HB.out.call BB.out).at (k := at0 + k) (by have := LB.out; have := HK.out; omega)
                            have la : at0 + k < a.length := by have := LA.out; have := HK.out; omega
                            have lb : at0 + k < b.length := by have := LB.out; have := HK.out; omega
                            have cw := b3 (M2.out.below hS.out) k hlk
                            have hz := HDD.out k hlk
                            have pk : IntKind.i64.wrap ((at0 : Int) + (k : Int)) = ((at0 + k : Nat) : Int) := by rw [IntWalk.i64_left]; unfold wrap64; omega
                            have ht : want true x y U V k = (if k = 0 then false else if k = 1 then true else false) := by
                              obtain ⟨e0, e1, e2⟩ := W0.out
                              obtain rfl | rfl | rfl : k = 0 ∨ k = 1 ∨ k = 2 := by omega
                              · exact e0
                              · exact e1
                              · exact e2
                            rw [ht] at hz
                            have hk3 : (k : Int) < 3 := by omega
                            generalize (if k = 0 then false else if k = 1 then true else false) = tt at *
                            generalize a.getD (at0 + k) 0 = za at *
                            generalize b.getD (at0 + k) 0 = zb at *
                            have laI : ((at0 + k : Nat) : Int) < (a.length : Int) := by omega
                            have lbI : ((at0 + k : Nat) : Int) < (b.length : Int) := by omega
                            generalize at0 + k = kk at *
                            clear ht BB
                            cases tt with
                            | true =>
                              have hz1 : zb = za + 1 := hz
                              have wz : IntKind.i64.wrap (zb - za) = 1 := by rw [hz1, show za + 1 - za = 1 by omega]; decide
                              clear hz hz1
                              go_wp2_with fail
                              go_quiet (fail)
                              have cw' : (wr.drewN nq).cell? ⟨G, k, none⟩ = some (.bool true) := ((drewN_below wr nq).cell (p := ⟨G, k, none⟩) (cell_lt cw)).trans cw
                              go_wp2_with fail
                              go_roundw
                              case rel => exact ⟨k + 1, by omega, by go_num, below_call hS.out (drewN_below _ _)⟩
                              case measure => simp [intOf]; omega
                            | false =>
                              have hz1 : zb = za := by rw [hz]; show za + 0 = za; omega
                              have wz : IntKind.i64.wrap (zb - za) = 0 := by rw [hz1, show za - za = 0 by omega]; decide
                              clear hz hz1
                              go_wp2_with fail
                              go_quiet (fail)
                              have cw' : (wr.drewN nq).cell? ⟨G, k, none⟩ = some (.bool false) := ((drewN_below wr nq).cell (p := ⟨G, k, none⟩) (cell_lt cw)).trans cw
                              go_wp2_with fail
                              go_roundw
                              case rel => exact ⟨k + 1, by omega, by go_num, below_call hS.out (drewN_below _ _)⟩
                              case measure => simp [intOf]; omega
                          · obtain rfl : k = 3 := by omega
                            go_wp2_with fail
                            go_roundw
                            case rel => exact ⟨U + 1, by omega, by go_num, below_call B2.out hS.out⟩
                            case measure => simp [intOf]; omega
              · have g4 : dx = 1 := by have := HX.out; omega
                subst g4
                clear g3
                by_cases g4 : dy = 0
                · subst g4
                  have n1 : (y == (V : Int) + 1) = false := by have := HY.out; simp; omega
                  cases c with
                  | false =>
                      have W0 : Hid (want false x y U V 0 = true ∧ want false x y U V 1 = false ∧ want false x y U V 2 = false) := by
                        have h1 := HX.out
                        have h2 := HY.out
                        obtain ⟨e0, e1, e2⟩ := HWD.out
                        rw [e0, e1, e2]
                        simp only [Bool.false_eq_true, false_and, not_false_eq_true, and_true]
                        exact ⟨by first | (rw [decide_eq_false_iff_not]; omega) | (rw [decide_eq_true_iff]; omega), by first | (rw [decide_eq_false_iff_not]; omega) | (rw [decide_eq_true_iff]; omega), by first | (rw [decide_eq_false_iff_not]; omega) | (rw [decide_eq_true_iff]; omega)⟩
                      have hA := below_alloc (Below.refl _ wr) (.cells #[.bool true, .bool false, .bool false] 77)
                      have B2 := Lib.hid (below_call hT1.out hA)
                      have M2 := Lib.hid (Blk.new wr 77 #[.bool true, .bool false, .bool false])
                      clear hA
                      have q1 : ((V : Int) - y == 0) = true := by have := HY.out; simp; omega
                      have q2 : (1 + ((V : Int) - y) == 2) = false := by have := HY.out; simp; omega
                      go_wp2_with fail
                      try rw [q1]
                      try rw [q2]
                      clear s1 s2 s3 s4 p1 p2 p3 mx1 mx2 hdx hdy
                      generalize hG : wr.heap.size = G at *
                      clear hG
                      generalize wr.alloc (.cells #[.bool true, .bool false, .bool false] 77) = w2 at *
                      go_loopw [22] (fun i wr => ∃ k : Nat, k ≤ 3 ∧ i = .int .i64 (k : Int) ∧ Hid (Below w2.heap.size w2 wr)) (fun i _ => 3 - (intOf i).toNat)
                      case atStart => exact ⟨0, by omega, rfl, Below.refl _ _⟩
                      case round =>
                        obtain ⟨k, hk, rfl, hS⟩ := hrel
                        by_cases hlk : k < 3
                        · have BB := Lib.hid (below_call B2.out hS.out)
                          obtain ⟨ga, oa, rfl, ca⟩ := (HA.out.call BB.out).at (k := at0 + k) (by have := LA.out; have := HK.out; omega)
                          obtain ⟨gb, ob, rfl, cb⟩ := (HB.out.call BB.out).at (k := at0 + k) (by have := LB.out; have := HK.out; omega)
                          have la : at0 + k < a.length := by have := LA.out; have := HK.out; omega
                          have lb : at0 + k < b.length := by have := LB.out; have := HK.out; omega
                          have cw := b3 (M2.out.below hS.out) k hlk
                          have hz := HDD.out k hlk
                          have pk : IntKind.i64.wrap ((at0 : Int) + (k : Int)) = ((at0 + k : Nat) : Int) := by rw [IntWalk.i64_left]; unfold wrap64; omega
                          have ht : want false x y U V k = (if k = 0 then true else if k = 1 then false else false) := by
                            obtain ⟨e0, e1, e2⟩ := W0.out
                            obtain rfl | rfl | rfl : k = 0 ∨ k = 1 ∨ k = 2 := by omega
                            · exact e0
                            · exact e1
                            · exact e2
                          rw [ht] at hz
                          have hk3 : (k : Int) < 3 := by omega
                          generalize (if k = 0 then true else if k = 1 then false else false) = tt at *
                          generalize a.getD (at0 + k) 0 = za at *
                          generalize b.getD (at0 + k) 0 = zb at *
                          have laI : ((at0 + k : Nat) : Int) < (a.length : Int) := by omega
                          have lbI : ((at0 + k : Nat) : Int) < (b.length : Int) := by omega
                          generalize at0 + k = kk at *
                          clear ht BB
                          cases tt with
                          | true =>
                            have hz1 : zb = za + 1 := hz
                            have wz : IntKind.i64.wrap (zb - za) = 1 := by rw [hz1, show za + 1 - za = 1 by omega]; decide
                            clear hz hz1
                            go_wp2_with fail
                            go_quiet (fail)
                            have cw' : (wr.drewN nq).cell? ⟨G, k, none⟩ = some (.bool true) := ((drewN_below wr nq).cell (p := ⟨G, k, none⟩) (cell_lt cw)).trans cw
                            go_wp2_with fail
                            go_roundw
                            case rel => exact ⟨k + 1, by omega, by go_num, below_call hS.out (drewN_below _ _)⟩
                            case measure => simp [intOf]; omega
                          | false =>
                            have hz1 : zb = za := by rw [hz]; show za + 0 = za; omega
                            have wz : IntKind.i64.wrap (zb - za) = 0 := by rw [hz1, show za - za = 0 by omega]; decide
                            clear hz hz1
                            go_wp2_with fail
                            go_quiet (fail)
                            have cw' : (wr.drewN nq).cell? ⟨G, k, none⟩ = some (.bool false) := ((drewN_below wr nq).cell (p := ⟨G, k, none⟩) (cell_lt cw)).trans cw
                            go_wp2_with fail
                            go_roundw
                            case rel => exact ⟨k + 1, by omega, by go_num, below_call hS.out (drewN_below _ _)⟩
                            case measure => simp [intOf]; omega
                        · obtain rfl : k = 3 := by omega
                          go_wp2_with fail
                          go_roundw
                          case rel => exact ⟨U + 1, by omega, by go_num, below_call B2.out hS.out⟩
                          case measure => simp [intOf]; omega
                  | true =>
                      have W0 : Hid (want true x y U V 0 = true ∧ want true x y U V 1 = false ∧ want true x y U V 2 = false) := by
                        have h1 := HX.out
                        have h2 := HY.out
                        obtain ⟨e0, e1, e2⟩ := HWD.out
                        rw [e0, e1, e2]
                        simp only [true_and, eq_self]
                        exact ⟨by first | (rw [decide_eq_false_iff_not]; omega) | (rw [decide_eq_true_iff]; omega), by first | (rw [decide_eq_false_iff_not]; omega) | (rw [decide_eq_true_iff]; omega), by first | (rw [decide_eq_false_iff_not]; omega) | (rw [decide_eq_true_iff]; omega)⟩
                      have hA := below_alloc (Below.refl _ wr) (.cells #[.bool true, .bool false, .bool false] 77)
                      have B2 := Lib.hid (below_call hT1.out hA)
                      have M2 := Lib.hid (Blk.new wr 77 #[.bool true, .bool false, .bool false])
                      clear hA
                      have q1 : ((V : Int) - y == 0) = true := by have := HY.out; simp; omega
                      have q2 : (1 + ((V : Int) - y) == 2) = false := by have := HY.out; simp; omega
                      go_wp2_with fail
                      try rw [q1]
                      try rw [q2]
                      clear s1 s2 s3 s4 p1 p2 p3 mx1 mx2 hdx hdy
                      generalize hG : wr.heap.size = G at *
                      clear hG
                      generalize wr.alloc (.cells #[.bool true, .bool false, .bool false] 77) = w2 at *
                      go_loopw [22] (fun i wr => ∃ k : Nat, k ≤ 3 ∧ i = .int .i64 (k : Int) ∧ Hid (Below w2.heap.size w2 wr)) (fun i _ => 3 - (intOf i).toNat)
                      case atStart => exact ⟨0, by omega, rfl, Below.refl _ _⟩
                      case round =>
                        obtain ⟨k, hk, rfl, hS⟩ := hrel
                        by_cases hlk : k < 3
                        · have BB := Lib.hid (below_call B2.out hS.out)
                          obtain ⟨ga, oa, rfl, ca⟩ := (HA.out.call BB.out).at (k := at0 + k) (by have := LA.out; have := HK.out; omega)
                          obtain ⟨gb, ob, rfl, cb⟩ := (HB.out.call BB.out).at (k := at0 + k) (by have := LB.out; have := HK.out; omega)
                          have la : at0 + k < a.length := by have := LA.out; have := HK.out; omega
                          have lb : at0 + k < b.length := by have := LB.out; have := HK.out; omega
                          have cw := b3 (M2.out.below hS.out) k hlk
                          have hz := HDD.out k hlk
                          have pk : IntKind.i64.wrap ((at0 : Int) + (k : Int)) = ((at0 + k : Nat) : Int) := by rw [IntWalk.i64_left]; unfold wrap64; omega
                          have ht : want true x y U V k = (if k = 0 then true else if k = 1 then false else false) := by
                            obtain ⟨e0, e1, e2⟩ := W0.out
                            obtain rfl | rfl | rfl : k = 0 ∨ k = 1 ∨ k = 2 := by omega
                            · exact e0
                            · exact e1
                            · exact e2
                          rw [ht] at hz
                          have hk3 : (k : Int) < 3 := by omega
                          generalize (if k = 0 then true else if k = 1 then false else false) = tt at *
                          generalize a.getD (at0 + k) 0 = za at *
                          generalize b.getD (at0 + k) 0 = zb at *
                          have laI : ((at0 + k : Nat) : Int) < (a.length : Int) := by omega
                          have lbI : ((at0 + k : Nat) : Int) < (b.length : Int) := by omega
                          generalize at0 + k = kk at *
                          clear ht BB
                          cases tt with
                          | true =>
                            have hz1 : zb = za + 1 := hz
                            have wz : IntKind.i64.wrap (zb - za) = 1 := by rw [hz1, show za + 1 - za = 1 by omega]; decide
                            clear hz hz1
                            go_wp2_with fail
                            go_quiet (fail)
                            have cw' : (wr.drewN nq).cell? ⟨G, k, none⟩ = some (.bool true) := ((drewN_below wr nq).cell (p := ⟨G, k, none⟩) (cell_lt cw)).trans cw
                            go_wp2_with fail
                            go_roundw
                            case rel => exact ⟨k + 1, by omega, by go_num, below_call hS.out (drewN_below _ _)⟩
                            case measure => simp [intOf]; omega
                          | false =>
                            have hz1 : zb = za := by rw [hz]; show za + 0 = za; omega
                            have wz : IntKind.i64.wrap (zb - za) = 0 := by rw [hz1, show za - za = 0 by omega]; decide
                            clear hz hz1
                            go_wp2_with fail
                            go_quiet (fail)
                            have cw' : (wr.drewN nq).cell? ⟨G, k, none⟩ = some (.bool false) := ((drewN_below wr nq).cell (p := ⟨G, k, none⟩) (cell_lt cw)).trans cw
                            go_wp2_with fail
                            go_roundw
                            case rel => exact ⟨k + 1, by omega, by go_num, below_call hS.out (drewN_below _ _)⟩
                            case measure => simp [intOf]; omega
                        · obtain rfl : k = 3 := by omega
                          go_wp2_with fail
                          go_roundw
                          case rel => exact ⟨U + 1, by omega, by go_num, below_call B2.out hS.out⟩
                          case measure => simp [intOf]; omega
                · skip
                  have g5 : dy = 1 := by have := HY.out; omega
                  subst g5
                  by_cases g6 : (V : Int) = y + 1
                  · have n1 : (y == (V : Int) + 1) = false := by simp; omega
                    have G6 := Lib.hid g6
                    clear g6
                    cases c with
                    | false =>
                      have W0 : Hid (want false x y U V 0 = false ∧ want false x y U V 1 = false ∧ want false x y U V 2 = true) := by
                        have h1 := HX.out
                        have hh0 := G6.out
                        have h2 := HY.out
                        obtain ⟨e0, e1, e2⟩ := HWD.out
                        rw [e0, e1, e2]
                        simp only [Bool.false_eq_true, false_and, not_false_eq_true, and_true]
                        exact ⟨by first | (rw [decide_eq_false_iff_not]; omega) | (rw [decide_eq_true_iff]; omega), by first | (rw [decide_eq_false_iff_not]; omega) | (rw [decide_eq_true_iff]; omega), by first | (rw [decide_eq_false_iff_not]; omega) | (rw [decide_eq_true_iff]; omega)⟩
                      have hA := below_alloc (Below.refl _ wr) (.cells #[.bool false, .bool false, .bool true] 77)
                      have B2 := Lib.hid (below_call hT1.out hA)
                      have M2 := Lib.hid (Blk.new wr 77 #[.bool false, .bool false, .bool true])
                      clear hA
                      go_wp2_with fail
                      clear s1 s2 s3 s4 p1 p2 p3 mx1 mx2 hdx hdy
                      generalize hG : wr.heap.size = G at *
                      clear hG
                      generalize wr.alloc (.cells #[.bool false, .bool false, .bool true] 77) = w2 at *
                      go_loopw [22] (fun i wr => ∃ k : Nat, k ≤ 3 ∧ i = .int .i64 (k : Int) ∧ Hid (Below w2.heap.size w2 wr)) (fun i _ => 3 - (intOf i).toNat)
                      case atStart => exact ⟨0, by omega, rfl, Below.refl _ _⟩
                      case round =>
                        obtain ⟨k, hk, rfl, hS⟩ := hrel
                        by_cases hlk : k < 3
                        · have BB := Lib.hid (below_call B2.out hS.out)
                          obtain ⟨ga, oa, rfl, ca⟩ := (HA.out.call BB.out).at (k := at0 + k) (by have := LA.out; have := HK.out; omega)
                          obtain ⟨gb, ob, rfl, cb⟩ := (HB.out.call BB.out).at (k := at0 + k) (by have := LB.out; have := HK.out; omega)
                          have la : at0 + k < a.length := by have := LA.out; have := HK.out; omega
                          have lb : at0 + k < b.length := by have := LB.out; have := HK.out; omega
                          have cw := b3 (M2.out.below hS.out) k hlk
                          have hz := HDD.out k hlk
                          have pk : IntKind.i64.wrap ((at0 : Int) + (k : Int)) = ((at0 + k : Nat) : Int) := by rw [IntWalk.i64_left]; unfold wrap64; omega
                          have ht : want false x y U V k = (if k = 0 then false else if k = 1 then false else true) := by
                            obtain ⟨e0, e1, e2⟩ := W0.out
                            obtain rfl | rfl | rfl : k = 0 ∨ k = 1 ∨ k = 2 := by omega
                            · exact e0
                            · exact e1
                            · exact e2
                          rw [ht] at hz
                          have hk3 : (k : Int) < 3 := by omega
                          generalize (if k = 0 then false else if k = 1 then false else true) = tt at *
                          generalize a.getD (at0 + k) 0 = za at *
                          generalize b.getD (at0 + k) 0 = zb at *
                          have laI : ((at0 + k : Nat) : Int) < (a.length : Int) := by omega
                          have lbI : ((at0 + k : Nat) : Int) < (b.length : Int) := by omega
                          generalize at0 + k = kk at *
                          clear ht BB
                          cases tt with
                          | true =>
                            have hz1 : zb = za + 1 := hz
                            have wz : IntKind.i64.wrap (zb - za) = 1 := by rw [hz1, show za + 1 - za = 1 by omega]; decide
                            clear hz hz1
                            go_wp2_with fail
                            go_quiet (fail)
                            have cw' : (wr.drewN nq).cell? ⟨G, k, none⟩ = some (.bool true) := ((drewN_below wr nq).cell (p := ⟨G, k, none⟩) (cell_lt cw)).trans cw
                            go_wp2_with fail
                            go_roundw
                            case rel => exact ⟨k + 1, by omega, by go_num, below_call hS.out (drewN_below _ _)⟩
                            case measure => simp [intOf]; omega
                          | false =>
                            have hz1 : zb = za := by rw [hz]; show za + 0 = za; omega
                            have wz : IntKind.i64.wrap (zb - za) = 0 := by rw [hz1, show za - za = 0 by omega]; decide
                            clear hz hz1
                            go_wp2_with fail
                            go_quiet (fail)
                            have cw' : (wr.drewN nq).cell? ⟨G, k, none⟩ = some (.bool false) := ((drewN_below wr nq).cell (p := ⟨G, k, none⟩) (cell_lt cw)).trans cw
                            go_wp2_with fail
                            go_roundw
                            case rel => exact ⟨k + 1, by omega, by go_num, below_call hS.out (drewN_below _ _)⟩
                            case measure => simp [intOf]; omega
                        · obtain rfl : k = 3 := by omega
                          go_wp2_with fail
                          go_roundw
                          case rel => exact ⟨U + 1, by omega, by go_num, below_call B2.out hS.out⟩
                          case measure => simp [intOf]; omega
                    | true =>
                      have W0 : Hid (want true x y U V 0 = false ∧ want true x y U V 1 = false ∧ want true x y U V 2 = true) := by
                        have h1 := HX.out
                        have hh0 := G6.out
                        have h2 := HY.out
                        obtain ⟨e0, e1, e2⟩ := HWD.out
                        rw [e0, e1, e2]
                        simp only [true_and, eq_self]
                        exact ⟨by first | (rw [decide_eq_false_iff_not]; omega) | (rw [decide_eq_true_iff]; omega), by first | (rw [decide_eq_false_iff_not]; omega) | (rw [decide_eq_true_iff]; omega), by first | (rw [decide_eq_false_iff_not]; omega) | (rw [decide_eq_true_iff]; omega)⟩
                      have hA := below_alloc (Below.refl _ wr) (.cells #[.bool false, .bool false, .bool true] 77)
                      have B2 := Lib.hid (below_call hT1.out hA)
                      have M2 := Lib.hid (Blk.new wr 77 #[.bool false, .bool false, .bool true])
                      clear hA
                      go_wp2_with fail
                      clear s1 s2 s3 s4 p1 p2 p3 mx1 mx2 hdx hdy
                      generalize hG : wr.heap.size = G at *
                      clear hG
                      generalize wr.alloc (.cells #[.bool false, .bool false, .bool true] 77) = w2 at *
                      go_loopw [22] (fun i wr => ∃ k : Nat, k ≤ 3 ∧ i = .int .i64 (k : Int) ∧ Hid (Below w2.heap.size w2 wr)) (fun i _ => 3 - (intOf i).toNat)
                      case atStart => exact ⟨0, by omega, rfl, Below.refl _ _⟩
                      case round =>
                        obtain ⟨k, hk, rfl, hS⟩ := hrel
                        by_cases hlk : k < 3
                        · have BB := Lib.hid (below_call B2.out hS.out)
                          obtain ⟨ga, oa, rfl, ca⟩ := (HA.out.call BB.out).at (k := at0 + k) (by have := LA.out; have := HK.out; omega)
                          obtain ⟨gb, ob, rfl, cb⟩ := (HB.out.call BB.out).at (k := at0 + k) (by have := LB.out; have := HK.out; omega)
                          have la : at0 + k < a.length := by have := LA.out; have := HK.out; omega
                          have lb : at0 + k < b.length := by have := LB.out; have := HK.out; omega
                          have cw := b3 (M2.out.below hS.out) k hlk
                          have hz := HDD.out k hlk
                          have pk : IntKind.i64.wrap ((at0 : Int) + (k : Int)) = ((at0 + k : Nat) : Int) := by rw [IntWalk.i64_left]; unfold wrap64; omega
                          have ht : want true x y U V k = (if k = 0 then false else if k = 1 then false else true) := by
                            obtain ⟨e0, e1, e2⟩ := W0.out
                            obtain rfl | rfl | rfl : k = 0 ∨ k = 1 ∨ k = 2 := by omega
                            · exact e0
                            · exact e1
                            · exact e2
                          rw [ht] at hz
                          have hk3 : (k : Int) < 3 := by omega
                          generalize (if k = 0 then false else if k = 1 then false else true) = tt at *
                          generalize a.getD (at0 + k) 0 = za at *
                          generalize b.getD (at0 + k) 0 = zb at *
                          have laI : ((at0 + k : Nat) : Int) < (a.length : Int) := by omega
                          have lbI : ((at0 + k : Nat) : Int) < (b.length : Int) := by omega
                          generalize at0 + k = kk at *
                          clear ht BB
                          cases tt with
                          | true =>
                            have hz1 : zb = za + 1 := hz
                            have wz : IntKind.i64.wrap (zb - za) = 1 := by rw [hz1, show za + 1 - za = 1 by omega]; decide
                            clear hz hz1
                            go_wp2_with fail
                            go_quiet (fail)
                            have cw' : (wr.drewN nq).cell? ⟨G, k, none⟩ = some (.bool true) := ((drewN_below wr nq).cell (p := ⟨G, k, none⟩) (cell_lt cw)).trans cw
                            go_wp2_with fail
                            go_roundw
                            case rel => exact ⟨k + 1, by omega, by go_num, below_call hS.out (drewN_below _ _)⟩
                            case measure => simp [intOf]; omega
                          | false =>
                            have hz1 : zb = za := by rw [hz]; show za + 0 = za; omega
                            have wz : IntKind.i64.wrap (zb - za) = 0 := by rw [hz1, show za - za = 0 by omega]; decide
                            clear hz hz1
                            go_wp2_with fail
                            go_quiet (fail)
                            have cw' : (wr.drewN nq).cell? ⟨G, k, none⟩ = some (.bool false) := ((drewN_below wr nq).cell (p := ⟨G, k, none⟩) (cell_lt cw)).trans cw
                            go_wp2_with fail
                            go_roundw
                            case rel => exact ⟨k + 1, by omega, by go_num, below_call hS.out (drewN_below _ _)⟩
                            case measure => simp [intOf]; omega
                        · obtain rfl : k = 3 := by omega
                          go_wp2_with fail
                          go_roundw
                          case rel => exact ⟨U + 1, by omega, by go_num, below_call B2.out hS.out⟩
                          case measure => simp [intOf]; omega
                  · have n1 : (y == (V : Int) + 1) = true := by have := HY.out; simp; omega
                    have G6 := Lib.hid g6
                    clear g6
                    cases c with
                    | false =>
                      have W0 : Hid (want false x y U V 0 = false ∧ want false x y U V 1 = false ∧ want false x y U V 2 = true) := by
                        have h1 := HX.out
                        have hh0 := G6.out
                        have h2 := HY.out
                        obtain ⟨e0, e1, e2⟩ := HWD.out
                        rw [e0, e1, e2]
                        simp only [Bool.false_eq_true, false_and, not_false_eq_true, and_true]
                        exact ⟨by first | (rw [decide_eq_false_iff_not]; omega) | (rw [decide_eq_true_iff]; omega), by first | (rw [decide_eq_false_iff_not]; omega) | (rw [decide_eq_true_iff]; omega), by first | (rw [decide_eq_false_iff_not]; omega) | (rw [decide_eq_true_iff]; omega)⟩
                      have hA := below_alloc (Below.refl _ wr) (.cells #[.bool false, .bool false, .bool true] 77)
                      have B2 := Lib.hid (below_call hT1.out hA)
                      have M2 := Lib.hid (Blk.new wr 77 #[.bool false, .bool false, .bool true])
                      clear hA
                      go_wp2_with fail
                      clear s1 s2 s3 s4 p1 p2 p3 mx1 mx2 hdx hdy
                      generalize hG : wr.heap.size = G at *
                      clear hG
                      generalize wr.alloc (.cells #[.bool false, .bool false, .bool true] 77) = w2 at *
                      go_loopw [22] (fun i wr => ∃ k : Nat, k ≤ 3 ∧ i = .int .i64 (k : Int) ∧ Hid (Below w2.heap.size w2 wr)) (fun i _ => 3 - (intOf i).toNat)
                      case atStart => exact ⟨0, by omega, rfl, Below.refl _ _⟩
                      case round =>
                        obtain ⟨k, hk, rfl, hS⟩ := hrel
                        by_cases hlk : k < 3
                        · have BB := Lib.hid (below_call B2.out hS.out)
                          obtain ⟨ga, oa, rfl, ca⟩ := (HA.out.call BB.out).at (k := at0 + k) (by have := LA.out; have := HK.out; omega)
                          obtain ⟨gb, ob, rfl, cb⟩ := (HB.out.call BB.out).at (k := at0 + k) (by have := LB.out; have := HK.out; omega)
                          have la : at0 + k < a.length := by have := LA.out; have := HK.out; omega
                          have lb : at0 + k < b.length := by have := LB.out; have := HK.out; omega
                          have cw := b3 (M2.out.below hS.out) k hlk
                          have hz := HDD.out k hlk
                          have pk : IntKind.i64.wrap ((at0 : Int) + (k : Int)) = ((at0 + k : Nat) : Int) := by rw [IntWalk.i64_left]; unfold wrap64; omega
                          have ht : want false x y U V k = (if k = 0 then false else if k = 1 then false else true) := by
                            obtain ⟨e0, e1, e2⟩ := W0.out
                            obtain rfl | rfl | rfl : k = 0 ∨ k = 1 ∨ k = 2 := by omega
                            · exact e0
                            · exact e1
                            · exact e2
                          rw [ht] at hz
                          have hk3 : (k : Int) < 3 := by omega
                          generalize (if k = 0 then false else if k = 1 then false else true) = tt at *
                          generalize a.getD (at0 + k) 0 = za at *
                          generalize b.getD (at0 + k) 0 = zb at *
                          have laI : ((at0 + k : Nat) : Int) < (a.length : Int) := by omega
                          have lbI : ((at0 + k : Nat) : Int) < (b.length : Int) := by omega
                          generalize at0 + k = kk at *
                          clear ht BB
                          cases tt with
                          | true =>
                            have hz1 : zb = za + 1 := hz
                            have wz : IntKind.i64.wrap (zb - za) = 1 := by rw [hz1, show za + 1 - za = 1 by omega]; decide
                            clear hz hz1
                            go_wp2_with fail
                            go_quiet (fail)
                            have cw' : (wr.drewN nq).cell? ⟨G, k, none⟩ = some (.bool true) := ((drewN_below wr nq).cell (p := ⟨G, k, none⟩) (cell_lt cw)).trans cw
                            go_wp2_with fail
                            go_roundw
                            case rel => exact ⟨k + 1, by omega, by go_num, below_call hS.out (drewN_below _ _)⟩
                            case measure => simp [intOf]; omega
                          | false =>
                            have hz1 : zb = za := by rw [hz]; show za + 0 = za; omega
                            have wz : IntKind.i64.wrap (zb - za) = 0 := by rw [hz1, show za - za = 0 by omega]; decide
                            clear hz hz1
                            go_wp2_with fail
                            go_quiet (fail)
                            have cw' : (wr.drewN nq).cell? ⟨G, k, none⟩ = some (.bool false) := ((drewN_below wr nq).cell (p := ⟨G, k, none⟩) (cell_lt cw)).trans cw
                            go_wp2_with fail
                            go_roundw
                            case rel => exact ⟨k + 1, by omega, by go_num, below_call hS.out (drewN_below _ _)⟩
                            case measure => simp [intOf]; omega
                        · obtain rfl : k = 3 := by omega
                          go_wp2_with fail
                          go_roundw
                          case rel => exact ⟨U + 1, by omega, by go_num, below_call B2.out hS.out⟩
                          case measure => simp [intOf]; omega
                    | true =>
                      by_cases g7 : (V : Int) % 4 = 3
                      · have n2 : ((V : Int) % 4 == 3) = true := by simp [g7]
                        have G7 := Lib.hid g7
                        clear g7
                        have W0 : Hid (want true x y U V 0 = false ∧ want true x y U V 1 = false ∧ want true x y U V 2 = false) := by
                          have h1 := HX.out
                          have hh0 := G6.out
                          have hh1 := G7.out
                          have h2 := HY.out
                          obtain ⟨e0, e1, e2⟩ := HWD.out
                          rw [e0, e1, e2]
                          simp only [true_and, eq_self]
                          exact ⟨by first | (rw [decide_eq_false_iff_not]; omega) | (rw [decide_eq_true_iff]; omega), by first | (rw [decide_eq_false_iff_not]; omega) | (rw [decide_eq_true_iff]; omega), by first | (rw [decide_eq_false_iff_not]; omega) | (rw [decide_eq_true_iff]; omega)⟩
                        have hA := below_alloc (Below.refl _ wr) (.cells #[.bool false, .bool false, .bool false] 77)
                        have B2 := Lib.hid (below_call hT1.out hA)
                        have M2 := Lib.hid (Blk.new wr 77 #[.bool false, .bool false, .bool false])
                        clear hA
                        go_wp2_with fail
                        clear s1 s2 s3 s4 p1 p2 p3 mx1 mx2 hdx hdy
                        generalize hG : wr.heap.size = G at *
                        clear hG
                        generalize wr.alloc (.cells #[.bool false, .bool false, .bool false] 77) = w2 at *
                        go_loopw [22] (fun i wr => ∃ k : Nat, k ≤ 3 ∧ i = .int .i64 (k : Int) ∧ Hid (Below w2.heap.size w2 wr)) (fun i _ => 3 - (intOf i).toNat)
                        case atStart => exact ⟨0, by omega, rfl, Below.refl _ _⟩
                        case round =>
                          obtain ⟨k, hk, rfl, hS⟩ := hrel
                          by_cases hlk : k < 3
                          · have BB := Lib.hid (below_call B2.out hS.out)
                            obtain ⟨ga, oa, rfl, ca⟩ := (HA.out.call BB.out).at (k := at0 + k) (by have := LA.out; have := HK.out; omega)
                            obtain ⟨gb, ob, rfl, cb⟩ := (HB.out.call BB.out).at (k := at0 + k) (by have := LB.out; have := HK.out; omega)
                            have la : at0 + k < a.length := by have := LA.out; have := HK.out; omega
                            have lb : at0 + k < b.length := by have := LB.out; have := HK.out; omega
                            have cw := b3 (M2.out.below hS.out) k hlk
                            have hz := HDD.out k hlk
                            have pk : IntKind.i64.wrap ((at0 : Int) + (k : Int)) = ((at0 + k : Nat) : Int) := by rw [IntWalk.i64_left]; unfold wrap64; omega
                            have ht : want true x y U V k = (if k = 0 then false else if k = 1 then false else false) := by
                              obtain ⟨e0, e1, e2⟩ := W0.out
                              obtain rfl | rfl | rfl : k = 0 ∨ k = 1 ∨ k = 2 := by omega
                              · exact e0
                              · exact e1
                              · exact e2
                            rw [ht] at hz
                            have hk3 : (k : Int) < 3 := by omega
                            generalize (if k = 0 then false else if k = 1 then false else false) = tt at *
                            generalize a.getD (at0 + k) 0 = za at *
                            generalize b.getD (at0 + k) 0 = zb at *
                            have laI : ((at0 + k : Nat) : Int) < (a.length : Int) := by omega
                            have lbI : ((at0 + k : Nat) : Int) < (b.length : Int) := by omega
                            generalize at0 + k = kk at *
                            clear ht BB
                            cases tt with
                            | true =>
                              have hz1 : zb = za + 1 := hz
                              have wz : IntKind.i64.wrap (zb - za) = 1 := by rw [hz1, show za + 1 - za = 1 by omega]; decide
                              clear hz hz1
                              go_wp2_with fail
                              go_quiet (fail)
                              have cw' : (wr.drewN nq).cell? ⟨G, k, none⟩ = some (.bool true) := ((drewN_below wr nq).cell (p := ⟨G, k, none⟩) (cell_lt cw)).trans cw
                              go_wp2_with fail
                              go_roundw
                              case rel => exact ⟨k + 1, by omega, by go_num, below_call hS.out (drewN_below _ _)⟩
                              case measure => simp [intOf]; omega
                            | false =>
                              have hz1 : zb = za := by rw [hz]; show za + 0 = za; omega
                              have wz : IntKind.i64.wrap (zb - za) = 0 := by rw [hz1, show za - za = 0 by omega]; decide
                              clear hz hz1
                              go_wp2_with fail
                              go_quiet (fail)
                              have cw' : (wr.drewN nq).cell? ⟨G, k, none⟩ = some (.bool false) := ((drewN_below wr nq).cell (p := ⟨G, k, none⟩) (cell_lt cw)).trans cw
                              go_wp2_with fail
                              go_roundw
                              case rel => exact ⟨k + 1, by omega, by go_num, below_call hS.out (drewN_below _ _)⟩
                              case measure => simp [intOf]; omega
                          · obtain rfl : k = 3 := by omega
                            go_wp2_with fail
                            go_roundw
                            case rel => exact ⟨U + 1, by omega, by go_num, below_call B2.out hS.out⟩
                            case measure => simp [intOf]; omega
                      · have n2 : ((V : Int) % 4 == 3) = false := by simp [g7]
                        have G7 := Lib.hid g7
                        clear g7
                        have W0 : Hid (want true x y U V 0 = false ∧ want true x y U V 1 = false ∧ want true x y U V 2 = true) := by
                          have h1 := HX.out
                          have hh0 := G6.out
                          have hh1 := G7.out
                          have h2 := HY.out
                          obtain ⟨e0, e1, e2⟩ := HWD.out
                          rw [e0, e1, e2]
                          simp only [true_and, eq_self]
                          exact ⟨by first | (rw [decide_eq_false_iff_not]; omega) | (rw [decide_eq_true_iff]; omega), by first | (rw [decide_eq_false_iff_not]; omega) | (rw [decide_eq_true_iff]; omega), by first | (rw [decide_eq_false_iff_not]; omega) | (rw [decide_eq_true_iff]; omega)⟩
                        have hA := below_alloc (Below.refl _ wr) (.cells #[.bool false, .bool false, .bool true] 77)
                        have B2 := Lib.hid (below_call hT1.out hA)
                        have M2 := Lib.hid (Blk.new wr 77 #[.bool false, .bool false, .bool true])
                        clear hA
                        go_wp2_with fail
                        clear s1 s2 s3 s4 p1 p2 p3 mx1 mx2 hdx hdy
                        generalize hG : wr.heap.size = G at *
                        clear hG
                        generalize wr.alloc (.cells #[.bool false, .bool false, .bool true] 77) = w2 at *
                        go_loopw [22] (fun i wr => ∃ k : Nat, k ≤ 3 ∧ i = .int .i64 (k : Int) ∧ Hid (Below w2.heap.size w2 wr)) (fun i _ => 3 - (intOf i).toNat)
                        case atStart => exact ⟨0, by omega, rfl, Below.refl _ _⟩
                        case round =>
                          obtain ⟨k, hk, rfl, hS⟩ := hrel
                          by_cases hlk : k < 3
                          · have BB := Lib.hid (below_call B2.out hS.out)
                            obtain ⟨ga, oa, rfl, ca⟩ := (HA.out.call BB.out).at (k := at0 + k) (by have := LA.out; have := HK.out; omega)
                            obtain ⟨gb, ob, rfl, cb⟩ := (HB.out.call BB.out).at (k := at0 + k) (by have := LB.out; have := HK.out; omega)
                            have la : at0 + k < a.length := by have := LA.out; have := HK.out; omega
                            have lb : at0 + k < b.length := by have := LB.out; have := HK.out; omega
                            have cw := b3 (M2.out.below hS.out) k hlk
                            have hz := HDD.out k hlk
                            have pk : IntKind.i64.wrap ((at0 : Int) + (k : Int)) = ((at0 + k : Nat) : Int) := by rw [IntWalk.i64_left]; unfold wrap64; omega
                            have ht : want true x y U V k = (if k = 0 then false else if k = 1 then false else true) := by
                              obtain ⟨e0, e1, e2⟩ := W0.out
                              obtain rfl | rfl | rfl : k = 0 ∨ k = 1 ∨ k = 2 := by omega
                              · exact e0
                              · exact e1
                              · exact e2
                            rw [ht] at hz
                            have hk3 : (k : Int) < 3 := by omega
                            generalize (if k = 0 then false else if k = 1 then false else true) = tt at *
                            generalize a.getD (at0 + k) 0 = za at *
                            generalize b.getD (at0 + k) 0 = zb at *
                            have laI : ((at0 + k : Nat) : Int) < (a.length : Int) := by omega
                            have lbI : ((at0 + k : Nat) : Int) < (b.length : Int) := by omega
                            generalize at0 + k = kk at *
                            clear ht BB
                            cases tt with
                            | true =>
                              have hz1 : zb = za + 1 := hz
                              have wz : IntKind.i64.wrap (zb - za) = 1 := by rw [hz1, show za + 1 - za = 1 by omega]; decide
                              clear hz hz1
                              go_wp2_with fail
                              go_quiet (fail)
                              have cw' : (wr.drewN nq).cell? ⟨G, k, none⟩ = some (.bool true) := ((drewN_below wr nq).cell (p := ⟨G, k, none⟩) (cell_lt cw)).trans cw
                              go_wp2_with fail
                              go_roundw
                              case rel => exact ⟨k + 1, by omega, by go_num, below_call hS.out (drewN_below _ _)⟩
                              case measure => simp [intOf]; omega
                            | false =>
                              have hz1 : zb = za := by rw [hz]; show za + 0 = za; omega
                              have wz : IntKind.i64.wrap (zb - za) = 0 := by rw [hz1, show za - za = 0 by omega]; decide
                              clear hz hz1
                              go_wp2_with fail
                              go_quiet (fail)
                              have cw' : (wr.drewN nq).cell? ⟨G, k, none⟩ = some (.bool false) := ((drewN_below wr nq).cell (p := ⟨G, k, none⟩) (cell_lt cw)).trans cw
                              go_wp2_with fail
                              go_roundw
                              case rel => exact ⟨k + 1, by omega, by go_num, below_call hS.out (drewN_below _ _)⟩
                              case measure => simp [intOf]; omega
                          · obtain rfl : k = 3 := by omega
                            go_wp2_with fail
                            go_roundw
                            case rel => exact ⟨U + 1, by omega, by go_num, below_call B2.out hS.out⟩
                            case measure => simp [intOf]; omega
            · skip
              have W0 : Hid (want c x y U V 0 = false ∧ want c x y U V 1 = false ∧ want c x y U V 2 = false) := by
                have h1 := HX.out
                have h2 := HY.out
                obtain ⟨e0, e1, e2⟩ := HWD.out
                rw [e0, e1, e2]
                skip
                exact ⟨by first | (rw [decide_eq_false_iff_not]; omega) | (rw [decide_eq_true_iff]; omega), by first | (rw [decide_eq_false_iff_not]; omega) | (rw [decide_eq_true_iff]; omega), by first | (rw [decide_eq_false_iff_not]; omega) | (rw [decide_eq_true_iff]; omega)⟩
              have hA := below_alloc (Below.refl _ wr) (.cells #[.bool false, .bool false, .bool false] 77)
              have B2 := Lib.hid (below_call hT1.out hA)
              have M2 := Lib.hid (Blk.new wr 77 #[.bool false, .bool false, .bool false])
              clear hA
              go_wp2_with fail
              clear s1 s2 s3 s4 p1 p2 p3 mx1 mx2 hdx hdy
              generalize hG : wr.heap.size = G at *
              clear hG
              generalize wr.alloc (.cells #[.bool false, .bool false, .bool false] 77) = w2 at *
              go_loopw [22] (fun i wr => ∃ k : Nat, k ≤ 3 ∧ i = .int .i64 (k : Int) ∧ Hid (Below w2.heap.size w2 wr)) (fun i _ => 3 - (intOf i).toNat)
              case atStart => exact ⟨0, by omega, rfl, Below.refl _ _⟩
              case round =>
                obtain ⟨k, hk, rfl, hS⟩ := hrel
                by_cases hlk : k < 3
                · have BB := Lib.hid (below_call B2.out hS.out)
                  obtain ⟨ga, oa, rfl, ca⟩ := (HA.out.call BB.out).at (k := at0 + k) (by have := LA.out; have := HK.out; omega)
                  obtain ⟨gb, ob, rfl, cb⟩ := (HB.out.call BB.out).at (k := at0 + k) (by have := LB.out; have := HK.out; omega)
                  have la : at0 + k < a.length := by have := LA.out; have := HK.out; omega
                  have lb : at0 + k < b.length := by have := LB.out; have := HK.out; omega
                  have cw := b3 (M2.out.below hS.out) k hlk
                  have hz := HDD.out k hlk
                  have pk : IntKind.i64.wrap ((at0 : Int) + (k : Int)) = ((at0 + k : Nat) : Int) := by rw [IntWalk.i64_left]; unfold wrap64; omega
                  have ht : want c x y U V k = (if k = 0 then false else if k = 1 then false else false) := by
                    obtain ⟨e0, e1, e2⟩ := W0.out
                    obtain rfl | rfl | rfl : k = 0 ∨ k = 1 ∨ k = 2 := by omega
                    · exact e0
                    · exact e1
                    · exact e2
                  rw [ht] at hz
                  have hk3 : (k : Int) < 3 := by omega
                  generalize (if k = 0 then false else if k = 1 then false else false) = tt at *
                  generalize a.getD (at0 + k) 0 = za at *
                  generalize b.getD (at0 + k) 0 = zb at *
                  have laI : ((at0 + k : Nat) : Int) < (a.length : Int) := by omega
                  have lbI : ((at0 + k : Nat) : Int) < (b.length : Int) := by omega
                  generalize at0 + k = kk at *
                  clear ht BB
                  cases tt with
                  | true =>
                    have hz1 : zb = za + 1 := hz
                    have wz : IntKind.i64.wrap (zb - za) = 1 := by rw [hz1, show za + 1 - za = 1 by omega]; decide
                    clear hz hz1
                    go_wp2_with fail
                    go_quiet (fail)
                    have cw' : (wr.drewN nq).cell? ⟨G, k, none⟩ = some (.bool true) := ((drewN_below wr nq).cell (p := ⟨G, k, none⟩) (cell_lt cw)).trans cw
                    go_wp2_with fail
                    go_roundw
                    case rel => exact ⟨k + 1, by omega, by go_num, below_call hS.out (drewN_below _ _)⟩
                    case measure => simp [intOf]; omega
                  | false =>
                    have hz1 : zb = za := by rw [hz]; show za + 0 = za; omega
                    have wz : IntKind.i64.wrap (zb - za) = 0 := by rw [hz1, show za - za = 0 by omega]; decide
                    clear hz hz1
                    go_wp2_with fail
                    go_quiet (fail)
                    have cw' : (wr.drewN nq).cell? ⟨G, k, none⟩ = some (.bool false) := ((drewN_below wr nq).cell (p := ⟨G, k, none⟩) (cell_lt cw)).trans cw
                    go_wp2_with fail
                    go_roundw
                    case rel => exact ⟨k + 1, by omega, by go_num, below_call hS.out (drewN_below _ _)⟩
                    case measure => simp [intOf]; omega
                · obtain rfl : k = 3 := by omega
                  go_wp2_with fail
                  go_roundw
                  case rel => exact ⟨U + 1, by omega, by go_num, below_call B2.out hS.out⟩
                  case measure => simp [intOf]; omega
          · skip
            have W0 : Hid (want c x y U V 0 = false ∧ want c x y U V 1 = false ∧ want c x y U V 2 = false) := by
              have h1 := HX.out
              have h2 := HY.out
              obtain ⟨e0, e1, e2⟩ := HWD.out
              rw [e0, e1, e2]
              skip
              exact ⟨by first | (rw [decide_eq_false_iff_not]; omega) | (rw [decide_eq_true_iff]; omega), by first | (rw [decide_eq_false_iff_not]; omega) | (rw [decide_eq_true_iff]; omega), by first | (rw [decide_eq_false_iff_not]; omega) | (rw [decide_eq_true_iff]; omega)⟩
            have hA := below_alloc (Below.refl _ wr) (.cells #[.bool false, .bool false, .bool false] 77)
            have B2 := Lib.hid (below_call hT1.out hA)
            have M2 := Lib.hid (Blk.new wr 77 #[.bool false, .bool false, .bool false])
            clear hA
            go_wp2_with fail
            clear s1 s2 s3 s4 p1 p2 p3 mx1 mx2 hdx hdy
            generalize hG : wr.heap.size = G at *
            clear hG
            generalize wr.alloc (.cells #[.bool false, .bool false, .bool false] 77) = w2 at *
            go_loopw [22] (fun i wr => ∃ k : Nat, k ≤ 3 ∧ i = .int .i64 (k : Int) ∧ Hid (Below w2.heap.size w2 wr)) (fun i _ => 3 - (intOf i).toNat)
            case atStart => exact ⟨0, by omega, rfl, Below.refl _ _⟩
            case round =>
              obtain ⟨k, hk, rfl, hS⟩ := hrel
              by_cases hlk : k < 3
              · have BB := Lib.hid (below_call B2.out hS.out)
                obtain ⟨ga, oa, rfl, ca⟩ := (HA.out.call BB.out).at (k := at0 + k) (by have := LA.out; have := HK.out; omega)
                obtain ⟨gb, ob, rfl, cb⟩ := (HB.out.call BB.out).at (k := at0 + k) (by have := LB.out; have := HK.out; omega)
                have la : at0 + k < a.length := by have := LA.out; have := HK.out; omega
                have lb : at0 + k < b.length := by have := LB.out; have := HK.out; omega
                have cw := b3 (M2.out.below hS.out) k hlk
                have hz := HDD.out k hlk
                have pk : IntKind.i64.wrap ((at0 : Int) + (k : Int)) = ((at0 + k : Nat) : Int) := by rw [IntWalk.i64_left]; unfold wrap64; omega
                have ht : want c x y U V k = (if k = 0 then false else if k = 1 then false else false) := by
                  obtain ⟨e0, e1, e2⟩ := W0.out
                  obtain rfl | rfl | rfl : k = 0 ∨ k = 1 ∨ k = 2 := by omega
                  · exact e0
                  · exact e1
                  · exact e2
                rw [ht] at hz
                have hk3 : (k : Int) < 3 := by omega
                generalize (if k = 0 then false else if k = 1 then false else false) = tt at *
                generalize a.getD (at0 + k) 0 = za at *
                generalize b.getD (at0 + k) 0 = zb at *
                have laI : ((at0 + k : Nat) : Int) < (a.length : Int) := by omega
                have lbI : ((at0 + k : Nat) : Int) < (b.length : Int) := by omega
                generalize at0 + k = kk at *
                clear ht BB
                cases tt with
                | true =>
                  have hz1 : zb = za + 1 := hz
                  have wz : IntKind.i64.wrap (zb - za) = 1 := by rw [hz1, show za + 1 - za = 1 by omega]; decide
                  clear hz hz1
                  go_wp2_with fail
                  go_quiet (fail)
                  have cw' : (wr.drewN nq).cell? ⟨G, k, none⟩ = some (.bool true) := ((drewN_below wr nq).cell (p := ⟨G, k, none⟩) (cell_lt cw)).trans cw
                  go_wp2_with fail
                  go_roundw
                  case rel => exact ⟨k + 1, by omega, by go_num, below_call hS.out (drewN_below _ _)⟩
                  case measure => simp [intOf]; omega
                | false =>
                  have hz1 : zb = za := by rw [hz]; show za + 0 = za; omega
                  have wz : IntKind.i64.wrap (zb - za) = 0 := by rw [hz1, show za - za = 0 by omega]; decide
                  clear hz hz1
                  go_wp2_with fail
                  go_quiet (fail)
                  have cw' : (wr.drewN nq).cell? ⟨G, k, none⟩ = some (.bool false) := ((drewN_below wr nq).cell (p := ⟨G, k, none⟩) (cell_lt cw)).trans cw
                  go_wp2_with fail
                  go_roundw
                  case rel => exact ⟨k + 1, by omega, by go_num, below_call hS.out (drewN_below _ _)⟩
                  case measure => simp [intOf]; omega
              · obtain rfl : k = 3 := by omega
                go_wp2_with fail
                go_roundw
                case rel => exact ⟨U + 1, by omega, by go_num, below_call B2.out hS.out⟩
                case measure => simp [intOf]; omega
        · obtain rfl : U = w := by omega
          go_wp2_with fail
          go_roundw
          case rel => exact ⟨V + 1, by omega, by go_num, hT⟩
          case measure => simp [intOf]; omega
    · obtain rfl : V = h := by omega
      go_wp2_with fail
      go_ret
      exact ⟨rfl, hT.out⟩
theorem grows {q q' : St} {w h : Nat} {x y : Int} {c : Bool} (hs : q.s x y = false) (hq : q' = { q with s := upd q.s x y true }) (U V : Nat) (hU : U < w) (hV : V < h) (i : Nat) (hi : i < 3) :
    (cntL q' w c h).getD (3 * (V * w + U) + i) 0 = (cntL q w c h).getD (3 * (V * w + U) + i) 0 + b8 (want c x y U V i) := by
  obtain ⟨a0, a1, a2⟩ := cntL_at q w c h U V hU hV
  obtain ⟨b0, b1, b2⟩ := cntL_at q' w c h U V hU hV
  obtain rfl | rfl | rfl : i = 0 ∨ i = 1 ∨ i = 2 := by omega
  · rw [Nat.add_zero, a0, b0, hq]; exact grow_H q x y U V c hs
  · rw [a1, b1, hq]; exact grow_V q x y U V c hs
  · rw [a2, b2, hq]; exact grow_D q x y U V c hs
end Go.Proofs.Ytdpfojenljejiaa
