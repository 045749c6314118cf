/-
  Layer 14: the reference's block: New, changes.
-/
import Derived.Test.YtbhjapgioaiocaaDoorRa
import Derived.Test.YtbhjapgioaiocaaDoorPe
set_option maxRecDepth 100000
namespace Go.Proofs.YtbhjapgioaiocaaDoor
open Go.RowKit

theorem newR_no (w h : Int) (hf : ¬ fits w h) (W : World) : Calls Tryd.prog 41 #[.int .i64 w, .int .i64 h] W fun e w' => e = .returned (.tuple #[.pointer none, .int .i64 2]) ∧ W = w' := by
  have k := valid_n w h hf
  clear hf
  go_enter Tryd.func41, Tryd.ntmps41
  go_wp2_with (first | (go_at_call 84; (with_reducible refine (k _).mono ?_); rintro e wn ⟨rfl, rfl⟩))
  go_ret2
  exact ⟨rfl, rfl⟩
theorem infoC : (Tryd.prog.info? 110).map (fun i => (i.zero, i.size, i.bytes)) = some (some (.agg #[.int .i64 0, .bool false, .bool false, .bool false]), 4, 16) := by kernel_rfl
def zC (n : Nat) : Obj := .cells (madeCells #[.int .i64 0, .bool false, .bool false, .bool false] (n * 4)) 110
theorem mkC (n : Nat) (hn : n ≤ 4356) (W : World) : (Instr.makeSlice 104 (.int .i64 (n : Int)) (.int .i64 (n : Int))).run Tryd.prog W = .ok (.slice (some ⟨W.heap.size, 0, none⟩) n n) (W.alloc (zC n)) := by
  obtain ⟨i0, hi, hz0, hz1, hz2⟩ := info2_parts infoC
  have hr := run_make (P := Tryd.prog) W 104 110 i0 _ Tryd.underlying104 hi hz0 .i64 .i64 n n (by omega) (Int.le_refl _) (by rw [hz2]; omega) (by omega)
  rw [hz1, Int.toNat_natCast] at hr
  exact hr
theorem made4_at (n k : Nat) (hk : k < n) : (madeCells #[.int .i64 0, .bool false, .bool false, .bool false] (n * 4))[k * 4]? = some (.int .i64 0) ∧ (madeCells #[.int .i64 0, .bool false, .bool false, .bool false] (n * 4))[k * 4 + 1]? = some (.bool false) ∧
    (madeCells #[.int .i64 0, .bool false, .bool false, .bool false] (n * 4))[k * 4 + 2]? = some (.bool false) ∧ (madeCells #[.int .i64 0, .bool false, .bool false, .bool false] (n * 4))[k * 4 + 3]? = some (.bool false) := by
  have m0 : k * 4 % 4 = 0 := by omega
  have m1 : (k * 4 + 1) % 4 = 1 := by omega
  have m2 : (k * 4 + 2) % 4 = 2 := by omega
  have m3 : (k * 4 + 3) % 4 = 3 := by omega
  have l0 : k * 4 < n * 4 := by omega
  have l1 : k * 4 + 1 < n * 4 := by omega
  have l2 : k * 4 + 2 < n * 4 := by omega
  have l3 : k * 4 + 3 < n * 4 := by omega
  refine ⟨?_, ?_, ?_, ?_⟩ <;> simp [madeCells, *]
theorem newR_yes (w h : Nat) (hf : fits (w : Int) (h : Int)) (W : World) : Calls Tryd.prog 41 #[.int .i64 (w : Int), .int .i64 (h : Int)] W fun e w' => ∃ A C, e = .returned (.tuple #[.pointer (some ⟨A, 0, none⟩), .int .i64 0]) ∧ Rb w' W.heap.size A C w h St.zero ∧ Below W.heap.size W w' := by
  have k := valid_y _ _ hf
  have hfit : (w : Int) ≤ 64 ∧ (h : Int) ≤ 64 := by unfold fits at hf; omega
  obtain ⟨hf1, hf2⟩ := hfit
  have hn : w * h ≤ 4096 := Nat.mul_le_mul (show w ≤ 64 by omega) (show h ≤ 64 by omega)
  have wm := wrap_mul w h (by omega)
  have mk := mkC (w * h) (by omega)
  have HF := Lib.hid hf
  obtain ⟨N, hN⟩ : ∃ N, N = w * h := ⟨_, rfl⟩
  rw [← hN] at wm mk
  have HN := Lib.hid hN
  clear hf hN hn
  go_enter Tryd.func41, Tryd.ntmps41
  go_wp2_with (first | (go_at_call 84; (with_reducible refine (k _).mono ?_); rintro e wn ⟨rfl, rfl⟩))
  go_ret2
  have hB := below_alloc (below_alloc (Below.refl _ W) (zC N)) (.cells #[.int .i64 (w : Int), .int .i64 (h : Int), .slice (some ⟨W.heap.size, 0, none⟩) N N] 106)
  have b1 : Blk (W.alloc (zC N)) W.heap.size 110 (madeCells #[.int .i64 0, .bool false, .bool false, .bool false] (N * 4)) := Blk.new W _ _
  have b2 := Blk.new (W.alloc (zC N)) 106 #[.int .i64 (w : Int), .int .i64 (h : Int), .slice (some ⟨W.heap.size, 0, none⟩) N N]
  have e : (W.alloc (zC N)).heap.size = W.heap.size + 1 := by simp
  rw [e] at b2
  have hN := HN.out
  subst hN
  exact ⟨W.heap.size + 1, W.heap.size, rfl, ⟨HF.out, by omega, Nat.le_refl _, b2, ⟨_, b1.alloc _, fun X Y hX hY => made4_at _ _ (grid_lt hX hY)⟩, fun _ _ _ => ⟨rfl, rfl, rfl, rfl⟩⟩, hB⟩
section
variable {W W' : World} {B A C w h : Nat} {q : St}
def RGives (B A C w h : Nat) (q : St) (c : Int) (W : World) (e : Ending) (W' : World) : Prop := e = .returned (.int .i64 c) ∧ Rb W' B A C w h q ∧ Kb [C] W W'
/-- A cell is written. -/
theorem Rb.put (H : Rb W B A C w h q) {x y : Int} (hin : inB w h x y) (k : Nat) (hk : k < 4) (u : Value) (q' : St) (hout : q'.Out w h)
    (h0 : ∀ X Y : Nat, X < w → Y < h → (.int .i64 (q'.v X Y) : Value) = if k = 0 ∧ (X : Int) = x ∧ (Y : Int) = y then u else .int .i64 (q.v X Y))
    (h1 : ∀ X Y : Nat, X < w → Y < h → (.bool (q'.s X Y) : Value) = if k = 1 ∧ (X : Int) = x ∧ (Y : Int) = y then u else .bool (q.s X Y))
    (h2 : ∀ X Y : Nat, X < w → Y < h → (.bool (q'.t X Y) : Value) = if k = 2 ∧ (X : Int) = x ∧ (Y : Int) = y then u else .bool (q.t X Y))
    (h3 : ∀ X Y : Nat, X < w → Y < h → (.bool (q'.r X Y) : Value) = if k = 3 ∧ (X : Int) = x ∧ (Y : Int) = y then u else .bool (q.r X Y)) :
    Rb (W.setCell ⟨C, ixR w x y * 4 + k, none⟩ u) B A C w h q' ∧ Kb [C] W (W.setCell ⟨C, ixR w x y * 4 + k, none⟩ u) := by
  have kb : Kb [C] W (W.setCell ⟨C, ixR w x y * 4 + k, none⟩ u) := Kb.set _ _ _ (by simp) _
  obtain ⟨cs, g1, g2⟩ := H.grid
  have nA : A ≠ C := fun e => H.obj.ne g1 (by decide) e
  refine ⟨⟨H.fit, H.geA, H.geC, (kb.block A H.obj.lt (by simp [nA])).trans H.obj, ⟨_, g1.set _ u, fun X Y hX hY => ?_⟩, hout⟩, kb⟩
  obtain ⟨e0, e1, e2, e3⟩ := g2 X Y hX hY
  have hxy : ∀ j, j < 4 → ((ixR w x y * 4 + k = (Y * w + X) * 4 + j) ↔ (k = j ∧ (X : Int) = x ∧ (Y : Int) = y)) := by
    intro j hj
    obtain ⟨i1, i2, i3, i4⟩ := hin
    constructor
    · intro he
      have ha : ixR w x y = Y * w + X := by omega
      obtain ⟨b1, b2⟩ := grid_inj (w := w) (X := x.toNat) (X' := X) (Y := y.toNat) (Y' := Y) (by omega) hX ha
      exact ⟨by omega, by omega, by omega⟩
    · rintro ⟨rfl, ha, hb⟩
      unfold ixR
      rw [show x.toNat = X by omega, show y.toNat = Y by omega]
  have lt3 := (Array.getElem?_eq_some_iff.1 e3).1
  refine ⟨?_, ?_, ?_, ?_⟩
  · rw [Array.getElem?_setIfInBounds, h0 X Y hX hY]
    by_cases hc : k = 0 ∧ (X : Int) = x ∧ (Y : Int) = y
    · have he := (hxy 0 (by omega)).2 hc
      rw [if_pos hc, if_pos (by omega), if_pos (by omega)]
    · rw [if_neg hc, if_neg (fun he => hc ((hxy 0 (by omega)).1 (by omega)))]; exact e0
  · rw [Array.getElem?_setIfInBounds, h1 X Y hX hY]
    by_cases hc : k = 1 ∧ (X : Int) = x ∧ (Y : Int) = y
    · have he := (hxy 1 (by omega)).2 hc
      rw [if_pos hc, if_pos (by omega), if_pos (by omega)]
    · rw [if_neg hc, if_neg (fun he => hc ((hxy 1 (by omega)).1 (by omega)))]; exact e1
  · rw [Array.getElem?_setIfInBounds, h2 X Y hX hY]
    by_cases hc : k = 2 ∧ (X : Int) = x ∧ (Y : Int) = y
    · have he := (hxy 2 (by omega)).2 hc
      rw [if_pos hc, if_pos (by omega), if_pos (by omega)]
    · rw [if_neg hc, if_neg (fun he => hc ((hxy 2 (by omega)).1 (by omega)))]; exact e2
  · rw [Array.getElem?_setIfInBounds, h3 X Y hX hY]
    by_cases hc : k = 3 ∧ (X : Int) = x ∧ (Y : Int) = y
    · have he := (hxy 3 (by omega)).2 hc
      rw [if_pos hc, if_pos (by omega), if_pos (by omega)]
    · rw [if_neg hc, if_neg (fun he => hc ((hxy 3 (by omega)).1 (by omega)))]; exact e3
theorem Rb.stay (H : Rb W B A C w h q) : Rb W B A C w h q ∧ Kb [C] W W := ⟨H, Kb.refl _ _⟩
theorem Rb.dr {X : World} (H : Rb X B A C w h q ∧ Kb [C] W X) : Rb X.drew B A C w h q ∧ Kb [C] W X.drew := ⟨H.1.below (Below.refl _ _).drew, H.2.trans (Kb.of_below _ (Below.refl _ _).drew)⟩
theorem Rb.setv (H : Rb W B A C w h q) {x y : Int} (hin : inB w h x y) (v : Int) : Rb (W.setCell ⟨C, ixR w x y * 4 + 0, none⟩ (.int .i64 v)) B A C w h { q with v := upd q.v x y v } ∧ Kb [C] W (W.setCell ⟨C, ixR w x y * 4 + 0, none⟩ (.int .i64 v)) :=
  H.put hin 0 (by decide) _ _ (H.out.set hin v)
    (fun X Y _ _ => by show _ = _; dsimp only; unfold upd; by_cases hc : (X : Int) = x ∧ (Y : Int) = y <;> simp [hc])
    (fun X Y _ _ => by rw [if_neg (fun hc => absurd hc.1 (by decide))])
    (fun X Y _ _ => by rw [if_neg (fun hc => absurd hc.1 (by decide))])
    (fun X Y _ _ => by rw [if_neg (fun hc => absurd hc.1 (by decide))])
theorem Rb.marks (H : Rb W B A C w h q) {x y : Int} (hin : inB w h x y) : Rb (W.setCell ⟨C, ixR w x y * 4 + 1, none⟩ (.bool true)) B A C w h { q with s := upd q.s x y true } ∧ Kb [C] W (W.setCell ⟨C, ixR w x y * 4 + 1, none⟩ (.bool true)) :=
  H.put hin 1 (by decide) _ _ (H.out.mark hin true)
    (fun X Y _ _ => by rw [if_neg (fun hc => absurd hc.1 (by decide))])
    (fun X Y _ _ => by show _ = _; dsimp only; unfold upd; by_cases hc : (X : Int) = x ∧ (Y : Int) = y <;> simp [hc])
    (fun X Y _ _ => by rw [if_neg (fun hc => absurd hc.1 (by decide))])
    (fun X Y _ _ => by rw [if_neg (fun hc => absurd hc.1 (by decide))])
theorem Rb.touches (H : Rb W B A C w h q) {x y : Int} (hin : inB w h x y) (c : Bool) : Rb (W.setCell ⟨C, ixR w x y * 4 + 2, none⟩ (.bool c)) B A C w h { q with t := upd q.t x y c } ∧ Kb [C] W (W.setCell ⟨C, ixR w x y * 4 + 2, none⟩ (.bool c)) :=
  H.put hin 2 (by decide) _ _ (H.out.touch hin c)
    (fun X Y _ _ => by rw [if_neg (fun hc => absurd hc.1 (by decide))])
    (fun X Y _ _ => by rw [if_neg (fun hc => absurd hc.1 (by decide))])
    (fun X Y _ _ => by show _ = _; dsimp only; unfold upd; by_cases hc : (X : Int) = x ∧ (Y : Int) = y <;> simp [hc])
    (fun X Y _ _ => by rw [if_neg (fun hc => absurd hc.1 (by decide))])
theorem Rb.refines (H : Rb W B A C w h q) {x y : Int} (hin : inB w h x y) : Rb (W.setCell ⟨C, ixR w x y * 4 + 3, none⟩ (.bool true)) B A C w h { q with r := upd q.r x y true } ∧ Kb [C] W (W.setCell ⟨C, ixR w x y * 4 + 3, none⟩ (.bool true)) :=
  H.put hin 3 (by decide) _ _ (H.out.refine hin true)
    (fun X Y _ _ => by rw [if_neg (fun hc => absurd hc.1 (by decide))])
    (fun X Y _ _ => by rw [if_neg (fun hc => absurd hc.1 (by decide))])
    (fun X Y _ _ => by rw [if_neg (fun hc => absurd hc.1 (by decide))])
    (fun X Y _ _ => by show _ = _; dsimp only; unfold upd; by_cases hc : (X : Int) = x ∧ (Y : Int) = y <;> simp [hc])
theorem rmark_c (H : Rb W B A C w h q) (x y : Int) : Calls Tryd.prog 45 #[.pointer (some ⟨A, 0, none⟩), .int .i64 x, .int .i64 y] W (RGives B A C w h (markQ w h q x y) (atE w h x y) W) := by
  have er := error_c H x y
  by_cases hin : inB w h x y
  · rw [if_pos hin] at er
    have N1 := Lib.hid (H.marks hin)
    have e1 : markQ w h q x y = { q with s := upd q.s x y true } := by unfold markQ; rw [if_pos hin]
    have e2 : atE w h x y = 0 := by unfold atE; rw [if_pos hin]
    rw [e1, e2]
    obtain ⟨c0, c1, c2⟩ := H.cells
    have d := (H.at hin (i := ixR w x y) rfl).2.1
    obtain ⟨w1, w2⟩ := ixR_w H.fit hin
    have lt := ixR_lt hin
    have ltI : ((ixR w x y : Nat) : Int) < ((w * h : Nat) : Int) := by omega
    have fz := H.free
    have fzd : ∀ i, W.drew.frozen? ⟨C, i, none⟩ = false := fz
    have dd : W.drew.cell? _ = some _ := d
    generalize ixR w x y = ii at *
    generalize y.toNat * w = P at *
    generalize w * h = N at *
    clear H hin c1 e1 e2
    go_enter Tryd.func45, Tryd.ntmps45
    go_wp2_with (first | (go_at_call 86; (with_reducible refine er.mono ?_); rintro e wn ⟨rfl, rfl⟩))
    go_region
    all_goals
      go_wp2_with fail
      go_ret
      exact ⟨rfl, Rb.dr N1.out⟩
  · rw [if_neg hin] at er
    have e1 : markQ w h q x y = q := by unfold markQ; rw [if_neg hin]
    have e2 : atE w h x y = 2 := by unfold atE; rw [if_neg hin]
    rw [e1, e2]
    have N1 := Lib.hid H.stay
    clear H hin e1 e2
    go_enter Tryd.func45, Tryd.ntmps45
    go_wp2_with (first | (go_at_call 86; (with_reducible refine er.mono ?_); rintro e wn ⟨rfl, rfl⟩))
    go_ret
    exact ⟨rfl, N1.out⟩
theorem rtouch_c (H : Rb W B A C w h q) (x y : Int) (c : Bool) : Calls Tryd.prog 47 #[.pointer (some ⟨A, 0, none⟩), .int .i64 x, .int .i64 y, .bool c] W (RGives B A C w h (touchQ w h q x y c) (atE w h x y) W) := by
  have er := error_c H x y
  by_cases hin : inB w h x y
  · rw [if_pos hin] at er
    have N1 := Lib.hid (H.touches hin c)
    have e1 : touchQ w h q x y c = { q with t := upd q.t x y c } := by unfold touchQ; rw [if_pos hin]
    have e2 : atE w h x y = 0 := by unfold atE; rw [if_pos hin]
    rw [e1, e2]
    obtain ⟨c0, c1, c2⟩ := H.cells
    have d := (H.at hin (i := ixR w x y) rfl).2.2.1
    obtain ⟨w1, w2⟩ := ixR_w H.fit hin
    have lt := ixR_lt hin
    have ltI : ((ixR w x y : Nat) : Int) < ((w * h : Nat) : Int) := by omega
    have fz := H.free
    have fzd : ∀ i, W.drew.frozen? ⟨C, i, none⟩ = false := fz
    have dd : W.drew.cell? _ = some _ := d
    generalize ixR w x y = ii at *
    generalize y.toNat * w = P at *
    generalize w * h = N at *
    clear H hin c1 e1 e2
    go_enter Tryd.func47, Tryd.ntmps47
    go_wp2_with (first | (go_at_call 86; (with_reducible refine er.mono ?_); rintro e wn ⟨rfl, rfl⟩))
    go_region
    all_goals
      go_wp2_with fail
      go_ret
      exact ⟨rfl, Rb.dr N1.out⟩
  · rw [if_neg hin] at er
    have e1 : touchQ w h q x y c = q := by unfold touchQ; rw [if_neg hin]
    have e2 : atE w h x y = 2 := by unfold atE; rw [if_neg hin]
    rw [e1, e2]
    have N1 := Lib.hid H.stay
    clear H hin e1 e2
    go_enter Tryd.func47, Tryd.ntmps47
    go_wp2_with (first | (go_at_call 86; (with_reducible refine er.mono ?_); rintro e wn ⟨rfl, rfl⟩))
    go_ret
    exact ⟨rfl, N1.out⟩
theorem rrefine_c (H : Rb W B A C w h q) (x y : Int) : Calls Tryd.prog 49 #[.pointer (some ⟨A, 0, none⟩), .int .i64 x, .int .i64 y] W (RGives B A C w h (refineQ w h q x y) (atE w h x y) W) := by
  have er := error_c H x y
  by_cases hin : inB w h x y
  · rw [if_pos hin] at er
    have N1 := Lib.hid (H.refines hin)
    have e1 : refineQ w h q x y = { q with r := upd q.r x y true } := by unfold refineQ; rw [if_pos hin]
    have e2 : atE w h x y = 0 := by unfold atE; rw [if_pos hin]
    rw [e1, e2]
    obtain ⟨c0, c1, c2⟩ := H.cells
    have d := (H.at hin (i := ixR w x y) rfl).2.2.2
    obtain ⟨w1, w2⟩ := ixR_w H.fit hin
    have lt := ixR_lt hin
    have ltI : ((ixR w x y : Nat) : Int) < ((w * h : Nat) : Int) := by omega
    have fz := H.free
    have fzd : ∀ i, W.drew.frozen? ⟨C, i, none⟩ = false := fz
    have dd : W.drew.cell? _ = some _ := d
    generalize ixR w x y = ii at *
    generalize y.toNat * w = P at *
    generalize w * h = N at *
    clear H hin c1 e1 e2
    go_enter Tryd.func49, Tryd.ntmps49
    go_wp2_with (first | (go_at_call 86; (with_reducible refine er.mono ?_); rintro e wn ⟨rfl, rfl⟩))
    go_region
    all_goals
      go_wp2_with fail
      go_ret
      exact ⟨rfl, Rb.dr N1.out⟩
  · rw [if_neg hin] at er
    have e1 : refineQ w h q x y = q := by unfold refineQ; rw [if_neg hin]
    have e2 : atE w h x y = 2 := by unfold atE; rw [if_neg hin]
    rw [e1, e2]
    have N1 := Lib.hid H.stay
    clear H hin e1 e2
    go_enter Tryd.func49, Tryd.ntmps49
    go_wp2_with (first | (go_at_call 86; (with_reducible refine er.mono ?_); rintro e wn ⟨rfl, rfl⟩))
    go_ret
    exact ⟨rfl, N1.out⟩
theorem rset_c (H : Rb W B A C w h q) (x y v : Int) : Calls Tryd.prog 43 #[.pointer (some ⟨A, 0, none⟩), .int .i64 x, .int .i64 y, .int .i64 v] W (RGives B A C w h (setQ w h q x y v) (setE w h x y v) W) := by
  have er := error_c H x y
  by_cases hin : inB w h x y
  · rw [if_pos hin] at er
    by_cases hv : okV v
    · have N1 := Lib.hid (H.setv hin v)
      have e1 : setQ w h q x y v = { q with v := upd q.v x y v } := by unfold setQ; rw [if_pos ⟨hin, hv⟩]
      have e2 : setE w h x y v = 0 := by unfold setE; rw [if_pos ⟨hin, hv⟩]
      rw [e1, e2]
      obtain ⟨v1, v2⟩ := hv
      obtain ⟨c0, c1, c2⟩ := H.cells
      have d := (H.at hin (i := ixR w x y) rfl).1
      obtain ⟨w1, w2⟩ := ixR_w H.fit hin
      have lt := ixR_lt hin
      have ltI : ((ixR w x y : Nat) : Int) < ((w * h : Nat) : Int) := by omega
      have fz := H.free
      have fzd : ∀ i, W.drew.frozen? ⟨C, i, none⟩ = false := fz
      have dd : W.drew.cell? _ = some _ := d
      generalize ixR w x y = ii at *
      generalize y.toNat * w = P at *
      generalize w * h = N at *
      clear H hin c1 e1 e2
      go_enter Tryd.func43, Tryd.ntmps43
      go_wp2_with (first | (go_at_call 86; (with_reducible refine er.mono ?_); rintro e wn ⟨rfl, rfl⟩))
      go_region
      all_goals
        go_wp2_with fail
        go_ret
        exact ⟨rfl, Rb.dr N1.out⟩
    · have e1 : setQ w h q x y v = q := by unfold setQ; rw [if_neg (fun h => hv h.2)]
      have e2 : setE w h x y v = 2 := by unfold setE; rw [if_neg (fun h => hv h.2)]
      rw [e1, e2]
      have N1 := Lib.hid H.stay
      have hc : v ≤ -1152921504606846976 ∨ (-1152921504606846976 < v ∧ 1152921504606846976 ≤ v) := by unfold okV at hv; omega
      clear H hin hv e1 e2
      rcases hc with v1 | ⟨v1, v2⟩ <;>
       (go_enter Tryd.func43, Tryd.ntmps43
        go_wp2_with (first | (go_at_call 86; (with_reducible refine er.mono ?_); rintro e wn ⟨rfl, rfl⟩))
        go_ret
        exact ⟨rfl, N1.out⟩)
  · rw [if_neg hin] at er
    have e1 : setQ w h q x y v = q := by unfold setQ; rw [if_neg (fun h => hin h.1)]
    have e2 : setE w h x y v = 2 := by unfold setE; rw [if_neg (fun h => hin h.1)]
    rw [e1, e2]
    have N1 := Lib.hid H.stay
    clear H hin e1 e2
    go_enter Tryd.func43, Tryd.ntmps43
    go_wp2_with (first | (go_at_call 86; (with_reducible refine er.mono ?_); rintro e wn ⟨rfl, rfl⟩))
    go_ret
    exact ⟨rfl, N1.out⟩
end
end Go.Proofs.YtbhjapgioaiocaaDoor
