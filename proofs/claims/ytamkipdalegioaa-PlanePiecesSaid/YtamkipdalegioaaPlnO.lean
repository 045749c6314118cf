/-
  What each call of the reference's New, At, Row and Column returns and leaves.
-/
import Derived.Test.YtamkipdalegioaaPlnM
namespace Go.Proofs.Ytamkipdalegioaa
open Go.RowKit

theorem holds_drew {w : World} {s : Option Addr} {l : List Int} (h : HoldsI w s l) : HoldsI w.drew s l := h
set_option maxHeartbeats 1000000 in
theorem atr_no (a b c d x y : Int) (s : Option Addr) (m : Nat) (l : List Int) (w : World) (hp : pvB a b c d l.length = false ∨ (pvB a b c d l.length = true ∧ Pl.hasB a b c d x y = false)) :
    Calls Try.prog 19 #[.agg #[.int .i64 a, .int .i64 b, .int .i64 c, .int .i64 d, .slice s l.length m], .int .i64 x, .int .i64 y] w fun e w' => e = .returned (.tuple #[.int .i64 0, .bool false]) ∧ Below w.heap.size w w' := by
  rcases hp with hp | ⟨hp, hh⟩
  · go_enter Try.func19, Try.ntmps19
    go_wp2_with fail
    refine (pv_r _ _ _ _ _ _ _ _).mono ?_
    rintro e w1 ⟨rfl, hb1⟩
    have hS1 := (Q1.fresh a b c d s l.length m w).step hb1
    go_wp2
    go_ret2
    exact ⟨rfl, hS1.below⟩
  · go_enter Try.func19, Try.ntmps19
    go_wp2_with fail
    refine (pv_r _ _ _ _ _ _ _ _).mono ?_
    rintro e w1 ⟨rfl, hb1⟩
    have hS1 := (Q1.fresh a b c d s l.length m w).step hb1
    obtain ⟨c0, c1, c2, c3, c4⟩ := hS1.q.open
    go_wp2_with fail
    refine (has_r _ _ _ _ _ _ _).mono ?_
    rintro e w2 ⟨rfl, hb2⟩
    have hS2 := hS1.step hb2
    go_wp2
    go_ret2
    exact ⟨rfl, hS2.below⟩
set_option maxHeartbeats 1000000 in
theorem atr_yes (a b c d x y : Int) (s : Option Addr) (m : Nat) (l : List Int) (w : World) (hp : pvB a b c d l.length = true) (hh : Pl.hasB a b c d x y = true) (hH : HoldsI w s l) :
    Calls Try.prog 19 #[.agg #[.int .i64 a, .int .i64 b, .int .i64 c, .int .i64 d, .slice s l.length m], .int .i64 x, .int .i64 y] w fun e w' => e = .returned (.tuple #[.int .i64 (gv ⟨a, b, c, d⟩ l x y), .bool true]) ∧ Below w.heap.size w w' := by
  go_enter Try.func19, Try.ntmps19
  go_wp2_with fail
  refine (pv_r _ _ _ _ _ _ _ _).mono ?_
  rintro e w1 ⟨rfl, hb1⟩
  have hS1 := (Q1.fresh a b c d s l.length m w).step hb1
  obtain ⟨c0, c1, c2, c3, c4⟩ := hS1.q.open
  go_wp2_with fail
  refine (has_r _ _ _ _ _ _ _).mono ?_
  rintro e w2 ⟨rfl, hb2⟩
  have hS2 := hS1.step hb2
  clear c0 c1 c2 c3 c4
  obtain ⟨c0, c1, c2, c3, c4⟩ := hS2.q.open
  go_wp2_with fail
  refine (get_r _ _ _ _ _ _ _ _ _ _ hp hh (hH.below hS2.below (Nat.le_refl _))).mono ?_
  rintro e w3 ⟨rfl, hb3⟩
  have hS3 := hS2.step hb3
  go_wp2
  go_ret2
  exact ⟨rfl, hS3.below⟩
/-- A list of the call's own that grows beside the plane's variable. -/
structure Gs (a b c d : Int) (s : Option Addr) (n m : Nat) (v : Value) (out : List Int) (w W : World) : Prop where
  q1 : Q1 a b c d s n m w W
  own : W.ownsRow (w.heap.size + 1) 3 1 v out.length (out.map (Value.int .i64))
theorem Gs.step {a b c d : Int} {s : Option Addr} {n m : Nat} {v : Value} {out : List Int} {w W W1 : World} (h : Gs a b c d s n m v out w W) (hb : Below W.heap.size W W1) : Gs a b c d s n m v out w W1 :=
  ⟨h.q1.step hb, own_below h.own hb⟩
theorem Gs.push {a b c d : Int} {s : Option Addr} {n m : Nat} {v v' : Value} {out : List Int} {w W W2 : World} {x : Int} (h : Gs a b c d s n m v out w W) (X : Obj) (hg : (W.alloc X).grownBy W2 v.ownBlock)
    (hown : W2.ownsRow (w.heap.size + 1) 3 1 v' (out.length + 1) (out.map (Value.int .i64) ++ [.int .i64 x])) : Gs a b c d s n m v' (out ++ [x]) w W2 := by
  have hlt := h.q1.q.lt
  have hb : Below (w.heap.size + 1) W W2 := ((Below.refl _ _).alloc (by omega) _).grown hg (by simp; omega) (fun k hk => (h.own.lt k hk).1)
  refine ⟨⟨h.q1.below.trans (hb.mono (by omega)), h.q1.q.belowAt hb (by omega)⟩, ?_⟩
  simpa using hown
theorem Gs.gives {a b c d : Int} {s : Option Addr} {n m : Nat} {v : Value} {out L : List Int} {w W : World} (h : Gs a b c d s n m v out w W) (e : out = L) : GivesInts L true w (.returned (.tuple #[v, .bool true])) W := by
  subst e
  obtain ⟨_, (⟨rfl, rfl⟩ | ⟨g, m', pad, rfl, hb, hr, hm⟩)⟩ := rowP_own h.own
  · exact ⟨none, 0, rfl, .inl rfl, h.q1.below, Nat.le_refl _⟩
  · exact ⟨some ⟨g, 0, none⟩, m', rfl, hr.holds, h.q1.below, hm⟩
theorem map_range_next {f : Nat → Int} {n k : Nat} (hk : k < n) : ((List.range n).map f).take k ++ [f k] = ((List.range n).map f).take (k + 1) := by
  rw [List.take_succ_eq_append_getElem (by simpa using hk)]
  simp
theorem row_next {a b c d y X : Int} {l : List Int} (h : a ≤ X) (h2 : X < c) : (rowL ⟨a, b, c, d⟩ l y).take (X - a).toNat ++ [gv ⟨a, b, c, d⟩ l X y] = (rowL ⟨a, b, c, d⟩ l y).take (X + 1 - a).toNat := by
  have e1 : (X + 1 - a).toNat = (X - a).toNat + 1 := by omega
  have e2 : a + (((X - a).toNat : Nat) : Int) = X := by omega
  rw [e1, rowL, ← map_range_next (by dsimp only; omega)]
  dsimp only
  rw [e2]
theorem col_next {a b c d x Y : Int} {l : List Int} (h : b ≤ Y) (h2 : Y < d) : (colL ⟨a, b, c, d⟩ l x).take (Y - b).toNat ++ [gv ⟨a, b, c, d⟩ l x Y] = (colL ⟨a, b, c, d⟩ l x).take (Y + 1 - b).toNat := by
  have e1 : (Y + 1 - b).toNat = (Y - b).toNat + 1 := by omega
  have e2 : b + (((Y - b).toNat : Nat) : Int) = Y := by omega
  rw [e1, colL, ← map_range_next (by dsimp only; omega)]
  dsimp only
  rw [e2]
set_option maxHeartbeats 1000000 in
theorem rowr_no (a b c d y : Int) (s : Option Addr) (m : Nat) (l : List Int) (w : World) (hp : pvB a b c d l.length = false ∨ (pvB a b c d l.length = true ∧ (y < b ∨ d ≤ y))) :
    Calls Try.prog 23 #[.agg #[.int .i64 a, .int .i64 b, .int .i64 c, .int .i64 d, .slice s l.length m], .int .i64 y] w (GivesInts [] false w) := by
  rcases hp with hp | ⟨hp, hy | hy⟩
  · go_enter Try.func23, Try.ntmps23
    go_wp2_with fail
    refine (pv_r _ _ _ _ _ _ _ _).mono ?_
    rintro e w1 ⟨rfl, hb1⟩
    have hS1 := (Q1.fresh a b c d s l.length m w).step hb1
    go_wp2
    go_ret2
    exact ⟨_, _, rfl, .inl rfl, hS1.below, Nat.le_refl _⟩
  · go_enter Try.func23, Try.ntmps23
    go_wp2_with fail
    refine (pv_r _ _ _ _ _ _ _ _).mono ?_
    rintro e w1 ⟨rfl, hb1⟩
    have hS1 := (Q1.fresh a b c d s l.length m w).step hb1
    obtain ⟨c0, c1, c2, c3, c4⟩ := hS1.q.open
    go_wp2
    go_ret2
    exact ⟨_, _, rfl, .inl rfl, hS1.below, Nat.le_refl _⟩
  · obtain ⟨hv, _, _⟩ := pv_iff.1 hp
    obtain ⟨v1, v2, v3, v4, v5, v6⟩ := Pl.valid_iff.1 hv
    have hb : ¬ y < b := by omega
    go_enter Try.func23, Try.ntmps23
    go_wp2_with fail
    refine (pv_r _ _ _ _ _ _ _ _).mono ?_
    rintro e w1 ⟨rfl, hb1⟩
    have hS1 := (Q1.fresh a b c d s l.length m w).step hb1
    obtain ⟨c0, c1, c2, c3, c4⟩ := hS1.q.open
    go_wp2
    go_ret2
    exact ⟨_, _, rfl, .inl rfl, hS1.below, Nat.le_refl _⟩
set_option maxRecDepth 100000 in
set_option maxHeartbeats 1000000 in
theorem rowr_yes (a b c d y : Int) (s : Option Addr) (m : Nat) (l : List Int) (w : World) (hp : pvB a b c d l.length = true) (h1 : b ≤ y) (h2 : y < d) (hH : HoldsI w s l) :
    Calls Try.prog 23 #[.agg #[.int .i64 a, .int .i64 b, .int .i64 c, .int .i64 d, .slice s l.length m], .int .i64 y] w (GivesInts (rowL ⟨a, b, c, d⟩ l y) true w) := by
  obtain ⟨i0, hi, hz0, hz1, hz2⟩ := info_parts infoI
  obtain ⟨hv, har, hn⟩ := pv_iff.1 hp
  obtain ⟨v1, v2, v3, v4, v5, v6⟩ := Pl.valid_iff.1 hv
  have n1 : ¬ y < b := by omega
  have n2 : ¬ d ≤ y := by omega
  clear har hn
  go_enter Try.func23, Try.ntmps23
  go_wp2_with fail
  refine (pv_r _ _ _ _ _ _ _ _).mono ?_
  rintro e w1 ⟨rfl, hb1⟩
  have hS1 := (Q1.fresh a b c d s l.length m w).step hb1
  obtain ⟨c0, c1, c2, c3, c4⟩ := hS1.q.open
  have G0 : Gs a b c d s l.length m (.slice none 0 0) [] w w1 := ⟨hS1, World.ownsRow_nil _ _ _ _⟩
  clear hb1
  go_wp2_with fail
  clear c0 c1 c2 c3 c4 hS1
  go_loopw [6, 7] (fun v i wr => ∃ (X : Int) (out : List Int), a ≤ X ∧ X ≤ c ∧ i = .int .i64 X ∧ out = (rowL ⟨a, b, c, d⟩ l y).take (X - a).toNat ∧ Gs a b c d s l.length m v out w wr) (fun _ i _ => (c - intOf i).toNat)
  case atStart => exact ⟨a, [], Int.le_refl _, by omega, rfl, by rw [show (a - a).toNat = 0 by omega, List.take_zero], G0⟩
  case round =>
    obtain ⟨X, out, hX0, hX1, rfl, hO, hG⟩ := hrel
    clear G0
    obtain ⟨c0, c1, c2, c3, c4⟩ := hG.q1.q.open
    by_cases hlt : X < c
    · have hwx : IntKind.i64.wrap (X + 1) = X + 1 := IntWalk.i64_in _ (by omega)
      have hh : Pl.hasB a b c d X y = true := Pl.has_iff.2 ⟨by omega, by omega, by omega, by omega⟩
      have hN := row_next (a := a) (b := b) (c := c) (d := d) (y := y) (l := l) hX0 hlt
      have hlen : out.length ≤ 4096 := by rw [hO, List.length_take]; omega
      rw [← hO] at hN
      have HN : Hid _ := hN
      clear hN hO
      go_wp2_with fail
      clear c0 c1 c2 c3 c4
      refine (get_r _ _ _ _ _ _ _ _ _ _ hp hh (hH.below hG.q1.below (Nat.le_refl _))).mono ?_
      rintro e w5 ⟨rfl, hb5⟩
      have G5 := hG.step hb5
      have G5l := G5.q1.q.lt
      clear hG hb5
      go_wp2_with (first | (at_builtin; refine wpList_append_own _ rfl _ _ 24 rfl (w.heap.size + 1) 3 i0 (.int .i64 0) 1 8 Try.underlying24 hi hz0 hz1 hz2 rfl (by decide) _ _ _ rfl (own_below G5.own ((Below.refl _ _).alloc (Nat.le_refl _) _)) ⟨w5.heap.size, 0, none⟩ 1 1 [.int .i64 (gv ⟨a, b, c, d⟩ l X y)] rfl rfl (one_new w5 _ _) (oneOne _) (by unfold maxLen; omega) (by omega) (by simp; omega) ?_))
      intro v' wz hownz hgrowz _
      obtain ⟨sv, mv, rfl⟩ := own_slice hownz
      have GZ := G5.push _ hgrowz hownz
      have HG : Hid _ := GZ
      clear GZ hgrowz hownz
      go_wp2
      go_roundw
      case rel => exact ⟨X + 1, _, by omega, by omega, by go_num, HN.out, HG.out⟩
      case measure => simp [intOf]; omega
    · obtain rfl : c = X := by omega
      have HG : Hid _ := hG.gives (L := rowL ⟨a, b, c, d⟩ l y) (by rw [hO, show (c - a).toNat = (rowL ⟨a, b, c, d⟩ l y).length from (rowL_len ⟨a, b, c, d⟩ l y).symm, List.take_length])
      obtain ⟨sv, mv, rfl⟩ := own_slice hG.own
      clear hG hO
      go_wp2
      go_ret2
      exact HG.out
set_option maxHeartbeats 1000000 in
theorem colr_no (a b c d x : Int) (s : Option Addr) (m : Nat) (l : List Int) (w : World) (hp : pvB a b c d l.length = false ∨ (pvB a b c d l.length = true ∧ (x < a ∨ c ≤ x))) :
    Calls Try.prog 26 #[.agg #[.int .i64 a, .int .i64 b, .int .i64 c, .int .i64 d, .slice s l.length m], .int .i64 x] w (GivesInts [] false w) := by
  rcases hp with hp | ⟨hp, hy | hy⟩
  · go_enter Try.func26, Try.ntmps26
    go_wp2_with fail
    refine (pv_r _ _ _ _ _ _ _ _).mono ?_
    rintro e w1 ⟨rfl, hb1⟩
    have hS1 := (Q1.fresh a b c d s l.length m w).step hb1
    go_wp2
    go_ret2
    exact ⟨_, _, rfl, .inl rfl, hS1.below, Nat.le_refl _⟩
  · go_enter Try.func26, Try.ntmps26
    go_wp2_with fail
    refine (pv_r _ _ _ _ _ _ _ _).mono ?_
    rintro e w1 ⟨rfl, hb1⟩
    have hS1 := (Q1.fresh a b c d s l.length m w).step hb1
    obtain ⟨c0, c1, c2, c3, c4⟩ := hS1.q.open
    go_wp2
    go_ret2
    exact ⟨_, _, rfl, .inl rfl, hS1.below, Nat.le_refl _⟩
  · obtain ⟨hv, _, _⟩ := pv_iff.1 hp
    obtain ⟨v1, v2, v3, v4, v5, v6⟩ := Pl.valid_iff.1 hv
    have hb : ¬ x < a := by omega
    go_enter Try.func26, Try.ntmps26
    go_wp2_with fail
    refine (pv_r _ _ _ _ _ _ _ _).mono ?_
    rintro e w1 ⟨rfl, hb1⟩
    have hS1 := (Q1.fresh a b c d s l.length m w).step hb1
    obtain ⟨c0, c1, c2, c3, c4⟩ := hS1.q.open
    go_wp2
    go_ret2
    exact ⟨_, _, rfl, .inl rfl, hS1.below, Nat.le_refl _⟩
set_option maxRecDepth 100000 in
set_option maxHeartbeats 1000000 in
theorem colr_yes (a b c d x : Int) (s : Option Addr) (m : Nat) (l : List Int) (w : World) (hp : pvB a b c d l.length = true) (h1 : a ≤ x) (h2 : x < c) (hH : HoldsI w s l) :
    Calls Try.prog 26 #[.agg #[.int .i64 a, .int .i64 b, .int .i64 c, .int .i64 d, .slice s l.length m], .int .i64 x] w (GivesInts (colL ⟨a, b, c, d⟩ l x) true w) := by
  obtain ⟨i0, hi, hz0, hz1, hz2⟩ := info_parts infoI
  obtain ⟨hv, har, hn⟩ := pv_iff.1 hp
  obtain ⟨v1, v2, v3, v4, v5, v6⟩ := Pl.valid_iff.1 hv
  have n1 : ¬ x < a := by omega
  have n2 : ¬ c ≤ x := by omega
  clear har hn
  go_enter Try.func26, Try.ntmps26
  go_wp2_with fail
  refine (pv_r _ _ _ _ _ _ _ _).mono ?_
  rintro e w1 ⟨rfl, hb1⟩
  have hS1 := (Q1.fresh a b c d s l.length m w).step hb1
  obtain ⟨c0, c1, c2, c3, c4⟩ := hS1.q.open
  have G0 : Gs a b c d s l.length m (.slice none 0 0) [] w w1 := ⟨hS1, World.ownsRow_nil _ _ _ _⟩
  clear hb1
  go_wp2_with fail
  clear c0 c1 c2 c3 c4 hS1
  go_loopw [6, 7] (fun v i wr => ∃ (X : Int) (out : List Int), b ≤ X ∧ X ≤ d ∧ i = .int .i64 X ∧ out = (colL ⟨a, b, c, d⟩ l x).take (X - b).toNat ∧ Gs a b c d s l.length m v out w wr) (fun _ i _ => (d - intOf i).toNat)
  case atStart => exact ⟨b, [], Int.le_refl _, by omega, rfl, by rw [show (b - b).toNat = 0 by omega, List.take_zero], G0⟩
  case round =>
    obtain ⟨X, out, hX0, hX1, rfl, hO, hG⟩ := hrel
    clear G0
    obtain ⟨c0, c1, c2, c3, c4⟩ := hG.q1.q.open
    by_cases hlt : X < d
    · have hwx : IntKind.i64.wrap (X + 1) = X + 1 := IntWalk.i64_in _ (by omega)
      have hh : Pl.hasB a b c d x X = true := Pl.has_iff.2 ⟨by omega, by omega, by omega, by omega⟩
      have hN := col_next (a := a) (b := b) (c := c) (d := d) (x := x) (l := l) hX0 hlt
      have hlen : out.length ≤ 4096 := by rw [hO, List.length_take]; omega
      rw [← hO] at hN
      have HN : Hid _ := hN
      clear hN hO
      go_wp2_with fail
      clear c0 c1 c2 c3 c4
      refine (get_r _ _ _ _ _ _ _ _ _ _ hp hh (hH.below hG.q1.below (Nat.le_refl _))).mono ?_
      rintro e w5 ⟨rfl, hb5⟩
      have G5 := hG.step hb5
      have G5l := G5.q1.q.lt
      clear hG hb5
      go_wp2_with (first | (at_builtin; refine wpList_append_own _ rfl _ _ 24 rfl (w.heap.size + 1) 3 i0 (.int .i64 0) 1 8 Try.underlying24 hi hz0 hz1 hz2 rfl (by decide) _ _ _ rfl (own_below G5.own ((Below.refl _ _).alloc (Nat.le_refl _) _)) ⟨w5.heap.size, 0, none⟩ 1 1 [.int .i64 (gv ⟨a, b, c, d⟩ l x X)] rfl rfl (one_new w5 _ _) (oneOne _) (by unfold maxLen; omega) (by omega) (by simp; omega) ?_))
      intro v' wz hownz hgrowz _
      obtain ⟨sv, mv, rfl⟩ := own_slice hownz
      have GZ := G5.push _ hgrowz hownz
      have HG : Hid _ := GZ
      clear GZ hgrowz hownz
      go_wp2
      go_roundw
      case rel => exact ⟨X + 1, _, by omega, by omega, by go_num, HN.out, HG.out⟩
      case measure => simp [intOf]; omega
    · obtain rfl : d = X := by omega
      have HG : Hid _ := hG.gives (L := colL ⟨a, b, c, d⟩ l x) (by rw [hO, show (d - b).toNat = (colL ⟨a, b, c, d⟩ l x).length from (colL_len ⟨a, b, c, d⟩ l x).symm, List.take_length])
      obtain ⟨sv, mv, rfl⟩ := own_slice hG.own
      clear hG hO
      go_wp2
      go_ret2
      exact HG.out
set_option maxRecDepth 100000 in
set_option maxHeartbeats 1000000 in
theorem newr_no1 (a b c d : Int) (w : World) (hv : Pl.validB a b c d = false) :
    Calls Try.prog 15 #[.agg #[.int .i64 a, .int .i64 b, .int .i64 c, .int .i64 d]] w (GivesPlane ⟨0, 0, 0, 0⟩ [] 2 w) := by
  have x0 := (Box.fresh w a b c d 23).alloc #[.int .i64 0, .int .i64 0, .int .i64 0, .int .i64 0, .slice none 0 0] 26
  have y0 := QBox.freshAt (w.alloc (.cells #[.int .i64 a, .int .i64 b, .int .i64 c, .int .i64 d] 23)) (w.heap.size + 1) (by simp) 0 0 0 0 none 0 0 26
  have B0 : Below w.heap.size w ((w.alloc (.cells #[.int .i64 a, .int .i64 b, .int .i64 c, .int .i64 d] 23)).alloc (.cells #[.int .i64 0, .int .i64 0, .int .i64 0, .int .i64 0, .slice none 0 0] 26)) := ((Below.refl _ _).alloc (Nat.le_refl _) _).alloc (by simp) _
  go_enter Try.func15, Try.ntmps15
  go_wp2_with fail
  refine (valid_r _ _ _ _ _).mono ?_
  rintro e w1 ⟨rfl, hb1⟩
  have x1 := x0.below hb1
  have y1 := y0.below hb1
  have B1 : Below w.heap.size w w1 := bcall B0 hb1 (by simp; omega)
  clear hb1 x0 y0 B0
  obtain ⟨c0, c1, c2, c3⟩ := x1.open
  obtain ⟨d0, d1, d2, d3, d4⟩ := y1.open
  have g1 := y1.free
  go_wp2
  refine bodyPost_ret (v := .tuple #[.agg #[.int .i64 0, .int .i64 0, .int .i64 0, .int .i64 0, .slice none 0 0], .int .i64 2]) ?_ rfl ?_
  · simp [results, Try.results15, go_sem, d0, d1, d2, d3, d4]
  · exact ⟨none, 0, rfl, .inl rfl, below5 B1 (by omega) _ _ _ _ _, Nat.le_refl _⟩
set_option maxRecDepth 100000 in
set_option maxHeartbeats 1000000 in
theorem newr_no2 (a b c d : Int) (w : World) (hv : Pl.validB a b c d = true) (ha : 1048576 < Pl.areaI a b c d) :
    Calls Try.prog 15 #[.agg #[.int .i64 a, .int .i64 b, .int .i64 c, .int .i64 d]] w (GivesPlane ⟨0, 0, 0, 0⟩ [] 5 w) := by
  have x0 := (Box.fresh w a b c d 23).alloc #[.int .i64 0, .int .i64 0, .int .i64 0, .int .i64 0, .slice none 0 0] 26
  have y0 := QBox.freshAt (w.alloc (.cells #[.int .i64 a, .int .i64 b, .int .i64 c, .int .i64 d] 23)) (w.heap.size + 1) (by simp) 0 0 0 0 none 0 0 26
  have B0 : Below w.heap.size w ((w.alloc (.cells #[.int .i64 a, .int .i64 b, .int .i64 c, .int .i64 d] 23)).alloc (.cells #[.int .i64 0, .int .i64 0, .int .i64 0, .int .i64 0, .slice none 0 0] 26)) := ((Below.refl _ _).alloc (Nat.le_refl _) _).alloc (by simp) _
  go_enter Try.func15, Try.ntmps15
  go_wp2_with fail
  refine (valid_r _ _ _ _ _).mono ?_
  rintro e w1 ⟨rfl, hb1⟩
  have x1 := x0.below hb1
  have y1 := y0.below hb1
  have B1 : Below w.heap.size w w1 := bcall B0 hb1 (by simp; omega)
  clear hb1 x0 y0 B0
  obtain ⟨c0, c1, c2, c3⟩ := x1.open
  obtain ⟨d0, d1, d2, d3, d4⟩ := y1.open
  have g1 := y1.free
  go_wp2_with fail
  refine (area_r _ _ _ _ _).mono ?_
  rintro e w2 ⟨rfl, hb2⟩
  have x2 := x1.below hb2
  have y2 := y1.below hb2
  have B2 : Below w.heap.size w w2 := bcall B1 hb2 (by have := x1.lt; omega)
  clear hb2 x1 y1 B1 c0 c1 c2 c3 d0 d1 d2 d3 d4 g1
  obtain ⟨c0, c1, c2, c3⟩ := x2.open
  obtain ⟨d0, d1, d2, d3, d4⟩ := y2.open
  have g1 := y2.free
  go_wp2
  refine bodyPost_ret (v := .tuple #[.agg #[.int .i64 0, .int .i64 0, .int .i64 0, .int .i64 0, .slice none 0 0], .int .i64 5]) ?_ rfl ?_
  · simp [results, Try.results15, go_sem, d0, d1, d2, d3, d4]
  · exact ⟨none, 0, rfl, .inl rfl, below5 B2 (by omega) _ _ _ _ _, Nat.le_refl _⟩
set_option maxRecDepth 100000 in
set_option maxHeartbeats 1000000 in
theorem newr_yes (a b c d : Int) (w : World) (hv : Pl.validB a b c d = true) (ha : Pl.areaI a b c d ≤ 1048576) :
    Calls Try.prog 15 #[.agg #[.int .i64 a, .int .i64 b, .int .i64 c, .int .i64 d]] w (GivesPlane ⟨a, b, c, d⟩ (List.replicate (Pl.areaI a b c d).toNat 0) 0 w) := by
  have hpos : 0 ≤ Pl.areaI a b c d := by rw [Pl.areaI, if_pos hv]; exact (Pl.area_bd hv).1
  obtain ⟨C, hC⟩ : ∃ C : Nat, Pl.areaI a b c d = (C : Int) := ⟨(Pl.areaI a b c d).toNat, by omega⟩
  rw [hC] at ha hpos
  have hCt : (Pl.areaI a b c d).toNat = C := by omega
  rw [hCt]
  have hCle : C ≤ 1048576 := by omega
  have hCn : ¬ (1048576 : Int) < (C : Int) := by omega
  clear hCt
  have hmk := fun (W : World) => run_make_row' (P := Try.prog) 24 3 (.int .i64 0) 8 Try.underlying24 infoI rfl .i64 .i64 C (by omega) (by omega) W
  have x0 := (Box.fresh w a b c d 23).alloc #[.int .i64 0, .int .i64 0, .int .i64 0, .int .i64 0, .slice none 0 0] 26
  have y0 := QBox.freshAt (w.alloc (.cells #[.int .i64 a, .int .i64 b, .int .i64 c, .int .i64 d] 23)) (w.heap.size + 1) (by simp) 0 0 0 0 none 0 0 26
  have B0 : Below w.heap.size w ((w.alloc (.cells #[.int .i64 a, .int .i64 b, .int .i64 c, .int .i64 d] 23)).alloc (.cells #[.int .i64 0, .int .i64 0, .int .i64 0, .int .i64 0, .slice none 0 0] 26)) := ((Below.refl _ _).alloc (Nat.le_refl _) _).alloc (by simp) _
  go_enter Try.func15, Try.ntmps15
  go_wp2_with fail
  refine (valid_r _ _ _ _ _).mono ?_
  rintro e w1 ⟨rfl, hb1⟩
  have x1 := x0.below hb1
  have y1 := y0.below hb1
  have B1 : Below w.heap.size w w1 := bcall B0 hb1 (by simp; omega)
  clear hb1 x0 y0 B0
  obtain ⟨c0, c1, c2, c3⟩ := x1.open
  obtain ⟨d0, d1, d2, d3, d4⟩ := y1.open
  have g1 := y1.free
  go_wp2_with fail
  refine (area_r _ _ _ _ _).mono ?_
  rintro e w2 ⟨rfl, hb2⟩
  have x2 := x1.below hb2
  have y2 := y1.below hb2
  have B2 : Below w.heap.size w w2 := bcall B1 hb2 (by have := x1.lt; omega)
  clear hb2 x1 y1 B1 c0 c1 c2 c3 d0 d1 d2 d3 d4 g1
  obtain ⟨c0, c1, c2, c3⟩ := x2.open
  obtain ⟨d0, d1, d2, d3, d4⟩ := y2.open
  have g1 := y2.free
  have z2 := y2.lt
  go_wp2_with fail
  go_region_held3 (fun w' => w'.cell? ⟨w.heap.size, 0, none⟩ = some (.int .i64 a) ∧ w'.cell? ⟨w.heap.size, 1, none⟩ = some (.int .i64 b) ∧ w'.cell? ⟨w.heap.size, 2, none⟩ = some (.int .i64 c) ∧ w'.cell? ⟨w.heap.size, 3, none⟩ = some (.int .i64 d))
    (first | (with_reducible assumption) | with_reducible exact x2.drew.open | with_reducible exact (x2.alloc _ _).drew.open | with_reducible exact ((x2.far5 (by omega) _ _ _ _ _).alloc _ _).drew.open | fail)
    (fail)
  go_wp2
  refine bodyPost_ret (v := .tuple #[.agg #[.int .i64 a, .int .i64 b, .int .i64 c, .int .i64 d, .slice (some ⟨w2.heap.size, 0, none⟩) C C], .int .i64 0]) ?_ rfl ?_
  · obtain ⟨q0, q1, q2, q3, q4⟩ := ((y2.store a b c d (.slice (some ⟨w2.heap.size, 0, none⟩) C C)).alloc (.cells (madeCells #[.int .i64 0] C) 3)).open
    simp [results, Try.results15, go_sem, q0, q1, q2, q3, q4]
  · have hm := holds_made (((((w2.setCell ⟨w.heap.size + 1, 0, none⟩ (.int .i64 a)).setCell ⟨w.heap.size + 1, 1, none⟩ (.int .i64 b)).setCell ⟨w.heap.size + 1, 2, none⟩ (.int .i64 c)).setCell ⟨w.heap.size + 1, 3, none⟩ (.int .i64 d)).setCell ⟨w.heap.size + 1, 4, none⟩ (.slice (some ⟨w2.heap.size, 0, none⟩) C C)) C
    simp only [World.size_setCell] at hm
    exact ⟨some ⟨w2.heap.size, 0, none⟩, C, by simp, holds_drew hm, ((below5 B2 (by omega) _ _ _ _ _).alloc (by simp; omega) _).drew, by simp⟩
end Go.Proofs.Ytamkipdalegioaa
