/-
  Layer 22: lists of rectangles that grow; contracts of the reference's Blocks and SameRects, and of the law's small, holding, exact, half.
-/
import Derived.Test.YtcdjkofgnelgeaaPs
import Derived.Test.YtcdjkofgnelgeaaPf
set_option maxRecDepth 100000
namespace Go.Proofs.Ytcdjkofgnelgeaa
open Go.RowKit

/-- A growing list of rectangles of the call's own. -/
structure Gw (W : World) (B : Nat) (wr : World) (v : Value) (l : List Pl.R) : Prop where
  own : wr.ownsRow B 23 4 v l.length (Pl.flat l)
  below : Below W.heap.size W wr
  hB : W.heap.size ≤ B ∧ B ≤ wr.heap.size
theorem Gw.call {W wr w1 : World} {B : Nat} {v : Value} {l : List Pl.R} (g : Gw W B wr v l) (hb : Below wr.heap.size wr w1) : Gw W B w1 v l := ⟨own_below g.own hb (Nat.le_refl _), g.below.trans (hb.mono g.below.size), g.hB.1, by have := g.hB.2; have := hb.size; omega⟩
theorem Gw.alloc {W wr : World} {B : Nat} {v : Value} {l : List Pl.R} (g : Gw W B wr v l) (o : Obj) : Gw W B (wr.alloc o) v l := g.call (below_alloc (Below.refl _ _) (Nat.le_refl _) _)
theorem Gw.push {W wr w1 : World} {B : Nat} {v v' : Value} {l : List Pl.R} (g : Gw W B wr v l) (hg : wr.grownBy w1 v.ownBlock) (p : Pl.R) (hown : w1.ownsRow B 23 4 v' (l.length + 1) (Pl.flat l ++ [.int .i64 p.x0, .int .i64 p.y0, .int .i64 p.x1, .int .i64 p.y1])) : Gw W B w1 v' (l ++ [p]) := by
  have hl := g.own.lt
  refine ⟨?_, g.below.grown hg g.below.size (fun k hk => by have := (hl k hk).1; have := g.hB.1; omega), g.hB.1, by have := g.hB.2; have := hg.size; omega⟩
  rw [Pl.flat_append, List.length_append]
  exact hown
theorem Gw.blk {W wr w1 : World} {B k : Nat} {v : Value} {l : List Pl.R} (g : Gw W B wr v l) (hg : wr.grownBy w1 v.ownBlock) {t : TypeId} {cs : Array Value} (hk : k < B) (h : Blk wr k t cs) : Blk w1 k t cs := h.grown hg (fun e => by have := (g.own.lt k e.symm).1; omega)
theorem Gw.start (W wr : World) (B : Nat) (hb : Below W.heap.size W wr) (h1 : W.heap.size ≤ B) (h2 : B ≤ wr.heap.size) : Gw W B wr (.slice none 0 0) [] := ⟨World.ownsRow_nil _ _ _ _, hb, h1, h2⟩
/-- The facts that an append of one rectangle asks for. -/
theorem four_cells (w : World) (g : Nat) (hg : g = w.heap.size) (p : Pl.R) : ∀ (j : Nat) (u : Value), [Value.int .i64 p.x0, .int .i64 p.y0, .int .i64 p.x1, .int .i64 p.y1][j]? = some u → (w.alloc (.cells #[.int .i64 p.x0, .int .i64 p.y0, .int .i64 p.x1, .int .i64 p.y1] 23)).cell? (Addr.add ⟨g, 0, none⟩ j) = some u := by
  intro j u hj
  subst hg
  match j, hj with
  | 0, hj => simp at hj; subst hj; simp [Addr.add]
  | 1, hj => simp at hj; subst hj; simp [Addr.add]
  | 2, hj => simp at hj; subst hj; simp [Addr.add]
  | 3, hj => simp at hj; subst hj; simp [Addr.add]
set_option maxHeartbeats 1000000 in
theorem same22_c (a1 a2 : Option Addr) (c1 c2 : Nat) (l : List Pl.R) (w : World) (hl : l.length ≤ 140737488351232) (h1 : Holds w a1 l) (h2 : Holds w a2 l) :
    Calls Try.prog 17 #[.slice a1 l.length c1, .slice a2 l.length c2] w fun e w' => e = .returned (.bool true) ∧ Below w.heap.size w w' := by
  have heq := eqR
  have hself := Pl.eq_self
  go_enter Try.func17, Try.ntmps17
  go_wp2_with fail
  go_loopw [13] (fun i wr => ∃ k : Nat, k ≤ l.length ∧ i = .int .i64 k ∧ Below w.heap.size w wr) (fun i _ => l.length - (intOf i).toNat)
  case atStart => exact ⟨0, by omega, rfl, Below.refl _ _⟩
  case round =>
    obtain ⟨k, hk, rfl, hB⟩ := hrel
    by_cases hlt : k < l.length
    · rcases h1 with rfl | ⟨b, off, rfl, hr⟩
      · simp at hlt
      rcases h2 with rfl | ⟨b', off', rfl, hr'⟩
      · simp at hlt
      obtain ⟨e0, e1, e2, e3⟩ := hr.below hB (cell_lt (hr k hlt).1) k hlt
      obtain ⟨f0, f1, f2, f3⟩ := hr'.below hB (cell_lt (hr' k hlt).1) k hlt
      have hi : (k : Int) < (l.length : Int) := by omega
      go_wp2_with fail
      go_quiet (fail)
      go_wp2
      go_roundw
      case rel => exact ⟨k + 1, by omega, by go_num, below_drewN hB _⟩
      case measure => simp [intOf]; omega
    · go_wp2
      go_ret
      exact ⟨rfl, hB⟩
set_option maxHeartbeats 1000000 in
theorem small_c (a b c d : Int) (W : World) : Calls Try.prog 18 #[.agg #[.int .i64 a, .int .i64 b, .int .i64 c, .int .i64 d]] W fun e w' => e = .returned (.bool (Pl.validB a b c d && !Pl.emptyB a b c d && decide (Pl.areaI a b c d ≤ 400))) ∧ Below W.heap.size W w' := by
  obtain ⟨WB, hWB⟩ : ∃ ww, ww = (W.alloc (.cells #[.int .i64 a, .int .i64 b, .int .i64 c, .int .i64 d] 23)) := ⟨_, rfl⟩
  have hb0 : Below W.heap.size W WB := by rw [hWB]; exact (below_alloc (Below.refl _ W) (Nat.le_refl _) _)
  have B0 := Lib.hid hb0
  have hX : Blk WB (W.heap.size) 23 #[.int .i64 a, .int .i64 b, .int .i64 c, .int .i64 d] := by
    have := Blk.new (W) 23 #[.int .i64 a, .int .i64 b, .int .i64 c, .int .i64 d]
    rw [hWB]
    exact (show Blk _ (W.heap.size) _ _ by simpa using this)
  have HX0 := Lib.hid hX
  have HWB := Lib.hid hWB
  clear hb0 hWB hX
  have kv := fun W1 : World => valid_r a b c d W1
  have ke := fun W1 : World => empty_r a b c d W1
  have ka := fun W1 : World => area_r a b c d W1
  generalize Pl.areaI a b c d = ar at *
  cases hv : Pl.validB a b c d with
  | false =>
    rw [hv] at kv
    go_enter Try.func18, Try.ntmps18
    go_wp2_with (first | (go_at_call 23; (with_reducible refine (kv _).mono ?_); rintro e w1 ⟨rfl, hb1⟩; have hb := (show Below WB.heap.size WB w1 by rw [HWB.out]; exact hb1); clear hb1; have B1 := Lib.hid (B0.out.trans (hb.mono B0.out.size)); have HX1 := Lib.hid (HX0.out.below hb); obtain ⟨x0, x1, x2, x3⟩ := HX1.out.four; clear hb) | fail)
    go_ret
    exact ⟨rfl, B1.out⟩
  | true =>
    rw [hv] at kv
    cases he : Pl.emptyB a b c d with
    | true =>
      rw [he] at ke
      go_enter Try.func18, Try.ntmps18
      go_wp2_with (first | (go_at_call 23; (with_reducible refine (kv _).mono ?_); rintro e w1 ⟨rfl, hb1⟩; have hb := (show Below WB.heap.size WB w1 by rw [HWB.out]; exact hb1); clear hb1; have B1 := Lib.hid (B0.out.trans (hb.mono B0.out.size)); have HX1 := Lib.hid (HX0.out.below hb); obtain ⟨x0, x1, x2, x3⟩ := HX1.out.four; clear hb) | (go_at_call 24; (with_reducible refine (ke _).mono ?_); rintro e w2 ⟨rfl, hb2⟩; clear x0 x1 x2 x3; have B2 := Lib.hid (B1.out.trans (hb2.mono B1.out.size)); have HX2 := Lib.hid (HX1.out.below hb2); obtain ⟨x0, x1, x2, x3⟩ := HX2.out.four; clear hb2) | fail)
      go_ret
      exact ⟨rfl, B2.out⟩
    | false =>
      rw [he] at ke
      go_enter Try.func18, Try.ntmps18
      go_wp2_with (first | (go_at_call 23; (with_reducible refine (kv _).mono ?_); rintro e w1 ⟨rfl, hb1⟩; have hb := (show Below WB.heap.size WB w1 by rw [HWB.out]; exact hb1); clear hb1; have B1 := Lib.hid (B0.out.trans (hb.mono B0.out.size)); have HX1 := Lib.hid (HX0.out.below hb); obtain ⟨x0, x1, x2, x3⟩ := HX1.out.four; clear hb) | (go_at_call 24; (with_reducible refine (ke _).mono ?_); rintro e w2 ⟨rfl, hb2⟩; clear x0 x1 x2 x3; have B2 := Lib.hid (B1.out.trans (hb2.mono B1.out.size)); have HX2 := Lib.hid (HX1.out.below hb2); obtain ⟨x0, x1, x2, x3⟩ := HX2.out.four; clear hb2) | (go_at_call 34; (with_reducible refine (ka _).mono ?_); rintro e w3 ⟨rfl, hb3⟩; clear x0 x1 x2 x3; have B3 := Lib.hid (B2.out.trans (hb3.mono B2.out.size)); have HX3 := Lib.hid (HX2.out.below hb3); obtain ⟨x0, x1, x2, x3⟩ := HX3.out.four; clear hb3) | fail)
      go_ret
      exact ⟨by simp, B3.out⟩
theorem half_c (x y : Int) (up : Bool) (hx : 0 ≤ x ∧ x ≤ 4096) (hy : 0 ≤ y ∧ y ≤ 4096) (W : World) : Calls Try.prog 20 #[.int .i64 x, .int .i64 y, .bool up] W fun e w' => e = .returned (.tuple #[.int .i64 (Pl.halfI up x), .int .i64 (Pl.halfI up y)]) ∧ W = w' := by
  have q1 : IntKind.i64.wrap (x + 1) = x + 1 := by rw [IntWalk.i64_left]; unfold wrap64; omega
  have q2 : IntKind.i64.wrap (y + 1) = y + 1 := by rw [IntWalk.i64_left]; unfold wrap64; omega
  have d1 : wrap64 (x.tdiv 2) = x.tdiv 2 := by rw [Int.tdiv_eq_ediv_of_nonneg hx.1]; unfold wrap64; omega
  have d2 : wrap64 (y.tdiv 2) = y.tdiv 2 := by rw [Int.tdiv_eq_ediv_of_nonneg hy.1]; unfold wrap64; omega
  have d3 : wrap64 ((x + 1).tdiv 2) = (x + 1).tdiv 2 := by rw [Int.tdiv_eq_ediv_of_nonneg (by omega)]; unfold wrap64; omega
  have d4 : wrap64 ((y + 1).tdiv 2) = (y + 1).tdiv 2 := by rw [Int.tdiv_eq_ediv_of_nonneg (by omega)]; unfold wrap64; omega
  cases up
  · have r1 : Pl.halfI false x = (x + 1).tdiv 2 := rfl
    have r2 : Pl.halfI false y = (y + 1).tdiv 2 := rfl
    rw [r1, r2]
    clear hx hy r1 r2
    have D3 := Lib.hid d3
    have D4 := Lib.hid d4
    clear d1 d2 d3 d4
    go_enter Try.func20, Try.ntmps20
    go_wp2_with fail
    go_ret2
    refine ⟨?_, rfl⟩
    show Ending.returned (.tuple #[.int .i64 (wrap64 ((x + 1).tdiv 2)), .int .i64 (wrap64 ((y + 1).tdiv 2))]) = _
    rw [D3.out, D4.out]
  · have r1 : Pl.halfI true x = x.tdiv 2 := rfl
    have r2 : Pl.halfI true y = y.tdiv 2 := rfl
    rw [r1, r2]
    clear hx hy r1 r2
    have D3 := Lib.hid d1
    have D4 := Lib.hid d2
    clear d1 d2 d3 d4
    go_enter Try.func20, Try.ntmps20
    go_wp2_with fail
    go_ret2
    refine ⟨?_, rfl⟩
    show Ending.returned (.tuple #[.int .i64 (wrap64 (x.tdiv 2)), .int .i64 (wrap64 (y.tdiv 2))]) = _
    rw [D3.out, D4.out]
theorem cnt_le (l : List Pl.R) (k : Nat) (p : Pl.R → Bool) : ((l.take k).countP p : Int) ≤ (l.length : Int) := by
  have h1 := List.countP_le_length (p := p) (l := l.take k)
  have h2 : (l.take k).length ≤ l.length := by simp; omega
  omega
theorem cnt_y {p : Pl.R → Bool} (l : List Pl.R) (k : Nat) (h : k < l.length) {r : Pl.R} (hr : r = l[k]) (hp : p r = true) : ((l.take k).countP p : Int) + 1 = ((l.take (k + 1)).countP p : Int) := by
  rw [List.take_succ_eq_append_getElem h, List.countP_append, ← hr]
  simp [hp]
theorem cnt_n {p : Pl.R → Bool} (l : List Pl.R) (k : Nat) (h : k < l.length) {r : Pl.R} (hr : r = l[k]) (hp : p r = false) : ((l.take (k + 1)).countP p : Int) = ((l.take k).countP p : Int) := by
  rw [List.take_succ_eq_append_getElem h, List.countP_append, ← hr]
  simp [hp]
set_option maxHeartbeats 4000000 in
theorem holding_c (a1 : Option Addr) (c1 : Nat) (l : List Pl.R) (x y : Int) (W : World) (hl : l.length ≤ 140737488351232) (h1 : Holds W a1 l) :
    Calls Try.prog 35 #[.slice a1 l.length c1, .int .i64 x, .int .i64 y] W fun e w' => e = .returned (.int .i64 (l.countP (Pl.hasR x y) : Int)) ∧ Below W.heap.size W w' := by
  have H1 := Lib.hid h1
  clear h1
  go_enter Try.func35, Try.ntmps35
  go_wp2_with fail
  go_loopw [7, 12] (fun n i wr => ∃ k : Nat, k ≤ l.length ∧ i = .int .i64 k ∧ n = .int .i64 ((l.take k).countP (Pl.hasR x y) : Int) ∧ Below W.heap.size W wr) (fun _ i _ => l.length - (intOf i).toNat)
  case atStart => exact ⟨0, by omega, rfl, by simp, Below.refl _ _⟩
  case round =>
    obtain ⟨k, hk, rfl, rfl, hB⟩ := hrel
    by_cases hlt : k < l.length
    · rcases H1.out with hn | ⟨b, off, rfl, hr⟩
      · rw [hn] at hlt; simp at hlt
      obtain ⟨e0, e1, e2, e3⟩ := hr.below hB (cell_lt (hr k hlt).1) k hlt
      clear hr
      have hi : (k : Int) < (l.length : Int) := by omega
      obtain ⟨r, hr⟩ : ∃ r, r = l[k] := ⟨_, rfl⟩
      rw [← hr] at e0 e1 e2 e3
      have HR := Lib.hid hr
      clear hr
      by_cases g0 : x < r.x0
      · have hn2 := cnt_n (p := Pl.hasR x y) l k hlt (Hid.out HR) (by rw [Bool.eq_false_iff]; exact fun e => by have := Pl.has_iff.1 e; omega)
        rw [← hn2]
        generalize hN : ((l.take (k + 1)).countP (Pl.hasR x y) : Int) = n0 at *
        have HN := Lib.hid hN
        clear hn2 hN
        go_wp2_with fail
        go_roundw
        case rel => exact ⟨k + 1, by omega, rfl, by rw [HN.out], below_alloc hB hB.size _⟩
        case measure => simp [intOf]; omega
      · skip
        by_cases g1 : r.x1 ≤ x
        · have hn2 := cnt_n (p := Pl.hasR x y) l k hlt (Hid.out HR) (by rw [Bool.eq_false_iff]; exact fun e => by have := Pl.has_iff.1 e; omega)
          rw [← hn2]
          generalize hN : ((l.take (k + 1)).countP (Pl.hasR x y) : Int) = n0 at *
          have HN := Lib.hid hN
          clear hn2 hN
          go_wp2_with fail
          go_roundw
          case rel => exact ⟨k + 1, by omega, rfl, by rw [HN.out], below_alloc hB hB.size _⟩
          case measure => simp [intOf]; omega
        · skip
          by_cases g2 : y < r.y0
          · have hn2 := cnt_n (p := Pl.hasR x y) l k hlt (Hid.out HR) (by rw [Bool.eq_false_iff]; exact fun e => by have := Pl.has_iff.1 e; omega)
            rw [← hn2]
            generalize hN : ((l.take (k + 1)).countP (Pl.hasR x y) : Int) = n0 at *
            have HN := Lib.hid hN
            clear hn2 hN
            go_wp2_with fail
            go_roundw
            case rel => exact ⟨k + 1, by omega, rfl, by rw [HN.out], below_alloc hB hB.size _⟩
            case measure => simp [intOf]; omega
          · skip
            by_cases g3 : r.y1 ≤ y
            · have hn2 := cnt_n (p := Pl.hasR x y) l k hlt (Hid.out HR) (by rw [Bool.eq_false_iff]; exact fun e => by have := Pl.has_iff.1 e; omega)
              rw [← hn2]
              generalize hN : ((l.take (k + 1)).countP (Pl.hasR x y) : Int) = n0 at *
              have HN := Lib.hid hN
              clear hn2 hN
              go_wp2_with fail
              go_roundw
              case rel => exact ⟨k + 1, by omega, rfl, by rw [HN.out], below_alloc hB hB.size _⟩
              case measure => simp [intOf]; omega
            · skip
              have hh : Pl.hasR x y r = true := Pl.has_iff.2 ⟨by omega, by omega, by omega, by omega⟩
              have hn2 := cnt_y l k hlt (Hid.out HR) hh
              have wn : IntKind.i64.wrap (((l.take k).countP (Pl.hasR x y) : Int) + 1) = ((l.take (k + 1)).countP (Pl.hasR x y) : Int) := by
                have := cnt_le l (k + 1) (Pl.hasR x y)
                rw [IntWalk.i64_left, hn2]; unfold wrap64; omega
              generalize hN : ((l.take (k + 1)).countP (Pl.hasR x y) : Int) = n1 at *
              have HN := Lib.hid hN
              generalize ((l.take k).countP (Pl.hasR x y) : Int) = n0 at *
              clear hh hn2 hN
              go_wp2_with fail
              go_roundw
              case rel => exact ⟨k + 1, by omega, rfl, by rw [HN.out], below_alloc hB hB.size _⟩
              case measure => simp [intOf]; omega
    · obtain rfl : k = l.length := by omega
      rw [List.take_length]
      go_wp2
      go_ret
      exact ⟨rfl, hB⟩
set_option maxHeartbeats 4000000 in
theorem exact_c (a b c d : Int) (ha : 0 ≤ a ∧ c ≤ 4096) (hb : 0 ≤ b ∧ d ≤ 4096) (a1 : Option Addr) (c1 : Nat) (l : List Pl.R) (W : World) (hl : l.length ≤ 140737488351232) (h1 : Holds W a1 l) (hall : ∀ x y, Pl.hasB a b c d x y = true → l.countP (Pl.hasR x y) = 1)
    (hin : ∀ k (h : k < l.length), l[k].x0 < l[k].x1 → l[k].y0 < l[k].y1 → a ≤ l[k].x0 ∧ l[k].x1 ≤ c ∧ b ≤ l[k].y0 ∧ l[k].y1 ≤ d) :
    Calls Try.prog 19 #[.agg #[.int .i64 a, .int .i64 b, .int .i64 c, .int .i64 d], .slice a1 l.length c1] W fun e w' => e = .returned (.bool true) ∧ Below W.heap.size W w' := by
  obtain ⟨WB, hWB⟩ : ∃ ww, ww = (W.alloc (.cells #[.int .i64 a, .int .i64 b, .int .i64 c, .int .i64 d] 23)) := ⟨_, rfl⟩
  have hb0 : Below W.heap.size W WB := by rw [hWB]; exact (below_alloc (Below.refl _ W) (Nat.le_refl _) _)
  have B0 := Lib.hid hb0
  have hX : Blk WB (W.heap.size) 23 #[.int .i64 a, .int .i64 b, .int .i64 c, .int .i64 d] := by
    have := Blk.new (W) 23 #[.int .i64 a, .int .i64 b, .int .i64 c, .int .i64 d]
    rw [hWB]
    exact (show Blk _ (W.heap.size) _ _ by simpa using this)
  have HX0 := Lib.hid hX
  have HWB := Lib.hid hWB
  clear hb0 hWB hX
  have H1 := Lib.hid h1
  have HL := Lib.hid hl
  have HALL := Lib.hid hall
  have HIN := Lib.hid hin
  clear h1 hl hall hin
  go_enter Try.func19, Try.ntmps19
  go_wp2_with fail
  go_loopw [5] (fun j wr => ∃ m : Nat, j = .int .i64 (b + (m : Int)) ∧ (b + (m : Int) ≤ d ∨ m = 0) ∧ Hid (Below W.heap.size W wr) ∧ Hid (Blk wr W.heap.size 23 #[.int .i64 a, .int .i64 b, .int .i64 c, .int .i64 d])) (fun j _ => (d - intOf j).toNat)
  case atStart => exact ⟨0, by simp, .inr rfl, by rw [← HWB.out]; exact B0, by rw [← HWB.out]; exact HX0⟩
  case round =>
    obtain ⟨m, rfl, hm, hW, hX⟩ := hrel
    obtain ⟨wo, rfl⟩ : ∃ wo : World, wo = wr := ⟨_, rfl⟩
    obtain ⟨x0, x1, x2, x3⟩ := hX.out.four
    obtain ⟨yy, hyy⟩ : ∃ yy, yy = b + (m : Int) := ⟨_, rfl⟩
    rw [← hyy]
    have HYY := Lib.hid hyy
    have HM := Lib.hid hm
    clear hyy hm
    by_cases hd : yy < d
    · go_wp2_with fail
      clear x0 x1 x2 x3
      go_loopw [6] (fun i wr => ∃ n : Nat, i = .int .i64 (a + (n : Int)) ∧ (a + (n : Int) ≤ c ∨ n = 0) ∧ Hid (Below W.heap.size W wr) ∧ Hid (Blk wr W.heap.size 23 #[.int .i64 a, .int .i64 b, .int .i64 c, .int .i64 d])) (fun i _ => (c - intOf i).toNat)
      case atStart => exact ⟨0, by simp, .inr rfl, hW, hX⟩
      case round =>
        obtain ⟨n, rfl, hn, hW2, hX2⟩ := hrel
        obtain ⟨x0, x1, x2, x3⟩ := hX2.out.four
        obtain ⟨xx, hxx⟩ : ∃ xx, xx = a + (n : Int) := ⟨_, rfl⟩
        rw [← hxx]
        have HXX := Lib.hid hxx
        have HN := Lib.hid hn
        clear hxx hn
        by_cases hc : xx < c
        · have kh := fun W1 : World => fun h : Holds W1 a1 l => holding_c a1 c1 l xx yy W1 HL.out h
          rw [HALL.out xx yy (Pl.has_iff.2 ⟨by have := HXX.out; omega, hc, by have := HYY.out; omega, hd⟩)] at kh
          have kh := kh wr (H1.out.below hW2.out (Nat.le_refl _))
          have KX := Lib.hid (show wrap64 (xx + 1) = a + ((n + 1 : Nat) : Int) by have := HXX.out; unfold wrap64; omega)
          have KC := Lib.hid hc
          go_wp2_with (first | (go_at_call 35; (with_reducible refine kh.mono ?_); rintro e w5 ⟨rfl, hb5⟩; have hW5 := Lib.hid (hW2.out.trans (hb5.mono hW2.out.size)); have hX5 := Lib.hid (hX2.out.below hb5); clear hb5) | fail)
          go_roundw
          case rel => exact ⟨n + 1, by rw [← KX.out], .inl (by have := HXX.out; have := KC.out; omega), hW5, hX5⟩
          case measure => have := HXX.out; have := KC.out; simp [intOf]; unfold wrap64; omega
        · have KY := Lib.hid (show wrap64 (yy + 1) = b + ((m + 1 : Nat) : Int) by have := HYY.out; unfold wrap64; omega)
          have KC := Lib.hid hd
          go_wp2_with fail
          go_roundw
          case rel => exact ⟨m + 1, by rw [← KY.out], .inl (by have := HYY.out; have := KC.out; omega), hW2, hX2⟩
          case measure => have := HYY.out; have := KC.out; simp [intOf]; unfold wrap64; omega
    · go_wp2_with fail
      go_loopw [32] (fun i wr => ∃ k : Nat, k ≤ l.length ∧ i = .int .i64 k ∧ Hid (Below W.heap.size W wr) ∧ Hid (Blk wr W.heap.size 23 #[.int .i64 a, .int .i64 b, .int .i64 c, .int .i64 d])) (fun i _ => l.length - (intOf i).toNat)
      case atStart => exact ⟨0, by omega, rfl, hW, hX⟩
      case round =>
        obtain ⟨k, hk, rfl, hW2, hX2⟩ := hrel
        by_cases hlt : k < l.length
        · rcases H1.out with hn | ⟨b2, off, rfl, hr⟩
          · rw [hn] at hlt; simp at hlt
          obtain ⟨e0, e1, e2, e3⟩ := hr.below hW2.out (cell_lt (hr k hlt).1) k hlt
          obtain ⟨x0, x1, x2, x3⟩ := hX2.out.four
          clear hr
          have hi : (k : Int) < (l.length : Int) := by omega
          have hq := HIN.out k hlt
          have HQ := Lib.hid hq
          clear hq
          have hW3 := Lib.hid (below_alloc hW2.out hW2.out.size (.cells #[.int .i64 l[k].x0, .int .i64 l[k].y0, .int .i64 l[k].x1, .int .i64 l[k].y1] 23))
          have hX3 := Lib.hid (hX2.out.alloc (.cells #[.int .i64 l[k].x0, .int .i64 l[k].y0, .int .i64 l[k].x1, .int .i64 l[k].y1] 23))
          obtain ⟨z0, z1, z2, z3⟩ := hX3.out.four
          have hl := HL.out
          generalize l[k] = r at *
          by_cases g1 : r.x0 < r.x1
          · by_cases g2 : r.y0 < r.y1
            · obtain ⟨q1, q2, q3, q4⟩ := HQ.out g1 g2
              have d1 : ¬ (r.x0 < a) := by omega
              have d2 : ¬ (c < r.x1) := by omega
              have d3 : ¬ (r.y0 < b) := by omega
              have d4 : ¬ (d < r.y1) := by omega
              go_wp2_with fail
              go_roundw
              case rel => exact ⟨k + 1, by omega, rfl, hW3, hX3⟩
              case measure => simp [intOf]; omega
            · go_wp2_with fail
              go_roundw
              case rel => exact ⟨k + 1, by omega, rfl, hW3, hX3⟩
              case measure => simp [intOf]; omega
          · go_wp2_with fail
            go_roundw
            case rel => exact ⟨k + 1, by omega, rfl, hW3, hX3⟩
            case measure => simp [intOf]; omega
        · go_wp2_with fail
          go_ret
          exact ⟨rfl, hW2.out⟩
end Go.Proofs.Ytcdjkofgnelgeaa
