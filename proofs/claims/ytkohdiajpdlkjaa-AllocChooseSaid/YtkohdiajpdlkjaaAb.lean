/-
  Layer 21: contracts of cmp.Or at two numbers, and of the comparison that ordered hands to the sort.
-/
import Derived.Test.YtkohdiajpdlkjaaAa
import Derived.Test.YtkohdiajpdlkjaaHy
import Derived.Test.YtkohdiajpdlkjaaObj6
import Derived.Deep.RegionHeld3
set_option maxRecDepth 100000
namespace Go.Proofs.Ytkohdiajpdlkjaa
open Go.RowKit

def or2 (a b : Int) : Int := if a = 0 then b else a
set_option maxHeartbeats 1000000 in
theorem or_c (x y : Int) (g m : Nat) (W : World) (c0 : W.cell? ⟨g, 0, none⟩ = some (.int .i64 x)) (c1 : W.cell? ⟨g, 1, none⟩ = some (.int .i64 y)) : Calls Try.prog 30 #[.slice (some ⟨g, 0, none⟩) 2 m] W fun e w' => e = .returned (.int .i64 (or2 x y)) ∧ w' = W := by
  by_cases hx : x = 0
  · have e : or2 x y = y := if_pos hx
    rw [e]
    subst hx
    clear e
    by_cases hy : y = 0
    · subst hy
      go_enter Try.func30, Try.ntmps30
      go_wp2_with fail
      go_loopw [8] (fun i wr => ∃ k : Nat, k ≤ 2 ∧ i = .int .i64 (k : Int) ∧ wr = W) (fun i _ => 2 - (intOf i).toNat)
      case atStart => exact ⟨0, by omega, rfl, rfl⟩
      case round =>
        obtain ⟨k, hk, rfl, hw⟩ := hrel
        subst hw
        rcases (show k = 0 ∨ k = 1 ∨ k = 2 by omega) with rfl | rfl | rfl
        · go_wp2_with fail
          go_roundw
          case rel => exact ⟨1, by omega, rfl, (by first | trivial | rfl)⟩
          case measure => simp [intOf]
        · go_wp2_with fail
          go_roundw
          case rel => exact ⟨2, by omega, rfl, (by first | trivial | rfl)⟩
          case measure => simp [intOf]
        · go_wp2_with fail
          go_ret
          exact ⟨rfl, rfl⟩
    · have ty : (y != 0) = true := by simpa using hy
      clear hy
      go_enter Try.func30, Try.ntmps30
      go_wp2_with fail
      go_loopw [8] (fun i wr => ∃ k : Nat, k ≤ 1 ∧ i = .int .i64 (k : Int) ∧ wr = W) (fun i _ => 2 - (intOf i).toNat)
      case atStart => exact ⟨0, by omega, rfl, rfl⟩
      case round =>
        obtain ⟨k, hk, rfl, hw⟩ := hrel
        subst hw
        rcases (show k = 0 ∨ k = 1 by omega) with rfl | rfl
        · go_wp2_with fail
          go_roundw
          case rel => exact ⟨1, by omega, rfl, (by first | trivial | rfl)⟩
          case measure => simp [intOf]
        · go_wp2_with fail
          go_ret
          exact ⟨rfl, rfl⟩
  · have e : or2 x y = x := if_neg hx
    rw [e]
    have tx : (x != 0) = true := by simpa using hx
    clear e hx
    go_enter Try.func30, Try.ntmps30
    go_wp2_with fail
    go_loopw [8] (fun i wr => i = .int .i64 0 ∧ wr = W) (fun i _ => 2 - (intOf i).toNat)
    case atStart => exact ⟨rfl, rfl⟩
    case round =>
      obtain ⟨rfl, hw⟩ := hrel
      subst hw
      go_wp2_with fail
      go_ret
      exact ⟨rfl, rfl⟩
/-- What the comparison answers: of the curves, the points, the falls, the rises of both steps. -/
def cmpS (s t : Stp) : Int := or2 (steep t.d t.r s.d s.r) ((s.c : Int) - (t.c : Int))
def stv (s : Stp) : Array Value := #[.int .i64 (s.c : Int), .int .i64 (s.p : Int), .int .i64 s.d, .int .i64 s.r]
theorem Blk.stp {w : World} {g : Nat} {t : TypeId} {a b c d : Value} (h : Blk w g t #[a, b, c, d]) : w.cell? ⟨g, 0, none⟩ = some a ∧ w.cell? ⟨g, 1, none⟩ = some b ∧ w.cell? ⟨g, 2, none⟩ = some c ∧ w.cell? ⟨g, 3, none⟩ = some d := ⟨h.cell 0, h.cell 1, h.cell 2, h.cell 3⟩
set_option maxHeartbeats 4000000 in
theorem cmp_c (s t : Stp) (hs : s.c < 65536) (ht : t.c < 65536) (W : World) : Calls Try.prog 29 #[.agg (stv s), .agg (stv t)] W fun e w' => e = .returned (.int .i64 (cmpS s t)) ∧ w' = (((W.alloc (.cells (stv s) 55)).alloc (.cells (stv t) 55)).alloc (.cells #[.int .i64 (steep t.d t.r s.d s.r), .int .i64 ((s.c : Int) - (t.c : Int))] 3)).drew := by
  obtain ⟨c, p, d, r⟩ := s
  obtain ⟨c2, p2, d2, r2⟩ := t
  unfold stv cmpS
  dsimp only at hs ht ⊢
  have ks := fun W1 : World => hsteeper_c d2 r2 d r W1
  generalize steep d2 r2 d r = st at *
  have w1 : IntKind.i64.wrap ((c : Int) - (c2 : Int)) = (c : Int) - (c2 : Int) := by rw [IntWalk.i64_left]; unfold wrap64; omega
  generalize ((c : Int)) = C at *
  generalize ((c2 : Int)) = C2 at *
  generalize ((p : Int)) = P at *
  generalize ((p2 : Int)) = P2 at *
  clear hs ht
  have kk := fun (W1 : World) (g m : Nat) (x y : Int) h1 h2 => or_c x y g m W1 h1 h2
  have hX : Blk ((W.alloc (.cells #[.int .i64 C, .int .i64 P, .int .i64 d, .int .i64 r] 55)).alloc (.cells #[.int .i64 C2, .int .i64 P2, .int .i64 d2, .int .i64 r2] 55)).drew W.heap.size 55 #[.int .i64 C, .int .i64 P, .int .i64 d, .int .i64 r] := ((Blk.new W _ _).alloc _).drew
  have hY : Blk ((W.alloc (.cells #[.int .i64 C, .int .i64 P, .int .i64 d, .int .i64 r] 55)).alloc (.cells #[.int .i64 C2, .int .i64 P2, .int .i64 d2, .int .i64 r2] 55)).drew (W.heap.size + 1) 55 #[.int .i64 C2, .int .i64 P2, .int .i64 d2, .int .i64 r2] := by
    have := Blk.new (W.alloc (.cells #[.int .i64 C, .int .i64 P, .int .i64 d, .int .i64 r] 55)) 55 #[.int .i64 C2, .int .i64 P2, .int .i64 d2, .int .i64 r2]
    exact (show Blk _ (W.heap.size + 1) _ _ by simpa using this).drew
  have s0 : ((W.alloc (.cells #[.int .i64 C, .int .i64 P, .int .i64 d, .int .i64 r] 55)).alloc (.cells #[.int .i64 C2, .int .i64 P2, .int .i64 d2, .int .i64 r2] 55)).drew.cell? ⟨W.heap.size, 0, none⟩ = some (.int .i64 C) ∧ ((W.alloc (.cells #[.int .i64 C, .int .i64 P, .int .i64 d, .int .i64 r] 55)).alloc (.cells #[.int .i64 C2, .int .i64 P2, .int .i64 d2, .int .i64 r2] 55)).drew.cell? ⟨W.heap.size, 2, none⟩ = some (.int .i64 d) ∧ ((W.alloc (.cells #[.int .i64 C, .int .i64 P, .int .i64 d, .int .i64 r] 55)).alloc (.cells #[.int .i64 C2, .int .i64 P2, .int .i64 d2, .int .i64 r2] 55)).drew.cell? ⟨W.heap.size, 3, none⟩ = some (.int .i64 r) ∧ ((W.alloc (.cells #[.int .i64 C, .int .i64 P, .int .i64 d, .int .i64 r] 55)).alloc (.cells #[.int .i64 C2, .int .i64 P2, .int .i64 d2, .int .i64 r2] 55)).drew.cell? ⟨W.heap.size + 1, 0, none⟩ = some (.int .i64 C2) ∧ ((W.alloc (.cells #[.int .i64 C, .int .i64 P, .int .i64 d, .int .i64 r] 55)).alloc (.cells #[.int .i64 C2, .int .i64 P2, .int .i64 d2, .int .i64 r2] 55)).drew.cell? ⟨W.heap.size + 1, 2, none⟩ = some (.int .i64 d2) ∧ ((W.alloc (.cells #[.int .i64 C, .int .i64 P, .int .i64 d, .int .i64 r] 55)).alloc (.cells #[.int .i64 C2, .int .i64 P2, .int .i64 d2, .int .i64 r2] 55)).drew.cell? ⟨W.heap.size + 1, 3, none⟩ = some (.int .i64 r2) := ⟨hX.cell 0, hX.cell 2, hX.cell 3, hY.cell 0, hY.cell 2, hY.cell 3⟩
  have hX1 := (show Blk ((((W.alloc (.cells #[.int .i64 C, .int .i64 P, .int .i64 d, .int .i64 r] 55)).alloc (.cells #[.int .i64 C2, .int .i64 P2, .int .i64 d2, .int .i64 r2] 55)).alloc (.cells #[.int .i64 st, .int .i64 (C - C2)] 3)).drew) _ _ _ from hX.alloc (.cells #[.int .i64 st, .int .i64 (C - C2)] 3))
  have hY1 := (show Blk ((((W.alloc (.cells #[.int .i64 C, .int .i64 P, .int .i64 d, .int .i64 r] 55)).alloc (.cells #[.int .i64 C2, .int .i64 P2, .int .i64 d2, .int .i64 r2] 55)).alloc (.cells #[.int .i64 st, .int .i64 (C - C2)] 3)).drew) _ _ _ from hY.alloc (.cells #[.int .i64 st, .int .i64 (C - C2)] 3))
  have s1 : ((((W.alloc (.cells #[.int .i64 C, .int .i64 P, .int .i64 d, .int .i64 r] 55)).alloc (.cells #[.int .i64 C2, .int .i64 P2, .int .i64 d2, .int .i64 r2] 55)).alloc (.cells #[.int .i64 st, .int .i64 (C - C2)] 3)).drew).cell? ⟨W.heap.size, 0, none⟩ = some (.int .i64 C) ∧ ((((W.alloc (.cells #[.int .i64 C, .int .i64 P, .int .i64 d, .int .i64 r] 55)).alloc (.cells #[.int .i64 C2, .int .i64 P2, .int .i64 d2, .int .i64 r2] 55)).alloc (.cells #[.int .i64 st, .int .i64 (C - C2)] 3)).drew).cell? ⟨W.heap.size, 2, none⟩ = some (.int .i64 d) ∧ ((((W.alloc (.cells #[.int .i64 C, .int .i64 P, .int .i64 d, .int .i64 r] 55)).alloc (.cells #[.int .i64 C2, .int .i64 P2, .int .i64 d2, .int .i64 r2] 55)).alloc (.cells #[.int .i64 st, .int .i64 (C - C2)] 3)).drew).cell? ⟨W.heap.size, 3, none⟩ = some (.int .i64 r) ∧ ((((W.alloc (.cells #[.int .i64 C, .int .i64 P, .int .i64 d, .int .i64 r] 55)).alloc (.cells #[.int .i64 C2, .int .i64 P2, .int .i64 d2, .int .i64 r2] 55)).alloc (.cells #[.int .i64 st, .int .i64 (C - C2)] 3)).drew).cell? ⟨W.heap.size + 1, 0, none⟩ = some (.int .i64 C2) ∧ ((((W.alloc (.cells #[.int .i64 C, .int .i64 P, .int .i64 d, .int .i64 r] 55)).alloc (.cells #[.int .i64 C2, .int .i64 P2, .int .i64 d2, .int .i64 r2] 55)).alloc (.cells #[.int .i64 st, .int .i64 (C - C2)] 3)).drew).cell? ⟨W.heap.size + 1, 2, none⟩ = some (.int .i64 d2) ∧ ((((W.alloc (.cells #[.int .i64 C, .int .i64 P, .int .i64 d, .int .i64 r] 55)).alloc (.cells #[.int .i64 C2, .int .i64 P2, .int .i64 d2, .int .i64 r2] 55)).alloc (.cells #[.int .i64 st, .int .i64 (C - C2)] 3)).drew).cell? ⟨W.heap.size + 1, 3, none⟩ = some (.int .i64 r2) := ⟨hX1.cell 0, hX1.cell 2, hX1.cell 3, hY1.cell 0, hY1.cell 2, hY1.cell 3⟩
  have hZ : Blk ((((W.alloc (.cells #[.int .i64 C, .int .i64 P, .int .i64 d, .int .i64 r] 55)).alloc (.cells #[.int .i64 C2, .int .i64 P2, .int .i64 d2, .int .i64 r2] 55)).alloc (.cells #[.int .i64 st, .int .i64 (C - C2)] 3)).drew) (W.heap.size + 1 + 1) 3 #[.int .i64 st, .int .i64 (C - C2)] := by
    have := Blk.new ((W.alloc (.cells #[.int .i64 C, .int .i64 P, .int .i64 d, .int .i64 r] 55)).alloc (.cells #[.int .i64 C2, .int .i64 P2, .int .i64 d2, .int .i64 r2] 55)).drew 3 #[.int .i64 st, .int .i64 (C - C2)]
    exact (show Blk _ (W.heap.size + 1 + 1) _ _ by
      have e : ((W.alloc (.cells #[.int .i64 C, .int .i64 P, .int .i64 d, .int .i64 r] 55)).alloc (.cells #[.int .i64 C2, .int .i64 P2, .int .i64 d2, .int .i64 r2] 55)).drew.heap.size = W.heap.size + 1 + 1 := by show (World.alloc _ _).heap.size = _; simp
      rw [e] at this; exact this)
  have ko := fun (m : Nat) => or_c st (C - C2) (W.heap.size + 1 + 1) m ((((W.alloc (.cells #[.int .i64 C, .int .i64 P, .int .i64 d, .int .i64 r] 55)).alloc (.cells #[.int .i64 C2, .int .i64 P2, .int .i64 d2, .int .i64 r2] 55)).alloc (.cells #[.int .i64 st, .int .i64 (C - C2)] 3)).drew) (hZ.cell 0) (hZ.cell 1)
  clear hX hY hX1 hY1 hZ kk
  go_enter Try.func29, Try.ntmps29
  go_wp2_with fail
  go_region_held3 (fun w' => w'.cell? ⟨W.heap.size, 0, none⟩ = some (.int .i64 C) ∧ w'.cell? ⟨W.heap.size, 2, none⟩ = some (.int .i64 d) ∧ w'.cell? ⟨W.heap.size, 3, none⟩ = some (.int .i64 r) ∧ w'.cell? ⟨W.heap.size + 1, 0, none⟩ = some (.int .i64 C2) ∧ w'.cell? ⟨W.heap.size + 1, 2, none⟩ = some (.int .i64 d2) ∧ w'.cell? ⟨W.heap.size + 1, 3, none⟩ = some (.int .i64 r2))
    (first | (with_reducible exact s0) | (with_reducible exact s1) | fail)
    (first | (go_simp; go_at_call 31; (with_reducible refine (ks _).mono ?_); rintro e wn ⟨rfl, rfl⟩) | (go_simp; go_at_call 30; (refine (ko _).mono ?_); rintro e wn ⟨rfl, rfl⟩) | fail)
  all_goals
    go_wp2_with fail
    go_ret
    exact ⟨rfl, rfl⟩
end Go.Proofs.Ytkohdiajpdlkjaa
