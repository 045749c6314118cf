/-
  Layer 10: the code's New and Depth.
-/
import Derived.Test.YtaddendclipkkaaTd
import Derived.Test.YtaddendclipkkaaWc
set_option maxRecDepth 100000
namespace Go.Proofs.Ytaddendclipkkaa
open Go.RowKit

def okN (w h : Int) : Prop := 1 ≤ w ∧ 1 ≤ h ∧ w ≤ 65536 ∧ h ≤ 65536 ∧ w * h ≤ 65536
instance (w h : Int) : Decidable (okN w h) := by unfold okN; infer_instance
def chE (w h : Int) : Int := if w < 1 ∨ h < 1 then 2 else if okN w h then 0 else 5
theorem mul_wrap {w h : Int} (h1 : 1 ≤ w) (h2 : 1 ≤ h) (h3 : w ≤ 65536) (h4 : h ≤ 65536) : IntKind.i64.wrap (w * h) = w * h ∧ 1 ≤ w * h ∧ w * h ≤ 4294967296 := by
  obtain ⟨a, rfl⟩ : ∃ n : Nat, w = n := ⟨w.toNat, by omega⟩
  obtain ⟨b, rfl⟩ : ∃ n : Nat, h = n := ⟨h.toNat, by omega⟩
  have k1 : a * b ≤ 65536 * 65536 := Nat.mul_le_mul (by omega) (by omega)
  have k2 : 1 * 1 ≤ a * b := Nat.mul_le_mul (by omega) (by omega)
  rw [← Int.natCast_mul, IntWalk.i64_left]
  generalize a * b = P at *
  unfold wrap64
  omega
theorem check_c (w h : Int) (W : World) : Calls Try.prog 57 #[.int .i64 w, .int .i64 h] W fun e w' => e = .returned (.int .i64 (chE w h)) ∧ W = w' := by
  have hcs : w < 1 ∨ (1 ≤ w ∧ h < 1) ∨ (1 ≤ w ∧ 1 ≤ h ∧ 65536 < w) ∨ (1 ≤ w ∧ 1 ≤ h ∧ w ≤ 65536 ∧ 65536 < h) ∨ (1 ≤ w ∧ 1 ≤ h ∧ w ≤ 65536 ∧ h ≤ 65536) := by omega
  rcases hcs with h1 | ⟨h1, h2⟩ | ⟨h1, h2, h3⟩ | ⟨h1, h2, h3, h4⟩ | ⟨h1, h2, h3, h4⟩
  · rw [show chE w h = 2 by unfold chE; rw [if_pos (.inl h1)]]
    go_enter Try.func57, Try.ntmps57
    go_wp2_with fail
    go_ret
    exact ⟨rfl, rfl⟩
  · rw [show chE w h = 2 by unfold chE; rw [if_pos (.inr h2)]]
    go_enter Try.func57, Try.ntmps57
    go_wp2_with fail
    go_ret
    exact ⟨rfl, rfl⟩
  · rw [show chE w h = 5 by unfold chE; rw [if_neg (by omega), if_neg (show ¬ okN w h by unfold okN; omega)]]
    go_enter Try.func57, Try.ntmps57
    go_wp2_with fail
    go_ret
    exact ⟨rfl, rfl⟩
  · rw [show chE w h = 5 by unfold chE; rw [if_neg (by omega), if_neg (show ¬ okN w h by unfold okN; omega)]]
    go_enter Try.func57, Try.ntmps57
    go_wp2_with fail
    go_ret
    exact ⟨rfl, rfl⟩
  · obtain ⟨p1, p2, p3⟩ := mul_wrap h1 h2 h3 h4
    have hch : chE w h = if w * h ≤ 65536 then 0 else 5 := by
      unfold chE
      rw [if_neg (by omega)]
      by_cases hp : w * h ≤ 65536
      · rw [if_pos ⟨h1, h2, h3, h4, hp⟩, if_pos hp]
      · rw [if_neg (fun c => hp c.2.2.2.2), if_neg hp]
    rw [hch]
    obtain ⟨p, hp0, q1⟩ : ∃ p, p = w * h ∧ IntKind.i64.wrap (w * h) = p := ⟨_, rfl, p1⟩
    rw [← hp0] at p2 p3 ⊢
    clear hch hp0 p1
    by_cases hp : p ≤ 65536
    · rw [if_pos hp]
      have hp' : ¬ 65536 < p := by omega
      go_enter Try.func57, Try.ntmps57
      go_wp2_with fail
      go_ret
      exact ⟨rfl, rfl⟩
    · rw [if_neg hp]
      have hp' : 65536 < p := by omega
      go_enter Try.func57, Try.ntmps57
      go_wp2_with fail
      go_ret
      exact ⟨rfl, rfl⟩
theorem dm_is {n : Nat} (h : 1 ≤ n) : ∀ k, dm n k = (n - 1) / 2 ^ k + 1
  | 0 => by simp [dm]; omega
  | k + 1 => by
    have ih := dm_is h k
    unfold dm
    rw [ih, half_at]
    omega
/-- The number of levels. -/
def dep (w h : Nat) : Nat := 1 + Lib.bitLen (max w h - 1)
theorem bl_zero : Lib.bitLen 0 = 0 := by decide
theorem dep_ok {w h : Nat} (h1 : 1 ≤ w) (h2 : 1 ≤ h) (h3 : w ≤ 65536) (h4 : h ≤ 65536) : 1 ≤ dep w h ∧ dep w h ≤ 17 ∧ dm w (dep w h - 1) = 1 ∧ dm h (dep w h - 1) = 1 := by
  have hd : dep w h - 1 = Lib.bitLen (max w h - 1) := by unfold dep; omega
  rw [dm_is h1, dm_is h2, hd]
  unfold dep
  by_cases hz : max w h - 1 = 0
  · rw [hz, bl_zero]
    have e1 : w - 1 = 0 := by omega
    have e2 : h - 1 = 0 := by omega
    rw [e1, e2]
    exact ⟨by omega, by omega, by simp, by simp⟩
  · obtain ⟨a, b, c, d⟩ := bl_bd (n := max w h - 1) (by omega) (by omega)
    generalize Lib.bitLen (max w h - 1) = L at *
    have hL : L ≤ 16 := by
      by_cases hl : L ≤ 16
      · exact hl
      · have : 2 ^ 16 ≤ 2 ^ (L - 1) := Nat.pow_le_pow_right (by omega) (by omega)
        omega
    rw [Nat.div_eq_of_lt (by omega), Nat.div_eq_of_lt (by omega)]
    omega
theorem depth_c (w h : Int) (W : World) : Calls Try.prog 29 #[.int .i64 w, .int .i64 h] W fun e w' => e = .returned (.int .i64 (if okN w h then ((dep w.toNat h.toNat : Nat) : Int) else 0)) ∧ W = w' := by
  have hc := check_c w h
  by_cases hok : okN w h
  · rw [if_pos hok]
    have e0 : chE w h = 0 := by unfold chE; rw [if_neg (by unfold okN at hok; omega), if_pos hok]
    rw [e0] at hc
    obtain ⟨h1, h2, h3, h4, _⟩ := hok
    obtain ⟨a, rfl⟩ : ∃ n : Nat, w = n := ⟨w.toNat, by omega⟩
    obtain ⟨b, rfl⟩ : ∃ n : Nat, h = n := ⟨h.toNat, by omega⟩
    have hmx := hmx
    have hm : max (a : Int) (b : Int) = ((max a b : Nat) : Int) := by omega
    have hm1 : IntKind.i64.wrap (((max a b : Nat) : Int) - 1) = ((max a b - 1 : Nat) : Int) := by rw [IntWalk.i64_left]; unfold wrap64; omega
    have hl := lenU ((max a b - 1 : Nat) : Int)
    have hu : IntKind.u64.wrap ((max a b - 1 : Nat) : Int) = ((max a b - 1 : Nat) : Int) := by rw [IntKind.wrap_u64]; omega
    have hdp := dep_ok (w := a) (h := b) (by omega) (by omega) (by omega) (by omega)
    have hdd : ((dep a b : Nat) : Int) = 1 + ((Lib.bitLen (max a b - 1) : Nat) : Int) := by unfold dep; omega
    have hd17 : Lib.bitLen (max a b - 1) ≤ 16 := by have := hdp.2.1; unfold dep at this; omega
    have hw : IntKind.i64.wrap (1 + ((Lib.bitLen (max a b - 1) : Nat) : Int)) = 1 + ((Lib.bitLen (max a b - 1) : Nat) : Int) := by rw [IntWalk.i64_left]; unfold wrap64; omega
    rw [show (Int.toNat (a : Int)) = a by omega, show (Int.toNat (b : Int)) = b by omega, hdd]
    rw [Int.toNat_natCast] at hl
    have hq : max a b - 1 ≤ 65535 := by omega
    have hq2 : 1 ≤ max a b := by omega
    clear e0 hdp hdd h1 h2 h3 h4
    generalize max a b = m at *
    generalize Lib.bitLen (m - 1) = L at *
    go_enter Try.func29, Try.ntmps29
    go_wp2_with (first | (go_at_call 57; (with_reducible refine (hc _).mono ?_); rintro e wn ⟨rfl, rfl⟩) | (go_at_call 58; (refine (hl _ (by omega) (by omega)).mono ?_); rintro e wn ⟨rfl, rfl⟩))
    go_ret
    exact ⟨rfl, rfl⟩
  · rw [if_neg hok]
    have hne : (chE w h != 0) = true := by
      unfold chE
      split
      · rfl
      · first | rfl | (rw [if_neg hok]; rfl)
    generalize chE w h = ce at *
    go_enter Try.func29, Try.ntmps29
    go_wp2_with (first | (go_at_call 57; (with_reducible refine (hc _).mono ?_); rintro e wn ⟨rfl, rfl⟩))
    go_ret
    exact ⟨rfl, rfl⟩
theorem made_get (z : Array Value) (n j : Nat) (hj : j < n) : (madeCells z n)[j]? = some (z[j % z.size]!) := by
  simp [madeCells, hj]
theorem made3 (a b c : Value) (n i : Nat) (hi : i < n) : (madeCells #[a, b, c] (n * 3))[i * 3]? = some a ∧ (madeCells #[a, b, c] (n * 3))[i * 3 + 1]? = some b ∧ (madeCells #[a, b, c] (n * 3))[i * 3 + 2]? = some c := by
  have h0 : i * 3 % 3 = 0 := by omega
  have h1 : (i * 3 + 1) % 3 = 1 := by omega
  have h2 : (i * 3 + 2) % 3 = 2 := by omega
  refine ⟨?_, ?_, ?_⟩
  · rw [made_get _ _ _ (by omega)]
    show some (#[a, b, c][i * 3 % 3]!) = some a
    rw [h0]; rfl
  · rw [made_get _ _ _ (by omega)]
    show some (#[a, b, c][(i * 3 + 1) % 3]!) = some b
    rw [h1]; rfl
  · rw [made_get _ _ _ (by omega)]
    show some (#[a, b, c][(i * 3 + 2) % 3]!) = some c
    rw [h2]; rfl
/-- While the levels are made. -/
structure Nw (W0 : World) (w h D k : Nat) (W : World) : Prop where
  size : W.heap.size = W0.heap.size + 2 + k
  obj : Blk W (W0.heap.size + 1) 77 #[.pointer (some ⟨W0.heap.size + 1, 0, none⟩), .slice (some ⟨W0.heap.size, 0, none⟩) D D, .int .i64 0]
  lvs : ∃ cs, Blk W W0.heap.size 94 cs ∧ cs.size = D * 3 ∧ ∀ i, i < k → cs[i * 3]? = some (.int .i64 (dm w i : Int)) ∧ cs[i * 3 + 1]? = some (.int .i64 (dm h i : Int)) ∧ cs[i * 3 + 2]? = some (.slice (some ⟨W0.heap.size + 2 + i, 0, none⟩) (dm w i * dm h i) (dm w i * dm h i))
  nds : ∀ i, i < k → Blk W (W0.heap.size + 2 + i) 100 (madeCells #[.int .i64 0, .int .i64 0, .bool false] (dm w i * dm h i * 3))
  below : Below W0.heap.size W0 W
theorem Nw.next {W0 W : World} {w h D k : Nat} (H : Nw W0 w h D k W) (hk : k < D) :
    Nw W0 w h D (k + 1) ((((W.alloc (.cells (madeCells #[.int .i64 0, .int .i64 0, .bool false] (dm w k * dm h k * 3)) 100)).setCell ⟨W0.heap.size, k * 3, none⟩ (.int .i64 (dm w k : Int))).setCell ⟨W0.heap.size, k * 3 + 1, none⟩ (.int .i64 (dm h k : Int))).setCell ⟨W0.heap.size, k * 3 + 2, none⟩ (.slice (some ⟨W0.heap.size + 2 + k, 0, none⟩) (dm w k * dm h k) (dm w k * dm h k))) := by
  obtain ⟨cs, h1, h2, h3⟩ := H.lvs
  have hb0 := Blk.new W 100 (madeCells #[.int .i64 0, .int .i64 0, .bool false] (dm w k * dm h k * 3))
  rw [H.size] at hb0
  generalize hO : Obj.cells (madeCells #[.int .i64 0, .int .i64 0, .bool false] (dm w k * dm h k * 3)) 100 = O at *
  have hA := below_alloc (Below.refl _ W) O
  have k1 := h1.below hA
  have hfar : ∀ g, g ≠ W0.heap.size → ∀ {ty : TypeId} {ds : Array Value}, Blk (W.alloc O) g ty ds → Blk ((((W.alloc O).setCell ⟨W0.heap.size, k * 3, none⟩ (.int .i64 (dm w k : Int))).setCell ⟨W0.heap.size, k * 3 + 1, none⟩ (.int .i64 (dm h k : Int))).setCell ⟨W0.heap.size, k * 3 + 2, none⟩ (.slice (some ⟨W0.heap.size + 2 + k, 0, none⟩) (dm w k * dm h k) (dm w k * dm h k))) g ty ds := fun g hg _ _ hb => ((hb.far (p := ⟨W0.heap.size, k * 3, none⟩) hg _).far (p := ⟨W0.heap.size, k * 3 + 1, none⟩) hg _).far (p := ⟨W0.heap.size, k * 3 + 2, none⟩) hg _
  refine ⟨by simp [World.setCell, H.size]; omega, hfar _ (by omega) (H.obj.below hA), ⟨_, ((k1.set _ _).set _ _).set _ _, by simp [h2], fun i hi => ?_⟩, fun i hi => ?_, ?_⟩
  · by_cases he : i = k
    · subst he
      refine ⟨?_, ?_, ?_⟩
      · rw [Array.getElem?_setIfInBounds, if_neg (by omega), Array.getElem?_setIfInBounds, if_neg (by omega), Array.getElem?_setIfInBounds, if_pos rfl, if_pos (by omega)]
      · rw [Array.getElem?_setIfInBounds, if_neg (by omega), Array.getElem?_setIfInBounds, if_pos rfl, if_pos (by simp; omega)]
      · rw [Array.getElem?_setIfInBounds, if_pos rfl, if_pos (by simp; omega)]
    · obtain ⟨a0, a1, a2⟩ := h3 i (by omega)
      refine ⟨?_, ?_, ?_⟩
      · rw [Array.getElem?_setIfInBounds, if_neg (by omega), Array.getElem?_setIfInBounds, if_neg (by omega), Array.getElem?_setIfInBounds, if_neg (by omega)]; exact a0
      · rw [Array.getElem?_setIfInBounds, if_neg (by omega), Array.getElem?_setIfInBounds, if_neg (by omega), Array.getElem?_setIfInBounds, if_neg (by omega)]; exact a1
      · rw [Array.getElem?_setIfInBounds, if_neg (by omega), Array.getElem?_setIfInBounds, if_neg (by omega), Array.getElem?_setIfInBounds, if_neg (by omega)]; exact a2
  · by_cases he : i = k
    · subst he
      exact hfar _ (by omega) hb0
    · exact hfar _ (by omega) ((H.nds i (by omega)).below hA)
  · have hs := H.below.size
    have b1 : Below W0.heap.size W0 (W.alloc O) := H.below.trans (hA.mono (by omega))
    exact ((b1.setCell (Nat.le_refl _) _).setCell (Nat.le_refl _) _).setCell (Nat.le_refl _) _
theorem Nw.drew {W0 W : World} {w h D k : Nat} (H : Nw W0 w h D k W) : Nw W0 w h D k W.drew := ⟨H.size, H.obj, H.lvs, H.nds, H.below.drew⟩
theorem mv_zero {w h : Nat} (hw : 1 ≤ w) (hh : 1 ≤ h) {k x y : Nat} (hx : x < dm w k) (hy : y < dm h k) : mv w h (fun _ _ => 0) k x y = 0 := by
  have hb := mv_bd w h (fun _ _ => 0) (fun _ _ => by omega) k x y
  rw [dm_is hw] at hx
  rw [dm_is hh] at hy
  have hp : 0 < 2 ^ k := Nat.two_pow_pos k
  have hx2 : x * 2 ^ k ≤ w - 1 := Nat.le_trans (Nat.mul_le_mul_right _ (show x ≤ (w - 1) / 2 ^ k by omega)) (Nat.div_mul_le_self _ _)
  have hy2 : y * 2 ^ k ≤ h - 1 := Nat.le_trans (Nat.mul_le_mul_right _ (show y ≤ (h - 1) / 2 ^ k by omega)) (Nat.div_mul_le_self _ _)
  have hl := mv_le w h (fun _ _ => 0) (x := x * 2 ^ k) (y := y * 2 ^ k) (by omega) (by omega) k
  rw [Nat.mul_div_cancel _ hp, Nat.mul_div_cancel _ hp] at hl
  omega
theorem Nw.done {W0 W : World} {w h : Nat} (H : Nw W0 w h (dep w h) (dep w h) W) (hok : okN (w : Int) (h : Int)) : Tr W W0.heap.size (W0.heap.size + 1) W0.heap.size (fun i => W0.heap.size + 2 + i) w h (dep w h) 0 (mkQ w h (fun _ _ => 0) (fun _ _ _ => 0) (fun _ _ _ => false)) := by
  obtain ⟨h1, h2, h3, h4, h5⟩ := hok
  rw [← Int.natCast_mul] at h5
  have hd := dep_ok (w := w) (h := h) (by omega) (by omega) (by omega) (by omega)
  obtain ⟨cs, k1, k2, k3⟩ := H.lvs
  refine ⟨by omega, by omega, by omega, by omega, by omega, hd.1, hd.2.1, hd.2.2, by omega, by omega, Nat.le_refl _, fun k _ => by omega, fun i j _ _ e => by have e' : W0.heap.size + 2 + i = W0.heap.size + 2 + j := e; omega, ⟨_, H.obj⟩, ⟨cs, k1, fun k hk => ⟨(k3 k hk).1, (k3 k hk).2.1, _, (k3 k hk).2.2⟩⟩, fun k hk => ⟨_, H.nds k hk, fun x y hx hy => ?_⟩, fun _ _ _ => ⟨Int.le_refl _, by show (0 : Int) ≤ 65536; omega⟩⟩
  have hi := grid_lt hx hy
  obtain ⟨a, b, c⟩ := made3 (.int .i64 0) (.int .i64 0) (.bool false) (dm w k * dm h k) (y * dm w k + x) hi
  refine ⟨?_, b, c⟩
  rw [a]
  unfold mkQ
  rw [mv_zero (by omega) (by omega) hx hy]
set_option maxHeartbeats 4000000 in
theorem tnew_yes (w h : Nat) (hok : okN (w : Int) (h : Int)) (W : World) : Calls Try.prog 27 #[.int .i64 (w : Int), .int .i64 (h : Int)] W fun e w' => e = .returned (.tuple #[.pointer (some ⟨W.heap.size + 1, 0, none⟩), .int .i64 0]) ∧
    Tr w' W.heap.size (W.heap.size + 1) W.heap.size (fun i => W.heap.size + 2 + i) w h (dep w h) 0 (mkQ w h (fun _ _ => 0) (fun _ _ _ => 0) (fun _ _ _ => false)) ∧ Below W.heap.size W w' := by
  have hc := check_c (w : Int) (h : Int)
  rw [show chE (w : Int) (h : Int) = 0 by unfold chE; rw [if_neg (by unfold okN at hok; omega), if_pos hok]] at hc
  have hd := depth_c (w : Int) (h : Int)
  rw [if_pos hok, show (Int.toNat (w : Int)) = w by omega, show (Int.toNat (h : Int)) = h by omega] at hd
  have OK := Lib.hid hok
  have hb : 1 ≤ w ∧ 1 ≤ h ∧ w ≤ 65536 ∧ h ≤ 65536 ∧ w * h ≤ 65536 := by
    obtain ⟨a, b, c, d, e⟩ := hok
    rw [← Int.natCast_mul] at e
    omega
  have hdp := dep_ok hb.1 hb.2.1 hb.2.2.1 hb.2.2.2.1
  have HB := Lib.hid hb
  have HD := Lib.hid hdp
  have DN := Lib.hid (fun (X : World) (H : Nw W w h (dep w h) (dep w h) X) => H.done OK.out)
  have hd1 : dep w h ≤ 17 := hdp.2.1
  have hd0 : 1 ≤ dep w h := hdp.1
  generalize dep w h = D at *
  have mk := mk_levels D (by omega)
  clear hok hb hdp
  go_enter Try.func27, Try.ntmps27
  go_wp2_with (first | (go_at_call 57; (with_reducible refine (hc _).mono ?_); rintro e wn ⟨rfl, rfl⟩) | (go_at_call 29; (with_reducible refine (hd _).mono ?_); rintro e wn ⟨rfl, rfl⟩))
  have N0 : Hid (Nw W w h D 0 ((W.alloc (.cells (madeCells #[.int .i64 0, .int .i64 0, .slice none 0 0] (D * 3)) 94)).alloc (.cells #[.pointer (some ⟨W.heap.size + 1, 0, none⟩), .slice (some ⟨W.heap.size, 0, none⟩) D D, .int .i64 0] 77))) := by
    have hA := below_alloc (Below.refl _ W) (.cells (madeCells #[.int .i64 0, .int .i64 0, .slice none 0 0] (D * 3)) 94)
    have b0 := Blk.new W 94 (madeCells #[.int .i64 0, .int .i64 0, .slice none 0 0] (D * 3))
    have hA2 := below_alloc (Below.refl _ (W.alloc (.cells (madeCells #[.int .i64 0, .int .i64 0, .slice none 0 0] (D * 3)) 94))) (.cells #[.pointer (some ⟨W.heap.size + 1, 0, none⟩), .slice (some ⟨W.heap.size, 0, none⟩) D D, .int .i64 0] 77)
    have b1 := Blk.new (W.alloc (.cells (madeCells #[.int .i64 0, .int .i64 0, .slice none 0 0] (D * 3)) 94)) 77 #[.pointer (some ⟨W.heap.size + 1, 0, none⟩), .slice (some ⟨W.heap.size, 0, none⟩) D D, .int .i64 0]
    rw [show (W.alloc (.cells (madeCells #[.int .i64 0, .int .i64 0, .slice none 0 0] (D * 3)) 94)).heap.size = W.heap.size + 1 by simp] at b1
    exact ⟨by simp, b1, ⟨_, b0.below hA2, by simp [madeCells], fun i hi => by omega⟩, fun i hi => by omega, below_call hA hA2⟩
  generalize (W.alloc (.cells (madeCells #[.int .i64 0, .int .i64 0, .slice none 0 0] (D * 3)) 94)).alloc (.cells #[.pointer (some ⟨W.heap.size + 1, 0, none⟩), .slice (some ⟨W.heap.size, 0, none⟩) D D, .int .i64 0] 77) = w0 at *
  clear mk hc hd
  go_loopw [0, 1, 30] (fun a b i wr => ∃ k : Nat, k ≤ D ∧ a = .int .i64 ((dm w k : Nat) : Int) ∧ b = .int .i64 ((dm h k : Nat) : Int) ∧ i = .int .i64 (k : Int) ∧ Hid (Nw W w h D k wr)) (fun _ _ i _ => D - (intOf i).toNat)
  case atStart => exact ⟨0, Nat.zero_le _, rfl, rfl, rfl, N0.out⟩
  case round =>
    obtain ⟨k, hk, rfl, rfl, rfl, hT⟩ := hrel
    by_cases hlt : k < D
    · have q1 := dm_pos HB.out.1 k
      have q2 := dm_pos HB.out.2.1 k
      have q3 := dm_le HB.out.1 k
      have q4 := dm_le HB.out.2.1 k
      have q5 : dm w k * dm h k ≤ 65536 := Nat.le_trans (Nat.mul_le_mul q3 q4) HB.out.2.2.2.2
      have q6 : dm w k ≤ 65536 := by have := HB.out; omega
      have q7 : dm h k ≤ 65536 := by have := HB.out; omega
      have mk := mk_nodes (dm w k * dm h k) q5
      have wm : IntKind.i64.wrap (((dm w k : Nat) : Int) * ((dm h k : Nat) : Int)) = ((dm w k * dm h k : Nat) : Int) := by rw [← Int.natCast_mul, IntWalk.i64_left]; generalize dm w k * dm h k = P at *; unfold wrap64; omega
      have w1 : IntKind.i64.wrap (((dm w k : Nat) : Int) + 1) = ((dm w k : Nat) : Int) + 1 := by rw [IntWalk.i64_left]; unfold wrap64; omega
      have w2 : IntKind.i64.wrap (((dm h k : Nat) : Int) + 1) = ((dm h k : Nat) : Int) + 1 := by rw [IntWalk.i64_left]; unfold wrap64; omega
      have e1 : (((dm w k : Nat) : Int) + 1) / 2 = ((dm w (k + 1) : Nat) : Int) := by show _ = (((dm w k + 1) / 2 : Nat) : Int); omega
      have e2 : (((dm h k : Nat) : Int) + 1) / 2 = ((dm h (k + 1) : Nat) : Int) := by show _ = (((dm h k + 1) / 2 : Nat) : Int); omega
      obtain ⟨cs, hl, hz, _⟩ := hT.out.lvs
      have ex : ∀ o, o < D * 3 → ∃ u, ∀ X, (wr.alloc X).cell? ⟨W.heap.size, o, none⟩ = some u := fun o ho => ⟨cs[o]'(by omega), fun X => by rw [(hl.alloc X).cell]; exact Array.getElem?_eq_getElem _⟩
      obtain ⟨y0, x0⟩ := ex (k * 3) (by omega)
      obtain ⟨y1, x1⟩ := ex (k * 3 + 1) (by omega)
      obtain ⟨y2, x2⟩ := ex (k * 3 + 2) (by omega)
      have xf : ∀ X o, (wr.alloc X).frozen? ⟨W.heap.size, o, none⟩ = false := fun X o => (hl.alloc X).free o
      have o0 : wr.cell? ⟨W.heap.size + 1, 1, none⟩ = some (.slice (some ⟨W.heap.size, 0, none⟩) D D) := hT.out.obj.cell 1
      have o1 : ∀ X, (wr.alloc X).cell? ⟨W.heap.size + 1, 1, none⟩ = some (.slice (some ⟨W.heap.size, 0, none⟩) D D) := fun X => (hT.out.obj.alloc X).cell 1
      have F7 := Lib.hid (hT.out.next hlt)
      have hsz := hT.out.size
      have kD : (k : Int) < (D : Int) := by omega
      have HSZ := Lib.hid hsz
      rw [← hsz] at F7
      clear hT hl hz ex hsz q3 q4
      generalize dm w k * dm h k = P at *
      generalize hA1 : dm w (k + 1) = a1 at *
      generalize hB1 : dm h (k + 1) = b1 at *
      have A1 := Lib.hid hA1
      have B1 := Lib.hid hB1
      clear hA1 hB1
      generalize dm w k = a0 at *
      generalize dm h k = b0 at *
      go_wp2_with fail
      go_region
      all_goals
        have F8 := Lib.hid F7.out.drew
        clear mk x0 x1 x2 xf o0 o1
        go_wp2_with fail
        go_roundw
        case rel => exact ⟨k + 1, by omega, by first | (rw [A1.out]; done) | rw [A1.out, e1] | (rw [A1.out]; simp; omega), by first | (rw [B1.out]; done) | rw [B1.out, e2] | (rw [B1.out]; simp; omega), by go_num, F8⟩
        case measure => simp [intOf]; omega
    · obtain rfl : k = D := by omega
      have F := Lib.hid (DN.out wr hT.out)
      have F2 := Lib.hid hT.out.below
      clear hT
      go_wp2_with fail
      go_ret2
      exact ⟨rfl, F.out, F2.out⟩
theorem tnew_no (w h : Int) (hok : ¬ okN w h) (W : World) : Calls Try.prog 27 #[.int .i64 w, .int .i64 h] W fun e w' => e = .returned (.tuple #[.pointer none, .int .i64 (chE w h)]) ∧ W = w' := by
  have hc := check_c w h
  have hne : (chE w h != 0) = true := by
    unfold chE
    split
    · rfl
    · first | rfl | (rw [if_neg hok]; rfl)
  generalize chE w h = ce at *
  clear hok
  go_enter Try.func27, Try.ntmps27
  go_wp2_with (first | (go_at_call 57; (with_reducible refine (hc _).mono ?_); rintro e wn ⟨rfl, rfl⟩))
  go_ret2
  exact ⟨rfl, rfl⟩
end Go.Proofs.Ytaddendclipkkaa
