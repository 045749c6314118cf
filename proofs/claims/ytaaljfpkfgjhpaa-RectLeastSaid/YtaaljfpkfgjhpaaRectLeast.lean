/-
  For all lists of rectangles, all rectangles other and all bytes part the statement RectLeast returns true (a list of more than 40 is left alone), and its arguments read afterwards as before.
  Conditions: none beyond those of the given statement.
-/
import Derived.Test.YtaaljfpkfgjhpaaFrame
import Derived.Test.YtaaljfpkfgjhpaaRectX
import Derived.Test.YtaaljfpkfgjhpaaSlices
import Derived.Test.YtaaljfpkfgjhpaaLeast
import Derived.Test.YtaaljfpkfgjhpaaIn
namespace Go.Proofs.Ytaaljfpkfgjhpaa.rectLeast
open Go.ChangeShapes Go.WideShapes Go.ChangeAt Go.RowKit Go.Joins Go.Deep

theorem holds_at {w : World} {b off : Nat} {l : List Pl.R} (h : Holds w (some ⟨b, off, none⟩) l) {k : Nat} (hk : k < l.length) : RectAt w b (off + k * 4) l[k] := by
  rcases h with rfl | ⟨b', off', e, hr⟩
  · simp at hk
  · simp at e
    obtain ⟨rfl, rfl⟩ := e
    exact hr k hk
theorem holds_take {w : World} {a : Option Addr} {l : List Pl.R} (h : Holds w a l) (m : Nat) : Holds w a (l.take m) := by
  rcases h with rfl | ⟨b, off, rfl, hr⟩
  · exact .inl (by simp)
  · refine .inr ⟨b, off, rfl, fun k hk => ?_⟩
    rw [List.getElem_take]
    exact hr k (by simp at hk; omega)
theorem own_holds {w : World} {base n : Nat} {a : Option Addr} {m c : Nat} {l : List Pl.R} (h : w.ownsRow base 26 4 (.slice a m c) n (Pl.flat l)) : Holds w a l ∧ m = l.length := by
  obtain ⟨a', c', e, hH⟩ := row_holds h
  simp at e
  obtain ⟨rfl, rfl, rfl⟩ := e
  exact ⟨hH, rfl⟩
/-- What stands at the head of a round: the other rectangle, the bound, the list back to front so far, the list. -/
structure LS (o : Pl.R) (l : List Pl.R) (a : Option Addr) (w : World) (N k : Nat) (v : Value) (L : List Pl.R) (W : World) : Prop where
  below : Below w.heap.size w W
  box : Box W w.heap.size o
  bnd : Box W N (boundL l)
  own : W.ownsRow (N + 1) 26 4 v k (Pl.flat L)
  hl : Holds W a l
  lt : w.heap.size < N
theorem LS.step {o : Pl.R} {l L : List Pl.R} {a : Option Addr} {w W W1 : World} {N k : Nat} {v : Value} (h : LS o l a w N k v L W) (hb : Below W.heap.size W W1) : LS o l a w N k v L W1 :=
  ⟨bcall h.below hb (by have := h.box.lt; omega), h.box.below hb, h.bnd.below hb, own_below h.own hb (Nat.le_refl _), h.hl.below hb (Nat.le_refl _), h.lt⟩
theorem LS.alloc {o : Pl.R} {l L : List Pl.R} {a : Option Addr} {w W : World} {N k : Nat} {v : Value} (h : LS o l a w N k v L W) (X : Obj) : LS o l a w N k v L (W.alloc X) := h.step ((Below.refl _ _).alloc (Nat.le_refl _) _)
theorem LS.push {o : Pl.R} {l L L' : List Pl.R} {a : Option Addr} {w W W1 : World} {N k k' : Nat} {v v' : Value} (h : LS o l a w N k v L W) (hg : W.grownBy W1 v.ownBlock) (ha : ∀ b off, a = some ⟨b, off, none⟩ → b < w.heap.size ∨ l = []) (hown : W1.ownsRow (N + 1) 26 4 v' k' (Pl.flat L')) : LS o l a w N k' v' L' W1 := by
  have hl := h.own.lt
  have hlt := h.lt
  have ne : ∀ k, k ≤ N → some k ≠ v.ownBlock := fun k hk e => by have := (hl k e.symm).1; omega
  have hB := h.below.grown hg (by have := h.box.lt; omega) (fun k hk => by have := (hl k hk).1; omega)
  refine ⟨hB, h.box.grown hg (ne _ (by omega)), h.bnd.grown hg (ne _ (Nat.le_refl _)), hown, ?_, hlt⟩
  rcases h.hl with rfl | ⟨b, off, rfl, hr⟩
  · exact .inl rfl
  · rcases ha b off rfl with hb | rfl
    · refine .inr ⟨b, off, rfl, fun j hj => ?_⟩
      have e := hg.block b (by have := cell_lt (hr j hj).1; exact this) (ne b (by omega))
      exact ⟨(World.cell?_of_block (a := ⟨b, _, none⟩) e).trans (hr j hj).1, (World.cell?_of_block (a := ⟨b, _, none⟩) e).trans (hr j hj).2.1, (World.cell?_of_block (a := ⟨b, _, none⟩) e).trans (hr j hj).2.2.1, (World.cell?_of_block (a := ⟨b, _, none⟩) e).trans (hr j hj).2.2.2⟩
    · exact .inl rfl
structure LSF (o : Pl.R) (l : List Pl.R) (a : Option Addr) (w : World) (N k : Nat) (v : Value) (L : List Pl.R) where
  W : World
  ok : LS o l a w N k v L W
def LRel (o : Pl.R) (l : List Pl.R) (a : Option Addr) (w : World) (N : Nat) (al v i : Value) (W : World) : Prop :=
  ∃ k : Nat, k ≤ l.length ∧ i = .int .i64 k ∧ al = .bool (allC o l k) ∧ LS o l a w N k v (backL l k) W
set_option maxRecDepth 100000 in
set_option maxHeartbeats 1000000 in
theorem walk_long (a : Option Addr) (cap : Nat) (l : List Pl.R) (o : Pl.R) (q : Int) (hlt : 40 < l.length) (hle : l.length ≤ 9223372036854775807) (w : World) :
    Calls Try.prog 10 #[.slice a l.length cap, .agg #[.int .i64 o.x0, .int .i64 o.y0, .int .i64 o.x1, .int .i64 o.y1], .int .u8 q] w fun e w' => e = .returned (.bool true) ∧ Below w.heap.size w w' := by
  go_enter Try.func10, Try.ntmps10
  go_wp2_with fail
  refine (example_c _).mono ?_
  rintro e w1 ⟨rfl, hb1⟩
  go_wp2
  go_ret
  exact ⟨rfl, bcall ((Below.refl _ _).alloc (Nat.le_refl _) _) hb1 (by simp)⟩
set_option maxRecDepth 100000 in
set_option maxHeartbeats 6000000 in
theorem walk_short (a : Option Addr) (cap : Nat) (l : List Pl.R) (o : Pl.R) (q : Int) (hq0 : 0 ≤ q) (hq1 : q ≤ 255) (hcap : l.length ≤ cap) (hlt : l.length ≤ 40) (w : World) (hH : Holds w a l) :
    Calls Try.prog 10 #[.slice a l.length cap, .agg #[.int .i64 o.x0, .int .i64 o.y0, .int .i64 o.x1, .int .i64 o.y1], .int .u8 q] w fun e w' => e = .returned (.bool true) ∧ Below w.heap.size w w' := by
  have heq := eqR
  have hself := Pl.eq_self
  obtain ⟨i0, hi, hz0, hz1, hz2⟩ := info_parts infoR
  have hal : ∀ b off, a = some ⟨b, off, none⟩ → b < w.heap.size ∨ l = [] := fun b off e => by
    rcases hH with h | ⟨b', off', e', hr⟩
    · exact .inr h
    · rw [e] at e'
      simp at e'
      obtain ⟨rfl, rfl⟩ := e'
      by_cases h0 : 0 < l.length
      · exact .inl (cell_lt (hr 0 h0).1)
      · exact .inr (List.length_eq_zero_iff.1 (by omega))
  go_enter Try.func10, Try.ntmps10
  go_wp2_with fail
  refine (bound_n _ _ _ l _ rfl (by omega) (hH.below (B := w.heap.size) ((Below.refl _ _).alloc (Nat.le_refl _) _) (Nat.le_refl _))).mono ?_
  rintro e w1 ⟨rfl, hb1⟩
  have z1 := hb1.size
  simp at z1
  obtain ⟨N, hN⟩ : ∃ N, N = w1.heap.size := ⟨_, rfl⟩
  have hB1 : Below w.heap.size w w1 := bcall ((Below.refl _ _).alloc (Nat.le_refl _) _) hb1 (by simp)
  have hS : LS o l a w N 0 (.slice none 0 0) (backL l 0) (w1.alloc (.cells #[.int .i64 (boundL l).x0, .int .i64 (boundL l).y0, .int .i64 (boundL l).x1, .int .i64 (boundL l).y1] 26)) :=
    ⟨hB1.alloc (by omega) _, ((Box.fresh w o.x0 o.y0 o.x1 o.y1 _).below hb1).alloc _ _, Box.freshAt _ _ hN _ _ _ _ _, by simpa [backL, Pl.flat] using World.ownsRow_nil _ _ _ _, (hH.below hB1 (Nat.le_refl _)).below ((Below.refl _ _).alloc (Nat.le_refl _) _) (Nat.le_refl _), by omega⟩
  have HN : Hid _ := hN
  go_wp2_with fail
  rw [← HN.out]
  go_loopw [8, 9, 10] (fun al v i wr => LRel o l a w N al v i wr) (fun _ _ i _ => l.length - (intOf i).toNat)
  case atStart => exact ⟨0, by omega, rfl, by simp [allC], hS⟩
  case round =>
    obtain ⟨k, hk, rfl, rfl, hR⟩ := hrel
    clear hS hB1 hb1 hN HN
    by_cases hkl : k < l.length
    · rcases id hH with rfl | ⟨b, off, rfl, hr0⟩
      · simp at hkl
      clear hr0
      have hki : (k : Int) < (l.length : Int) := by omega
      have hcb := bound_contains l k hkl
      unfold contR at hcb
      go_wp2_with fail
      have hst : ∀ (X : LSF o l (some ⟨b, off, none⟩) w N k u9 (backL l k)) (w' : World), Below X.W.heap.size X.W w' → ∃ Y : LSF o l (some ⟨b, off, none⟩) w N k u9 (backL l k), w' = Y.W := fun X w' hb => ⟨⟨w', X.ok.step hb⟩, rfl⟩
      have hne : Nonempty (LSF o l (some ⟨b, off, none⟩) w N k u9 (backL l k)) := ⟨⟨_, hR⟩⟩
      have hx0 : ∀ X : LSF o l (some ⟨b, off, none⟩) w N k u9 (backL l k), X.W.cell? ⟨w.heap.size, 0, none⟩ = some (.int .i64 o.x0) := fun X => X.ok.box.open.1
      have hx1 : ∀ X : LSF o l (some ⟨b, off, none⟩) w N k u9 (backL l k), X.W.cell? ⟨w.heap.size, 1, none⟩ = some (.int .i64 o.y0) := fun X => X.ok.box.open.2.1
      have hx2 : ∀ X : LSF o l (some ⟨b, off, none⟩) w N k u9 (backL l k), X.W.cell? ⟨w.heap.size, 2, none⟩ = some (.int .i64 o.x1) := fun X => X.ok.box.open.2.2.1
      have hx3 : ∀ X : LSF o l (some ⟨b, off, none⟩) w N k u9 (backL l k), X.W.cell? ⟨w.heap.size, 3, none⟩ = some (.int .i64 o.y1) := fun X => X.ok.box.open.2.2.2
      have hy0 : ∀ X : LSF o l (some ⟨b, off, none⟩) w N k u9 (backL l k), X.W.cell? ⟨N, 0, none⟩ = some (.int .i64 (boundL l).x0) := fun X => X.ok.bnd.open.1
      have hy1 : ∀ X : LSF o l (some ⟨b, off, none⟩) w N k u9 (backL l k), X.W.cell? ⟨N, 1, none⟩ = some (.int .i64 (boundL l).y0) := fun X => X.ok.bnd.open.2.1
      have hy2 : ∀ X : LSF o l (some ⟨b, off, none⟩) w N k u9 (backL l k), X.W.cell? ⟨N, 2, none⟩ = some (.int .i64 (boundL l).x1) := fun X => X.ok.bnd.open.2.2.1
      have hy3 : ∀ X : LSF o l (some ⟨b, off, none⟩) w N k u9 (backL l k), X.W.cell? ⟨N, 3, none⟩ = some (.int .i64 (boundL l).y1) := fun X => X.ok.bnd.open.2.2.2
      have he0 : ∀ X : LSF o l (some ⟨b, off, none⟩) w N k u9 (backL l k), X.W.cell? ⟨b, off + k * 4, none⟩ = some (.int .i64 (l[k]'hkl).x0) := fun X => (holds_at X.ok.hl hkl).1
      have he1 : ∀ X : LSF o l (some ⟨b, off, none⟩) w N k u9 (backL l k), X.W.cell? ⟨b, off + k * 4 + 1, none⟩ = some (.int .i64 (l[k]'hkl).y0) := fun X => (holds_at X.ok.hl hkl).2.1
      have he2 : ∀ X : LSF o l (some ⟨b, off, none⟩) w N k u9 (backL l k), X.W.cell? ⟨b, off + k * 4 + 2, none⟩ = some (.int .i64 (l[k]'hkl).x1) := fun X => (holds_at X.ok.hl hkl).2.2.1
      have he3 : ∀ X : LSF o l (some ⟨b, off, none⟩) w N k u9 (backL l k), X.W.cell? ⟨b, off + k * 4 + 3, none⟩ = some (.int .i64 (l[k]'hkl).y1) := fun X => (holds_at X.ok.hl hkl).2.2.2
      refine wp_region_in (fun X : LSF o l (some ⟨b, off, none⟩) w N k u9 (backL l k) => X.W) (by kernel_rfl) (by kernel_rfl) ⟨⟨_, hR.step (Below.refl _ _).drew⟩, rfl⟩ ?_
      repeat (first | go_big_quiet_step ((first | (go_at_call 28; exact call_in (cont_c _ _ _ _ _ _ _ _ _) (hst _)))) | quiet_step ((first | (go_at_call 28; exact call_in (cont_c _ _ _ _ _ _ _ _ _) (hst _)))))
      refine wpQuiet_nil ?_
      intro w2 hw'
      obtain ⟨⟨_, hR2⟩, hw''⟩ := hw'
      subst hw''
      clear hst hne hx0 hx1 hx2 hx3 hy0 hy1 hy2 hy3
      clear he0 he1 he2 he3
      clear hR
      cases hac : allC o l k with
      | false =>
        go_wp2_with fail
        have hst : ∀ (X : LSF o l (some ⟨b, off, none⟩) w N k u9 (backL l k)) (w' : World), Below X.W.heap.size X.W w' → ∃ Y : LSF o l (some ⟨b, off, none⟩) w N k u9 (backL l k), w' = Y.W := fun X w' hb => ⟨⟨w', X.ok.step hb⟩, rfl⟩
        have hne : Nonempty (LSF o l (some ⟨b, off, none⟩) w N k u9 (backL l k)) := ⟨⟨_, hR2⟩⟩
        have hx0 : ∀ X : LSF o l (some ⟨b, off, none⟩) w N k u9 (backL l k), X.W.cell? ⟨w.heap.size, 0, none⟩ = some (.int .i64 o.x0) := fun X => X.ok.box.open.1
        have hx1 : ∀ X : LSF o l (some ⟨b, off, none⟩) w N k u9 (backL l k), X.W.cell? ⟨w.heap.size, 1, none⟩ = some (.int .i64 o.y0) := fun X => X.ok.box.open.2.1
        have hx2 : ∀ X : LSF o l (some ⟨b, off, none⟩) w N k u9 (backL l k), X.W.cell? ⟨w.heap.size, 2, none⟩ = some (.int .i64 o.x1) := fun X => X.ok.box.open.2.2.1
        have hx3 : ∀ X : LSF o l (some ⟨b, off, none⟩) w N k u9 (backL l k), X.W.cell? ⟨w.heap.size, 3, none⟩ = some (.int .i64 o.y1) := fun X => X.ok.box.open.2.2.2
        have hy0 : ∀ X : LSF o l (some ⟨b, off, none⟩) w N k u9 (backL l k), X.W.cell? ⟨N, 0, none⟩ = some (.int .i64 (boundL l).x0) := fun X => X.ok.bnd.open.1
        have hy1 : ∀ X : LSF o l (some ⟨b, off, none⟩) w N k u9 (backL l k), X.W.cell? ⟨N, 1, none⟩ = some (.int .i64 (boundL l).y0) := fun X => X.ok.bnd.open.2.1
        have hy2 : ∀ X : LSF o l (some ⟨b, off, none⟩) w N k u9 (backL l k), X.W.cell? ⟨N, 2, none⟩ = some (.int .i64 (boundL l).x1) := fun X => X.ok.bnd.open.2.2.1
        have hy3 : ∀ X : LSF o l (some ⟨b, off, none⟩) w N k u9 (backL l k), X.W.cell? ⟨N, 3, none⟩ = some (.int .i64 (boundL l).y1) := fun X => X.ok.bnd.open.2.2.2
        have he0 : ∀ X : LSF o l (some ⟨b, off, none⟩) w N k u9 (backL l k), X.W.cell? ⟨b, off + k * 4, none⟩ = some (.int .i64 (l[k]'hkl).x0) := fun X => (holds_at X.ok.hl hkl).1
        have he1 : ∀ X : LSF o l (some ⟨b, off, none⟩) w N k u9 (backL l k), X.W.cell? ⟨b, off + k * 4 + 1, none⟩ = some (.int .i64 (l[k]'hkl).y0) := fun X => (holds_at X.ok.hl hkl).2.1
        have he2 : ∀ X : LSF o l (some ⟨b, off, none⟩) w N k u9 (backL l k), X.W.cell? ⟨b, off + k * 4 + 2, none⟩ = some (.int .i64 (l[k]'hkl).x1) := fun X => (holds_at X.ok.hl hkl).2.2.1
        have he3 : ∀ X : LSF o l (some ⟨b, off, none⟩) w N k u9 (backL l k), X.W.cell? ⟨b, off + k * 4 + 3, none⟩ = some (.int .i64 (l[k]'hkl).y1) := fun X => (holds_at X.ok.hl hkl).2.2.2
        refine wp_region_in (fun X : LSF o l (some ⟨b, off, none⟩) w N k u9 (backL l k) => X.W) (by kernel_rfl) (by kernel_rfl) ⟨⟨_, hR2.step (Below.refl _ _).drew⟩, rfl⟩ ?_
        repeat (first | go_big_quiet_step ((first | (go_at_call 28; exact call_in (cont_c _ _ _ _ _ _ _ _ _) (hst _)))) | quiet_step ((first | (go_at_call 28; exact call_in (cont_c _ _ _ _ _ _ _ _ _) (hst _)))))
        refine wpQuiet_nil ?_
        intro w3 hw'
        obtain ⟨⟨_, hR3⟩, hw''⟩ := hw'
        subst hw''
        clear hst hne hx0 hx1 hx2 hx3 hy0 hy1 hy2 hy3
        clear he0 he1 he2 he3 hR2 hcb
        obtain ⟨e0, e1, e2, e3⟩ := holds_at hR3.hl (k := l.length - 1 - k) (by omega)
        have hb3 := hR3.below.size
        go_wp2_with (first | (at_builtin; refine wpList_append_own _ rfl _ _ 34 rfl (N + 1) 26 i0 (.agg #[.int .i64 0, .int .i64 0, .int .i64 0, .int .i64 0]) 4 32 Try.underlying34 hi hz0 hz1 hz2 rfl (by decide) _ _ _ rfl (hR3.own.alloc _) ⟨w3.heap.size, 0, none⟩ 1 1 [.int .i64 (l[l.length - 1 - k]'(by omega)).x0, .int .i64 (l[l.length - 1 - k]'(by omega)).y0, .int .i64 (l[l.length - 1 - k]'(by omega)).x1, .int .i64 (l[l.length - 1 - k]'(by omega)).y1] rfl rfl ?c1 ?c2 ?c3 ?c4 ?c5 ?_))
        case c1 =>
          intro j u hj
          match j, hj with
          | 0, hj => simp at hj; subst hj; simp [Addr.add]
          | 1, hj => simp at hj; subst hj; simp [Addr.add]
          | 2, hj => simp at hj; subst hj; simp [Addr.add]
          | 3, hj => simp at hj; subst hj; simp [Addr.add]
        case c2 => intro u hu; simp at hu; rcases hu with rfl | rfl | rfl | rfl <;> rfl
        case c3 => unfold maxLen; omega
        case c4 => omega
        case c5 => have := hR3.bnd.lt; simp; omega
        intro v' w8 hown8 hgrow8 _
        have hR8 := (hR3.alloc _).push (L' := backL l (k + 1)) hgrow8 hal (by rw [backL_succ l k hkl, Pl.flat_append]; exact hown8)
        clear hown8 hgrow8 hR3 e0 e1 e2 e3
        go_wp2
        go_roundw
        case rel => first | exact ⟨k + 1, by omega, by go_num, congrArg Value.bool (by rw [allC_succ _ _ _ hkl, hac]; rfl), hR8⟩ | ((repeat apply Exists.intro); exact ⟨⟨k + 1, by omega, by go_num, congrArg Value.bool (by rw [allC_succ _ _ _ hkl, hac]; rfl), hR8⟩, rfl⟩)
        case measure => simp [intOf]; omega
      | true =>
        go_wp2_with fail
        have hst : ∀ (X : LSF o l (some ⟨b, off, none⟩) w N k u9 (backL l k)) (w' : World), Below X.W.heap.size X.W w' → ∃ Y : LSF o l (some ⟨b, off, none⟩) w N k u9 (backL l k), w' = Y.W := fun X w' hb => ⟨⟨w', X.ok.step hb⟩, rfl⟩
        have hne : Nonempty (LSF o l (some ⟨b, off, none⟩) w N k u9 (backL l k)) := ⟨⟨_, hR2⟩⟩
        have hx0 : ∀ X : LSF o l (some ⟨b, off, none⟩) w N k u9 (backL l k), X.W.cell? ⟨w.heap.size, 0, none⟩ = some (.int .i64 o.x0) := fun X => X.ok.box.open.1
        have hx1 : ∀ X : LSF o l (some ⟨b, off, none⟩) w N k u9 (backL l k), X.W.cell? ⟨w.heap.size, 1, none⟩ = some (.int .i64 o.y0) := fun X => X.ok.box.open.2.1
        have hx2 : ∀ X : LSF o l (some ⟨b, off, none⟩) w N k u9 (backL l k), X.W.cell? ⟨w.heap.size, 2, none⟩ = some (.int .i64 o.x1) := fun X => X.ok.box.open.2.2.1
        have hx3 : ∀ X : LSF o l (some ⟨b, off, none⟩) w N k u9 (backL l k), X.W.cell? ⟨w.heap.size, 3, none⟩ = some (.int .i64 o.y1) := fun X => X.ok.box.open.2.2.2
        have hy0 : ∀ X : LSF o l (some ⟨b, off, none⟩) w N k u9 (backL l k), X.W.cell? ⟨N, 0, none⟩ = some (.int .i64 (boundL l).x0) := fun X => X.ok.bnd.open.1
        have hy1 : ∀ X : LSF o l (some ⟨b, off, none⟩) w N k u9 (backL l k), X.W.cell? ⟨N, 1, none⟩ = some (.int .i64 (boundL l).y0) := fun X => X.ok.bnd.open.2.1
        have hy2 : ∀ X : LSF o l (some ⟨b, off, none⟩) w N k u9 (backL l k), X.W.cell? ⟨N, 2, none⟩ = some (.int .i64 (boundL l).x1) := fun X => X.ok.bnd.open.2.2.1
        have hy3 : ∀ X : LSF o l (some ⟨b, off, none⟩) w N k u9 (backL l k), X.W.cell? ⟨N, 3, none⟩ = some (.int .i64 (boundL l).y1) := fun X => X.ok.bnd.open.2.2.2
        have he0 : ∀ X : LSF o l (some ⟨b, off, none⟩) w N k u9 (backL l k), X.W.cell? ⟨b, off + k * 4, none⟩ = some (.int .i64 (l[k]'hkl).x0) := fun X => (holds_at X.ok.hl hkl).1
        have he1 : ∀ X : LSF o l (some ⟨b, off, none⟩) w N k u9 (backL l k), X.W.cell? ⟨b, off + k * 4 + 1, none⟩ = some (.int .i64 (l[k]'hkl).y0) := fun X => (holds_at X.ok.hl hkl).2.1
        have he2 : ∀ X : LSF o l (some ⟨b, off, none⟩) w N k u9 (backL l k), X.W.cell? ⟨b, off + k * 4 + 2, none⟩ = some (.int .i64 (l[k]'hkl).x1) := fun X => (holds_at X.ok.hl hkl).2.2.1
        have he3 : ∀ X : LSF o l (some ⟨b, off, none⟩) w N k u9 (backL l k), X.W.cell? ⟨b, off + k * 4 + 3, none⟩ = some (.int .i64 (l[k]'hkl).y1) := fun X => (holds_at X.ok.hl hkl).2.2.2
        refine wp_region_in (fun X : LSF o l (some ⟨b, off, none⟩) w N k u9 (backL l k) => X.W) (by kernel_rfl) (by kernel_rfl) ⟨⟨_, hR2.step (Below.refl _ _).drew⟩, rfl⟩ ?_
        repeat (first | go_big_quiet_step ((first | (go_at_call 28; exact call_in (cont_c _ _ _ _ _ _ _ _ _) (hst _)))) | quiet_step ((first | (go_at_call 28; exact call_in (cont_c _ _ _ _ _ _ _ _ _) (hst _)))))
        refine wpQuiet_nil ?_
        intro w3 hw'
        obtain ⟨⟨_, hR3⟩, hw''⟩ := hw'
        subst hw''
        clear hst hne hx0 hx1 hx2 hx3 hy0 hy1 hy2 hy3
        clear he0 he1 he2 he3 hR2 hcb
        obtain ⟨e0, e1, e2, e3⟩ := holds_at hR3.hl (k := l.length - 1 - k) (by omega)
        have hb3 := hR3.below.size
        go_wp2_with (first | (at_builtin; refine wpList_append_own _ rfl _ _ 34 rfl (N + 1) 26 i0 (.agg #[.int .i64 0, .int .i64 0, .int .i64 0, .int .i64 0]) 4 32 Try.underlying34 hi hz0 hz1 hz2 rfl (by decide) _ _ _ rfl (hR3.own.alloc _) ⟨w3.heap.size, 0, none⟩ 1 1 [.int .i64 (l[l.length - 1 - k]'(by omega)).x0, .int .i64 (l[l.length - 1 - k]'(by omega)).y0, .int .i64 (l[l.length - 1 - k]'(by omega)).x1, .int .i64 (l[l.length - 1 - k]'(by omega)).y1] rfl rfl ?c1 ?c2 ?c3 ?c4 ?c5 ?_))
        case c1 =>
          intro j u hj
          match j, hj with
          | 0, hj => simp at hj; subst hj; simp [Addr.add]
          | 1, hj => simp at hj; subst hj; simp [Addr.add]
          | 2, hj => simp at hj; subst hj; simp [Addr.add]
          | 3, hj => simp at hj; subst hj; simp [Addr.add]
        case c2 => intro u hu; simp at hu; rcases hu with rfl | rfl | rfl | rfl <;> rfl
        case c3 => unfold maxLen; omega
        case c4 => omega
        case c5 => have := hR3.bnd.lt; simp; omega
        intro v' w8 hown8 hgrow8 _
        have hR8 := (hR3.alloc _).push (L' := backL l (k + 1)) hgrow8 hal (by rw [backL_succ l k hkl, Pl.flat_append]; exact hown8)
        clear hown8 hgrow8 hR3 e0 e1 e2 e3
        go_wp2
        go_roundw
        case rel => first | exact ⟨k + 1, by omega, by go_num, congrArg Value.bool (by rw [allC_succ _ _ _ hkl, hac]; rfl), hR8⟩ | ((repeat apply Exists.intro); exact ⟨⟨k + 1, by omega, by go_num, congrArg Value.bool (by rw [allC_succ _ _ _ hkl, hac]; rfl), hR8⟩, rfl⟩)
        case measure => simp [intOf]; omega
    · obtain rfl : k = l.length := by omega
      obtain ⟨a2, c2, hv2, hH2⟩ := row_holds hR.own
      rw [backL_len l _ (Nat.le_refl _)] at hv2
      subst hv2
      have hrev : boundL (backL l l.length) = boundL l := by rw [backL_full, bound_reverse]
      cases hac : allC o l l.length with
      | false =>
        go_wp2_with fail
        have hst : ∀ (X : LSF o l a w N l.length (.slice a2 l.length c2) (backL l l.length)) (w' : World), Below X.W.heap.size X.W w' → ∃ Y : LSF o l a w N l.length (.slice a2 l.length c2) (backL l l.length), w' = Y.W := fun X w' hb => ⟨⟨w', X.ok.step hb⟩, rfl⟩
        have hne : Nonempty (LSF o l a w N l.length (.slice a2 l.length c2) (backL l l.length)) := ⟨⟨_, hR⟩⟩
        have hx0 : ∀ X : LSF o l a w N l.length (.slice a2 l.length c2) (backL l l.length), X.W.cell? ⟨w.heap.size, 0, none⟩ = some (.int .i64 o.x0) := fun X => X.ok.box.open.1
        have hx1 : ∀ X : LSF o l a w N l.length (.slice a2 l.length c2) (backL l l.length), X.W.cell? ⟨w.heap.size, 1, none⟩ = some (.int .i64 o.y0) := fun X => X.ok.box.open.2.1
        have hx2 : ∀ X : LSF o l a w N l.length (.slice a2 l.length c2) (backL l l.length), X.W.cell? ⟨w.heap.size, 2, none⟩ = some (.int .i64 o.x1) := fun X => X.ok.box.open.2.2.1
        have hx3 : ∀ X : LSF o l a w N l.length (.slice a2 l.length c2) (backL l l.length), X.W.cell? ⟨w.heap.size, 3, none⟩ = some (.int .i64 o.y1) := fun X => X.ok.box.open.2.2.2
        have hy0 : ∀ X : LSF o l a w N l.length (.slice a2 l.length c2) (backL l l.length), X.W.cell? ⟨N, 0, none⟩ = some (.int .i64 (boundL l).x0) := fun X => X.ok.bnd.open.1
        have hy1 : ∀ X : LSF o l a w N l.length (.slice a2 l.length c2) (backL l l.length), X.W.cell? ⟨N, 1, none⟩ = some (.int .i64 (boundL l).y0) := fun X => X.ok.bnd.open.2.1
        have hy2 : ∀ X : LSF o l a w N l.length (.slice a2 l.length c2) (backL l l.length), X.W.cell? ⟨N, 2, none⟩ = some (.int .i64 (boundL l).x1) := fun X => X.ok.bnd.open.2.2.1
        have hy3 : ∀ X : LSF o l a w N l.length (.slice a2 l.length c2) (backL l l.length), X.W.cell? ⟨N, 3, none⟩ = some (.int .i64 (boundL l).y1) := fun X => X.ok.bnd.open.2.2.2
        have hHB : ∀ X : LSF o l a w N l.length (.slice a2 l.length c2) (backL l l.length), Holds X.W a2 (backL l l.length) := fun X => (own_holds X.ok.own).1
        refine wp_region_in (fun X : LSF o l a w N l.length (.slice a2 l.length c2) (backL l l.length) => X.W) (by kernel_rfl) (by kernel_rfl) ⟨⟨_, hR.step (Below.refl _ _).drew⟩, rfl⟩ ?_
        repeat (first | go_big_quiet_step ((first | (go_at_call 28; exact call_in (cont_c _ _ _ _ _ _ _ _ _) (hst _)) | (go_at_call 32; exact call_in (bound_n _ _ _ (backL l l.length) _ (backL_len l _ (Nat.le_refl _)).symm (by rw [backL_len l _ (Nat.le_refl _)]; omega) (hHB _)) (hst _)))) | quiet_step ((first | (go_at_call 28; exact call_in (cont_c _ _ _ _ _ _ _ _ _) (hst _)) | (go_at_call 32; exact call_in (bound_n _ _ _ (backL l l.length) _ (backL_len l _ (Nat.le_refl _)).symm (by rw [backL_len l _ (Nat.le_refl _)]; omega) (hHB _)) (hst _)))))
        refine wpQuiet_nil ?_
        intro w3 hw'
        obtain ⟨⟨_, hR3⟩, hw''⟩ := hw'
        subst hw''
        clear hst hne hx0 hx1 hx2 hx3 hy0 hy1 hy2 hy3
        clear hHB
        obtain ⟨m, hm⟩ : ∃ m : Nat, q % ((l.length : Int) + 1) = (m : Int) := ⟨(q % ((l.length : Int) + 1)).toNat, by rw [Int.toNat_of_nonneg (Int.emod_nonneg _ (by omega))]⟩
        have hml : m ≤ l.length := by
          have := Int.emod_lt_of_pos q (show 0 < (l.length : Int) + 1 by omega)
          omega
        have hlm : (l.take m).length = m := by simp; omega
        go_wp2_with fail
        refine (bound_n _ _ _ (l.take m) _ hlm.symm (by omega) (holds_take hR3.hl m)).mono ?_
        rintro e w4 ⟨rfl, hb4⟩
        have hR4 := hR3.step hb4
        have hb4s := hR4.bnd.lt
        clear hb4 hR3
        go_wp2_with (first | (at_builtin; refine wpList_append_own _ rfl _ _ 34 rfl (N + 1) 26 i0 (.agg #[.int .i64 0, .int .i64 0, .int .i64 0, .int .i64 0]) 4 32 Try.underlying34 hi hz0 hz1 hz2 rfl (by decide) _ _ _ rfl (hR4.own.alloc _) ⟨w4.heap.size, 0, none⟩ 1 1 [.int .i64 (boundL (l.take m)).x0, .int .i64 (boundL (l.take m)).y0, .int .i64 (boundL (l.take m)).x1, .int .i64 (boundL (l.take m)).y1] rfl rfl ?c1 ?c2 ?c3 ?c4 ?c5 ?_))
        case c1 =>
          intro j u hj
          match j, hj with
          | 0, hj => simp at hj; subst hj; simp [Addr.add]
          | 1, hj => simp at hj; subst hj; simp [Addr.add]
          | 2, hj => simp at hj; subst hj; simp [Addr.add]
          | 3, hj => simp at hj; subst hj; simp [Addr.add]
        case c2 => intro u hu; simp at hu; rcases hu with rfl | rfl | rfl | rfl <;> rfl
        case c3 => unfold maxLen; omega
        case c4 => omega
        case c5 => simp; omega
        intro v' w8 hown8 hgrow8 _
        have hR8 := (hR4.alloc _).push (L' := backL l l.length ++ [(boundL (l.take m))]) hgrow8 hal (by rw [Pl.flat_append]; exact hown8)
        clear hown8 hgrow8 hR4
        obtain ⟨a3, c3, hv3, hH3⟩ := row_holds hR8.own
        have hl3 : (backL l l.length ++ [(boundL (l.take m))]).length = l.length + 1 := by rw [List.length_append, backL_len l _ (Nat.le_refl _)]; rfl
        rw [hl3] at hv3
        subst hv3
        have hag : boundL (backL l l.length ++ [(boundL (l.take m))]) = boundL l := by rw [backL_full, bound_again]
        go_wp2_with fail
        have hst : ∀ (X : LSF o l a w N (l.length + 1) (.slice a3 (l.length + 1) c3) (backL l l.length ++ [(boundL (l.take m))])) (w' : World), Below X.W.heap.size X.W w' → ∃ Y : LSF o l a w N (l.length + 1) (.slice a3 (l.length + 1) c3) (backL l l.length ++ [(boundL (l.take m))]), w' = Y.W := fun X w' hb => ⟨⟨w', X.ok.step hb⟩, rfl⟩
        have hne : Nonempty (LSF o l a w N (l.length + 1) (.slice a3 (l.length + 1) c3) (backL l l.length ++ [(boundL (l.take m))])) := ⟨⟨_, hR8⟩⟩
        have hx0 : ∀ X : LSF o l a w N (l.length + 1) (.slice a3 (l.length + 1) c3) (backL l l.length ++ [(boundL (l.take m))]), X.W.cell? ⟨w.heap.size, 0, none⟩ = some (.int .i64 o.x0) := fun X => X.ok.box.open.1
        have hx1 : ∀ X : LSF o l a w N (l.length + 1) (.slice a3 (l.length + 1) c3) (backL l l.length ++ [(boundL (l.take m))]), X.W.cell? ⟨w.heap.size, 1, none⟩ = some (.int .i64 o.y0) := fun X => X.ok.box.open.2.1
        have hx2 : ∀ X : LSF o l a w N (l.length + 1) (.slice a3 (l.length + 1) c3) (backL l l.length ++ [(boundL (l.take m))]), X.W.cell? ⟨w.heap.size, 2, none⟩ = some (.int .i64 o.x1) := fun X => X.ok.box.open.2.2.1
        have hx3 : ∀ X : LSF o l a w N (l.length + 1) (.slice a3 (l.length + 1) c3) (backL l l.length ++ [(boundL (l.take m))]), X.W.cell? ⟨w.heap.size, 3, none⟩ = some (.int .i64 o.y1) := fun X => X.ok.box.open.2.2.2
        have hy0 : ∀ X : LSF o l a w N (l.length + 1) (.slice a3 (l.length + 1) c3) (backL l l.length ++ [(boundL (l.take m))]), X.W.cell? ⟨N, 0, none⟩ = some (.int .i64 (boundL l).x0) := fun X => X.ok.bnd.open.1
        have hy1 : ∀ X : LSF o l a w N (l.length + 1) (.slice a3 (l.length + 1) c3) (backL l l.length ++ [(boundL (l.take m))]), X.W.cell? ⟨N, 1, none⟩ = some (.int .i64 (boundL l).y0) := fun X => X.ok.bnd.open.2.1
        have hy2 : ∀ X : LSF o l a w N (l.length + 1) (.slice a3 (l.length + 1) c3) (backL l l.length ++ [(boundL (l.take m))]), X.W.cell? ⟨N, 2, none⟩ = some (.int .i64 (boundL l).x1) := fun X => X.ok.bnd.open.2.2.1
        have hy3 : ∀ X : LSF o l a w N (l.length + 1) (.slice a3 (l.length + 1) c3) (backL l l.length ++ [(boundL (l.take m))]), X.W.cell? ⟨N, 3, none⟩ = some (.int .i64 (boundL l).y1) := fun X => X.ok.bnd.open.2.2.2
        have hHB : ∀ X : LSF o l a w N (l.length + 1) (.slice a3 (l.length + 1) c3) (backL l l.length ++ [(boundL (l.take m))]), Holds X.W a3 (backL l l.length ++ [(boundL (l.take m))]) := fun X => (own_holds X.ok.own).1
        refine wp_region_in (fun X : LSF o l a w N (l.length + 1) (.slice a3 (l.length + 1) c3) (backL l l.length ++ [(boundL (l.take m))]) => X.W) (by kernel_rfl) (by kernel_rfl) ⟨⟨_, hR8.step (Below.refl _ _).drew⟩, rfl⟩ ?_
        repeat (first | go_big_quiet_step ((first | (go_at_call 32; exact call_in (bound_n _ _ _ (backL l l.length ++ [(boundL (l.take m))]) _ hl3.symm (by rw [hl3]; omega) (hHB _)) (hst _)) | (go_at_call 19; exact call_in (example_c _) (hst _)))) | quiet_step ((first | (go_at_call 32; exact call_in (bound_n _ _ _ (backL l l.length ++ [(boundL (l.take m))]) _ hl3.symm (by rw [hl3]; omega) (hHB _)) (hst _)) | (go_at_call 19; exact call_in (example_c _) (hst _)))))
        refine wpQuiet_nil ?_
        intro w9 hw'
        obtain ⟨⟨_, hR9⟩, hw''⟩ := hw'
        subst hw''
        clear hst hne hx0 hx1 hx2 hx3 hy0 hy1 hy2 hy3
        clear hHB
        go_wp2
        go_ret
        exact ⟨rfl, hR9.below⟩
      | true =>
        have hoc := allC_full o l hac
        unfold contR at hoc
        go_wp2_with fail
        have hst : ∀ (X : LSF o l a w N l.length (.slice a2 l.length c2) (backL l l.length)) (w' : World), Below X.W.heap.size X.W w' → ∃ Y : LSF o l a w N l.length (.slice a2 l.length c2) (backL l l.length), w' = Y.W := fun X w' hb => ⟨⟨w', X.ok.step hb⟩, rfl⟩
        have hne : Nonempty (LSF o l a w N l.length (.slice a2 l.length c2) (backL l l.length)) := ⟨⟨_, hR⟩⟩
        have hx0 : ∀ X : LSF o l a w N l.length (.slice a2 l.length c2) (backL l l.length), X.W.cell? ⟨w.heap.size, 0, none⟩ = some (.int .i64 o.x0) := fun X => X.ok.box.open.1
        have hx1 : ∀ X : LSF o l a w N l.length (.slice a2 l.length c2) (backL l l.length), X.W.cell? ⟨w.heap.size, 1, none⟩ = some (.int .i64 o.y0) := fun X => X.ok.box.open.2.1
        have hx2 : ∀ X : LSF o l a w N l.length (.slice a2 l.length c2) (backL l l.length), X.W.cell? ⟨w.heap.size, 2, none⟩ = some (.int .i64 o.x1) := fun X => X.ok.box.open.2.2.1
        have hx3 : ∀ X : LSF o l a w N l.length (.slice a2 l.length c2) (backL l l.length), X.W.cell? ⟨w.heap.size, 3, none⟩ = some (.int .i64 o.y1) := fun X => X.ok.box.open.2.2.2
        have hy0 : ∀ X : LSF o l a w N l.length (.slice a2 l.length c2) (backL l l.length), X.W.cell? ⟨N, 0, none⟩ = some (.int .i64 (boundL l).x0) := fun X => X.ok.bnd.open.1
        have hy1 : ∀ X : LSF o l a w N l.length (.slice a2 l.length c2) (backL l l.length), X.W.cell? ⟨N, 1, none⟩ = some (.int .i64 (boundL l).y0) := fun X => X.ok.bnd.open.2.1
        have hy2 : ∀ X : LSF o l a w N l.length (.slice a2 l.length c2) (backL l l.length), X.W.cell? ⟨N, 2, none⟩ = some (.int .i64 (boundL l).x1) := fun X => X.ok.bnd.open.2.2.1
        have hy3 : ∀ X : LSF o l a w N l.length (.slice a2 l.length c2) (backL l l.length), X.W.cell? ⟨N, 3, none⟩ = some (.int .i64 (boundL l).y1) := fun X => X.ok.bnd.open.2.2.2
        have hHB : ∀ X : LSF o l a w N l.length (.slice a2 l.length c2) (backL l l.length), Holds X.W a2 (backL l l.length) := fun X => (own_holds X.ok.own).1
        refine wp_region_in (fun X : LSF o l a w N l.length (.slice a2 l.length c2) (backL l l.length) => X.W) (by kernel_rfl) (by kernel_rfl) ⟨⟨_, hR.step (Below.refl _ _).drew⟩, rfl⟩ ?_
        repeat (first | go_big_quiet_step ((first | (go_at_call 28; exact call_in (cont_c _ _ _ _ _ _ _ _ _) (hst _)) | (go_at_call 32; exact call_in (bound_n _ _ _ (backL l l.length) _ (backL_len l _ (Nat.le_refl _)).symm (by rw [backL_len l _ (Nat.le_refl _)]; omega) (hHB _)) (hst _)))) | quiet_step ((first | (go_at_call 28; exact call_in (cont_c _ _ _ _ _ _ _ _ _) (hst _)) | (go_at_call 32; exact call_in (bound_n _ _ _ (backL l l.length) _ (backL_len l _ (Nat.le_refl _)).symm (by rw [backL_len l _ (Nat.le_refl _)]; omega) (hHB _)) (hst _)))))
        refine wpQuiet_nil ?_
        intro w3 hw'
        obtain ⟨⟨_, hR3⟩, hw''⟩ := hw'
        subst hw''
        clear hst hne hx0 hx1 hx2 hx3 hy0 hy1 hy2 hy3
        clear hHB
        obtain ⟨m, hm⟩ : ∃ m : Nat, q % ((l.length : Int) + 1) = (m : Int) := ⟨(q % ((l.length : Int) + 1)).toNat, by rw [Int.toNat_of_nonneg (Int.emod_nonneg _ (by omega))]⟩
        have hml : m ≤ l.length := by
          have := Int.emod_lt_of_pos q (show 0 < (l.length : Int) + 1 by omega)
          omega
        have hlm : (l.take m).length = m := by simp; omega
        go_wp2_with fail
        refine (bound_n _ _ _ (l.take m) _ hlm.symm (by omega) (holds_take hR3.hl m)).mono ?_
        rintro e w4 ⟨rfl, hb4⟩
        have hR4 := hR3.step hb4
        have hb4s := hR4.bnd.lt
        clear hb4 hR3
        go_wp2_with (first | (at_builtin; refine wpList_append_own _ rfl _ _ 34 rfl (N + 1) 26 i0 (.agg #[.int .i64 0, .int .i64 0, .int .i64 0, .int .i64 0]) 4 32 Try.underlying34 hi hz0 hz1 hz2 rfl (by decide) _ _ _ rfl (hR4.own.alloc _) ⟨w4.heap.size, 0, none⟩ 1 1 [.int .i64 (boundL (l.take m)).x0, .int .i64 (boundL (l.take m)).y0, .int .i64 (boundL (l.take m)).x1, .int .i64 (boundL (l.take m)).y1] rfl rfl ?c1 ?c2 ?c3 ?c4 ?c5 ?_))
        case c1 =>
          intro j u hj
          match j, hj with
          | 0, hj => simp at hj; subst hj; simp [Addr.add]
          | 1, hj => simp at hj; subst hj; simp [Addr.add]
          | 2, hj => simp at hj; subst hj; simp [Addr.add]
          | 3, hj => simp at hj; subst hj; simp [Addr.add]
        case c2 => intro u hu; simp at hu; rcases hu with rfl | rfl | rfl | rfl <;> rfl
        case c3 => unfold maxLen; omega
        case c4 => omega
        case c5 => simp; omega
        intro v' w8 hown8 hgrow8 _
        have hR8 := (hR4.alloc _).push (L' := backL l l.length ++ [(boundL (l.take m))]) hgrow8 hal (by rw [Pl.flat_append]; exact hown8)
        clear hown8 hgrow8 hR4
        obtain ⟨a3, c3, hv3, hH3⟩ := row_holds hR8.own
        have hl3 : (backL l l.length ++ [(boundL (l.take m))]).length = l.length + 1 := by rw [List.length_append, backL_len l _ (Nat.le_refl _)]; rfl
        rw [hl3] at hv3
        subst hv3
        have hag : boundL (backL l l.length ++ [(boundL (l.take m))]) = boundL l := by rw [backL_full, bound_again]
        go_wp2_with fail
        have hst : ∀ (X : LSF o l a w N (l.length + 1) (.slice a3 (l.length + 1) c3) (backL l l.length ++ [(boundL (l.take m))])) (w' : World), Below X.W.heap.size X.W w' → ∃ Y : LSF o l a w N (l.length + 1) (.slice a3 (l.length + 1) c3) (backL l l.length ++ [(boundL (l.take m))]), w' = Y.W := fun X w' hb => ⟨⟨w', X.ok.step hb⟩, rfl⟩
        have hne : Nonempty (LSF o l a w N (l.length + 1) (.slice a3 (l.length + 1) c3) (backL l l.length ++ [(boundL (l.take m))])) := ⟨⟨_, hR8⟩⟩
        have hx0 : ∀ X : LSF o l a w N (l.length + 1) (.slice a3 (l.length + 1) c3) (backL l l.length ++ [(boundL (l.take m))]), X.W.cell? ⟨w.heap.size, 0, none⟩ = some (.int .i64 o.x0) := fun X => X.ok.box.open.1
        have hx1 : ∀ X : LSF o l a w N (l.length + 1) (.slice a3 (l.length + 1) c3) (backL l l.length ++ [(boundL (l.take m))]), X.W.cell? ⟨w.heap.size, 1, none⟩ = some (.int .i64 o.y0) := fun X => X.ok.box.open.2.1
        have hx2 : ∀ X : LSF o l a w N (l.length + 1) (.slice a3 (l.length + 1) c3) (backL l l.length ++ [(boundL (l.take m))]), X.W.cell? ⟨w.heap.size, 2, none⟩ = some (.int .i64 o.x1) := fun X => X.ok.box.open.2.2.1
        have hx3 : ∀ X : LSF o l a w N (l.length + 1) (.slice a3 (l.length + 1) c3) (backL l l.length ++ [(boundL (l.take m))]), X.W.cell? ⟨w.heap.size, 3, none⟩ = some (.int .i64 o.y1) := fun X => X.ok.box.open.2.2.2
        have hy0 : ∀ X : LSF o l a w N (l.length + 1) (.slice a3 (l.length + 1) c3) (backL l l.length ++ [(boundL (l.take m))]), X.W.cell? ⟨N, 0, none⟩ = some (.int .i64 (boundL l).x0) := fun X => X.ok.bnd.open.1
        have hy1 : ∀ X : LSF o l a w N (l.length + 1) (.slice a3 (l.length + 1) c3) (backL l l.length ++ [(boundL (l.take m))]), X.W.cell? ⟨N, 1, none⟩ = some (.int .i64 (boundL l).y0) := fun X => X.ok.bnd.open.2.1
        have hy2 : ∀ X : LSF o l a w N (l.length + 1) (.slice a3 (l.length + 1) c3) (backL l l.length ++ [(boundL (l.take m))]), X.W.cell? ⟨N, 2, none⟩ = some (.int .i64 (boundL l).x1) := fun X => X.ok.bnd.open.2.2.1
        have hy3 : ∀ X : LSF o l a w N (l.length + 1) (.slice a3 (l.length + 1) c3) (backL l l.length ++ [(boundL (l.take m))]), X.W.cell? ⟨N, 3, none⟩ = some (.int .i64 (boundL l).y1) := fun X => X.ok.bnd.open.2.2.2
        have hHB : ∀ X : LSF o l a w N (l.length + 1) (.slice a3 (l.length + 1) c3) (backL l l.length ++ [(boundL (l.take m))]), Holds X.W a3 (backL l l.length ++ [(boundL (l.take m))]) := fun X => (own_holds X.ok.own).1
        refine wp_region_in (fun X : LSF o l a w N (l.length + 1) (.slice a3 (l.length + 1) c3) (backL l l.length ++ [(boundL (l.take m))]) => X.W) (by kernel_rfl) (by kernel_rfl) ⟨⟨_, hR8.step (Below.refl _ _).drew⟩, rfl⟩ ?_
        repeat (first | go_big_quiet_step ((first | (go_at_call 32; exact call_in (bound_n _ _ _ (backL l l.length ++ [(boundL (l.take m))]) _ hl3.symm (by rw [hl3]; omega) (hHB _)) (hst _)) | (go_at_call 19; exact call_in (example_c _) (hst _)))) | quiet_step ((first | (go_at_call 32; exact call_in (bound_n _ _ _ (backL l l.length ++ [(boundL (l.take m))]) _ hl3.symm (by rw [hl3]; omega) (hHB _)) (hst _)) | (go_at_call 19; exact call_in (example_c _) (hst _)))))
        refine wpQuiet_nil ?_
        intro w9 hw'
        obtain ⟨⟨_, hR9⟩, hw''⟩ := hw'
        subst hw''
        clear hst hne hx0 hx1 hx2 hx3 hy0 hy1 hy2 hy3
        clear hHB
        go_wp2
        go_ret
        exact ⟨rfl, hR9.below⟩
theorem walk (a : Option Addr) (cap : Nat) (l : List Pl.R) (o : Pl.R) (q : Int) (hq : 0 ≤ q ∧ q ≤ 255) (hcap : l.length ≤ cap) (hle : l.length ≤ 9223372036854775807) (w : World) (hH : Holds w a l) :
    Calls Try.prog 10 #[.slice a l.length cap, .agg #[.int .i64 o.x0, .int .i64 o.y0, .int .i64 o.x1, .int .i64 o.y1], .int .u8 q] w fun e w' => e = .returned (.bool true) ∧ Below w.heap.size w w' := by
  by_cases hlt : 40 < l.length
  · exact walk_long a cap l o q hlt hle w
  · exact walk_short a cap l o q hq.1 hq.2 hcap (by omega) w hH

set_option maxRecDepth 100000 in
theorem lifted (os : Os) (started : os.Started) (H : Type) (enc : TypeId × Value → H) :
    ReturnsInHanded {} Try.checked os 10 .any (Rows.rectLeastSpec.pre6 enc Try.prog Try.f10 Rows.rectLeastRow.domain false) (Rows.rectLeastSpec.post enc Try.prog Try.f10 false true false false) := by
  refine returnsInHanded_of_change (C := Try.checked) own started (by kernel_rfl) Try.func10
    (ChangeSpec.witness6 (enc := enc) (C := Try.checked) false ⟨#[], #[.slice none 0 0, .agg #[.int .i64 0, .int .i64 0, .int .i64 0, .int .i64 0], .int .u8 0], []⟩ 8 (by kernel_rfl) (by kernel_rfl) (by kernel_rfl) (by kernel_rfl)) ?_
  intro W base args ds gs before hval0 hW _ _
  have hval : ∀ (j : Nat) t v, Try.f10.params[j]? = some t → args[j]? = some v → Value.okWide Try.prog W .any base t v := hval0
  have hW' := hW
  obtain ⟨p, q, hA0, hV, rfl, _, _⟩ := hW
  have hA : DataW.TrodAll enc Try.prog W 0 (fun _ => true) true Try.f10.params.toList args.toList ds p := hA0
  rw [Try.params10] at hA hval
  obtain ⟨v0, vs0, d0, ds0, p0, q0, hargs, rfl, rfl, h0, r0⟩ := trodAll_cons hA
  obtain ⟨v1, vs1, d1, ds1, p1, q1, rfl, rfl, rfl, h1, r1⟩ := trodAll_cons r0
  obtain ⟨v2, vs2, d2, ds2, p2, q2, rfl, rfl, rfl, h2, r2⟩ := trodAll_cons r1
  obtain ⟨rfl, rfl, rfl⟩ := trodAll_nil r2
  obtain rfl : args = #[v0, v1, v2] := by cases args; simp_all
  obtain ⟨rfl, rfl⟩ := trodVars_none hV
  clear hA0 hval0
  simp only [List.append_nil] at hW'
  have l0 : ∀ x ∈ p0, x.block < W.heap.size := fun x hx => hW'.lt x (by simp [hx])
  have l1 : ∀ x ∈ p1, x.block < W.heap.size := fun x hx => hW'.lt x (by simp [hx])
  have l2 : ∀ x ∈ p2, x.block < W.heap.size := fun x hx => hW'.lt x (by simp [hx])
  obtain ⟨a, n, cap, l, rfl, hn, hH, hl, hcap⟩ := open_rects (hval 0 34 v0 rfl rfl) h0
  obtain ⟨o0, o1, o2, o3, rfl, wo0, wo1, wo2, wo3⟩ := open_rect (hval 1 26 v1 rfl rfl) h1
  obtain ⟨q, rfl, _, _, wq⟩ := open_int Try.underlying5 (hval 2 5 v2 rfl rfl) h2
  subst hn
  refine (walk a cap l ⟨o0, o1, o2, o3⟩ q (bounds_u8 wq) hcap (by unfold maxLen at hl; omega) W hH).mono fun e W' ⟨he, hb⟩ => ?_
  subst he
  exact ⟨_, rfl, post_low (pa := p0 ++ (p1 ++ (p2 ++ ([])))) (pv := []) hW' (fun _ _ _ => (trodAll_cons_mk (shut_bool Try.underlying4 _) trodAll_mk0)) (fun sp hsp => (trodAll_cons_mk (trod_low laidOut (by kernel_rfl) (of_decide_eq_true (by kernel_rfl)) h0 hb l0 (fun x hx => hsp x (by simp [hx]))) (trodAll_cons_mk (trod_low laidOut (by kernel_rfl) (of_decide_eq_true (by kernel_rfl)) h1 hb l1 (fun x hx => hsp x (by simp [hx]))) (trodAll_cons_mk (trod_low laidOut (by kernel_rfl) (of_decide_eq_true (by kernel_rfl)) h2 hb l2 (fun x hx => hsp x (by simp [hx]))) trodAll_mk0)))) (fun _ _ => rfl) (by simp) hb (ok_one (by kernel_rfl) rfl (okWide_bool_mk Try.underlying4 _))⟩

theorem over : Rows.rectLeastRow.holds Try.pinned (OpenSpec.ofChange Rows.rectLeastSpec) :=
  OpenClaim.holds_of_wide 10 Try.f10 rfl rfl rfl rfl rfl rfl rfl ⟨rfl, rfl, rfl, rfl, rfl⟩ rfl rfl rfl rfl rfl (by kernel_rfl) Try.func10 (by kernel_rfl)
    (of_decide_eq_true (by kernel_rfl)) (by unfold Func.isWrapper; first | (rw [if_pos (by decide +kernel)]; kernel_rfl) | (rw [if_neg (by decide +kernel)]; exact ⟨rfl, rfl⟩))
    (fun os started H enc _ => lifted os started H enc)

theorem proved : Rows.RectLeastSaid :=
  over
#print axioms proved
end Go.Proofs.Ytaaljfpkfgjhpaa.rectLeast
