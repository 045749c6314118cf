/-
  The examples of the chapter, as the statements of layer 5 ask for them.
  '==' of four rectangles with themselves.
-/
import Derived.Test.YtoplgnckdmkaoaaBsL
import Derived.Test.YtoplgnckdmkaoaaBsH
import Derived.ChangeKeysEq
set_option maxRecDepth 100000
namespace Go.Proofs.Ytoplgnckdmkaoaa
open Go.RowKit

def awA (o : Nat) : List Int := if o = 0 then [5] else if o = 1 then [4] else if o = 2 then [6] else [4]
def awB (o : Nat) : List Int := if o = 1 then [8] else if o = 3 then [2] else []
theorem awA_is (o : Nat) (ho : o < 4) : (bandQ 0 0 1 2 (Ex.cutR 2 [1, 3, 5, 11] 2) o).flatten = awA o := by
  rcases lt4 ho with rfl | rfl | rfl | rfl <;> decide +kernel
theorem awB_is (o : Nat) (ho : o < 4) : (bandQ 1 0 1 1 (Ex.cutR 1 [7, 9] 2) o).flatten = awB o := by
  rcases lt4 ho with rfl | rfl | rfl | rfl <;> decide +kernel
theorem arrP_cong {R : Nat → Pl.R} {V V' : Nat → Value} (h : ∀ o, o < 4 → V o = V' o) : arrP R V = arrP R V' := by
  simp only [arrP, h 0 (by decide), h 1 (by decide), h 2 (by decide), h 3 (by decide)]
theorem aw_split (b : Nat) (w : World) (hH : HoldsI w (some ⟨b, 0, none⟩) [1, 3, 5, 11]) :
    Calls Try.prog 20 #[.agg #[.int .i64 0, .int .i64 0, .int .i64 2, .int .i64 2, .slice (some ⟨b, 0, none⟩) 4 4], .int .i64 1] w fun e w' =>
      ∃ (s : Nat → Option Addr) (m : Nat → Nat), e = .returned (.tuple #[.agg (arrP (bnds ⟨0, 0, 2, 2⟩) fun o => .slice (s o) (awA o).length (m o)), .int .i64 0]) ∧ (∀ o, o < 4 → HoldsI w' (s o) (awA o)) ∧ Below w.heap.size w w' := by
  refine (splitc_yes 0 0 2 2 1 [1, 3, 5, 11] (some ⟨b, 0, none⟩) 4 2 2 w (by decide) (by decide) (by decide) (by decide) hH rfl rfl).mono ?_
  rintro e w' ⟨s, m, rfl, hh, hb⟩
  refine ⟨s, m, ?_, fun o ho => by rw [← awA_is o ho]; exact (hh o ho).1, hb⟩
  have e : arrP (bnds ⟨0, 0, 2, 2⟩) (fun o => .slice (s o) (bandQ 0 0 1 2 (Ex.cutR 2 [1, 3, 5, 11] 2) o).flatten.length (m o)) = arrP (bnds ⟨0, 0, 2, 2⟩) (fun o => .slice (s o) (awA o).length (m o)) := arrP_cong fun o ho => by rw [awA_is o ho]
  exact congrArg (fun q => Ending.returned (.tuple #[.agg q, .int .i64 0])) e
theorem aw_split2 (b : Nat) (w : World) (hH : HoldsI w (some ⟨b, 0, none⟩) [7, 9]) :
    Calls Try.prog 20 #[.agg #[.int .i64 1, .int .i64 0, .int .i64 2, .int .i64 2, .slice (some ⟨b, 0, none⟩) 2 2], .int .i64 1] w fun e w' =>
      ∃ (s : Nat → Option Addr) (m : Nat → Nat), e = .returned (.tuple #[.agg (arrP (bnds ⟨1, 0, 2, 2⟩) fun o => .slice (s o) (awB o).length (m o)), .int .i64 0]) ∧ (∀ o, o < 4 → HoldsI w' (s o) (awB o)) ∧ Below w.heap.size w w' := by
  refine (splitc_yes 1 0 2 2 1 [7, 9] (some ⟨b, 0, none⟩) 2 1 2 w (by decide) (by decide) (by decide) (by decide) hH rfl rfl).mono ?_
  rintro e w' ⟨s, m, rfl, hh, hb⟩
  refine ⟨s, m, ?_, fun o ho => by rw [← awB_is o ho]; exact (hh o ho).1, hb⟩
  have e : arrP (bnds ⟨1, 0, 2, 2⟩) (fun o => .slice (s o) (bandQ 1 0 1 1 (Ex.cutR 1 [7, 9] 2) o).flatten.length (m o)) = arrP (bnds ⟨1, 0, 2, 2⟩) (fun o => .slice (s o) (awB o).length (m o)) := arrP_cong fun o ho => by rw [awB_is o ho]
  exact congrArg (fun q => Ending.returned (.tuple #[.agg q, .int .i64 0])) e
theorem aw_mrg : (Ex.mrg 0 0 1 2 (Ex.cutR (wdO 0 2 0) (awA 0) (htO 0 2 0)) (Ex.cutR (wdO 0 2 1) (awA 1) (htO 0 2 1)) (Ex.cutR (wdO 0 2 2) (awA 2) (htO 0 2 2)) (Ex.cutR (wdO 0 2 3) (awA 3) (htO 0 2 3))).flatten = [1, 3, 5, 11] := by decide +kernel
theorem aw_merge (s : Nat → Option Addr) (m : Nat → Nat) (A : Array Value) (hA : A = arrP (bnds ⟨0, 0, 2, 2⟩) fun o => .slice (s o) (awA o).length (m o)) (w : World) (hH : ∀ o, o < 4 → HoldsI w (s o) (awA o)) :
    Calls Try.prog 17 #[.agg A, .agg #[.int .i64 0, .int .i64 0, .int .i64 2, .int .i64 2], .int .i64 1] w (GivesPl ⟨0, 0, 2, 2⟩ [1, 3, 5, 11] 0 w) := by
  have h := mergec_yes ⟨0, 0, 2, 2⟩ awA s m 1 2 2 A hA w hH (by decide +kernel) (by decide) (by decide) rfl rfl (by decide) (fun o ho => by rcases lt4 ho with rfl | rfl | rfl | rfl <;> decide +kernel) (fun o ho => by rcases lt4 ho with rfl | rfl | rfl | rfl <;> decide +kernel)
  rw [aw_mrg] at h
  exact h
/-- What awake holds. -/
structure Aw (w : World) (B1 : Nat) (A1 : Array Value) (s : Nat → Option Addr) (W : World) : Prop where
  below : Below w.heap.size w W
  b1 : Blk W B1 27 A1
  h : ∀ o, o < 4 → HoldsI W (s o) (awA o)
theorem Aw.step {w W W1 : World} {B1 : Nat} {A1 : Array Value} {s : Nat → Option Addr} (x : Aw w B1 A1 s W) (hb : Below W.heap.size W W1) : Aw w B1 A1 s W1 := ⟨below_call x.below hb, x.b1.below hb, fun o ho => (x.h o ho).call hb⟩
theorem one_cell {w : World} {s : Option Addr} {v : Int} (h : HoldsI w s [v]) : ∃ b off, s = some ⟨b, off, none⟩ ∧ w.cell? ⟨b, off, none⟩ = some (.int .i64 v) := by
  rcases h with h | ⟨b, off, rfl, hr⟩
  · simp at h
  · exact ⟨b, off, rfl, hr 0 (by simp)⟩
set_option maxHeartbeats 8000000 in
theorem awake_c (w : World) : Calls Try.prog 16 #[] w fun e w' => e = .returned (.bool true) ∧ Below w.heap.size w w' := by
  have h0 := holds_new w w.heap.size rfl [1, 3, 5, 11] #[.int .i64 1, .int .i64 3, .int .i64 5, .int .i64 11] rfl
  have B0 := below_alloc (Below.refl _ w) (.cells #[.int .i64 1, .int .i64 3, .int .i64 5, .int .i64 11] 3)
  go_enter Try.func16, Try.ntmps16
  go_wp2_with fail
  refine (aw_split w.heap.size _ h0).mono ?_
  rintro e w1 ⟨s, m, rfl, hh, hb⟩
  replace B0 := below_call B0 hb
  obtain ⟨A1, hA1⟩ : ∃ A1, A1 = arrP (bnds ⟨0, 0, 2, 2⟩) (fun o => .slice (s o) (awA o).length (m o)) := ⟨_, rfl⟩
  rw [← hA1]
  have HA1 : Hid _ := hA1
  have H20 : Hid (20 = A1.size) := by rw [hA1]; rfl
  have HI : Hid ((Try.prog.info? 27).map (·.size) = some A1.size) := by rw [hA1]; exact info20
  have hAo : A1.all (·.oneCell') = true := by rw [hA1]; simp [arrP_get, Value.oneCell']
  clear hA1 h0 hb
  go_upto_region 2 with (first | (refine wpList_store_row rfl 27 (.tmp 1) (.tmp 12) rfl w1.heap.size A1 rfl rfl 27 _ (Blk.fresh w1 27 #[.int .i64 0, .int .i64 0, .int .i64 0, .int .i64 0, .slice none 0 0, .int .i64 0, .int .i64 0, .int .i64 0, .int .i64 0, .slice none 0 0, .int .i64 0, .int .i64 0, .int .i64 0, .int .i64 0, .slice none 0 0, .int .i64 0, .int .i64 0, .int .i64 0, .int .i64 0, .slice none 0 0]) HI.out H20.out hAo ?_))
  obtain ⟨W2, hW2⟩ : ∃ W2, W2 = (w1.alloc (.cells #[.int .i64 0, .int .i64 0, .int .i64 0, .int .i64 0, .slice none 0 0, .int .i64 0, .int .i64 0, .int .i64 0, .int .i64 0, .slice none 0 0, .int .i64 0, .int .i64 0, .int .i64 0, .int .i64 0, .slice none 0 0, .int .i64 0, .int .i64 0, .int .i64 0, .int .i64 0, .slice none 0 0] 27)).setRow w1.heap.size A1 := ⟨_, rfl⟩
  have x2 : Aw w w1.heap.size A1 s W2 := by
    rw [hW2]
    have hn : ∀ o, o < 4 → ∀ p, s o = some p → p.block ≠ w1.heap.size := fun o ho p e => by
      have hp : 0 < (awA o).length := by rcases lt4 ho with rfl | rfl | rfl | rfl <;> decide
      have := (hh o ho).lt hp p e
      omega
    exact ⟨below_row (below_alloc B0 _) B0.size _, (Blk.fresh w1 27 #[.int .i64 0, .int .i64 0, .int .i64 0, .int .i64 0, .slice none 0 0, .int .i64 0, .int .i64 0, .int .i64 0, .int .i64 0, .slice none 0 0, .int .i64 0, .int .i64 0, .int .i64 0, .int .i64 0, .slice none 0 0, .int .i64 0, .int .i64 0, .int .i64 0, .int .i64 0, .slice none 0 0]).row A1, fun o ho => ((hh o ho).alloc _).but (But.setRow _) (hn o ho)⟩
  rw [← hW2]
  clear hW2 B0 hh hAo
  have h0 := holds_new W2 W2.heap.size rfl [7, 9] #[.int .i64 7, .int .i64 9] rfl
  have x3 := x2.step (below_alloc (Below.refl _ W2) (.cells #[.int .i64 7, .int .i64 9] 3))
  clear x2
  go_wp2_with fail
  refine (aw_split2 W2.heap.size _ h0).mono ?_
  rintro e w3 ⟨s2, m2, rfl, hh2, hb⟩
  have x4 := x3.step hb
  obtain ⟨A2, hA2⟩ : ∃ A2, A2 = arrP (bnds ⟨1, 0, 2, 2⟩) (fun o => .slice (s2 o) (awB o).length (m2 o)) := ⟨_, rfl⟩
  rw [← hA2]
  have HA2 : Hid _ := hA2
  have J20 : Hid (20 = A2.size) := by rw [hA2]; rfl
  have JI : Hid ((Try.prog.info? 27).map (·.size) = some A2.size) := by rw [hA2]; exact info20
  have hAo2 : A2.all (·.oneCell') = true := by rw [hA2]; simp [arrP_get, Value.oneCell']
  have h8 := hh2 1 (by decide)
  clear hA2 h0 hb x3 hh2
  go_upto_region 3 with (first | (refine wpList_store_row rfl 27 (.tmp 3) (.tmp 19) rfl w3.heap.size A2 rfl rfl 27 _ (Blk.fresh w3 27 #[.int .i64 0, .int .i64 0, .int .i64 0, .int .i64 0, .slice none 0 0, .int .i64 0, .int .i64 0, .int .i64 0, .int .i64 0, .slice none 0 0, .int .i64 0, .int .i64 0, .int .i64 0, .int .i64 0, .slice none 0 0, .int .i64 0, .int .i64 0, .int .i64 0, .int .i64 0, .slice none 0 0]) JI.out J20.out hAo2 ?_))
  obtain ⟨W5, hW5⟩ : ∃ W5, W5 = (w3.alloc (.cells #[.int .i64 0, .int .i64 0, .int .i64 0, .int .i64 0, .slice none 0 0, .int .i64 0, .int .i64 0, .int .i64 0, .int .i64 0, .slice none 0 0, .int .i64 0, .int .i64 0, .int .i64 0, .int .i64 0, .slice none 0 0, .int .i64 0, .int .i64 0, .int .i64 0, .int .i64 0, .slice none 0 0] 27)).setRow w3.heap.size A2 := ⟨_, rfl⟩
  have x5 : Aw w w1.heap.size A1 s W5 := by
    rw [hW5]
    have hn : ∀ o, o < 4 → ∀ p, s o = some p → p.block ≠ w3.heap.size := fun o ho p e => by
      have hp : 0 < (awA o).length := by rcases lt4 ho with rfl | rfl | rfl | rfl <;> decide
      have := (x4.h o ho).lt hp p e
      omega
    exact ⟨below_row (below_alloc x4.below _) x4.below.size _, (x4.b1.alloc _).but (But.setRow _) (Nat.ne_of_lt x4.b1.lt), fun o ho => ((x4.h o ho).alloc _).but (But.setRow _) (hn o ho)⟩
  have y5 : Blk W5 w3.heap.size 27 A2 := by rw [hW5]; exact (Blk.fresh w3 27 #[.int .i64 0, .int .i64 0, .int .i64 0, .int .i64 0, .slice none 0 0, .int .i64 0, .int .i64 0, .int .i64 0, .int .i64 0, .slice none 0 0, .int .i64 0, .int .i64 0, .int .i64 0, .int .i64 0, .slice none 0 0, .int .i64 0, .int .i64 0, .int .i64 0, .int .i64 0, .slice none 0 0]).row A2
  have h8' : HoldsI W5 (s2 1) [8] := by
    rw [hW5]
    exact (HoldsI.alloc (l := [8]) h8 _).but (But.setRow _) (fun p e => by have := HoldsI.lt (l := [8]) h8 (by decide) p e; omega)
  rw [← hW5]
  clear hW5 x4 h8 hAo2
  obtain ⟨p0, o0, e0, c0⟩ := one_cell (x5.h 0 (by decide))
  obtain ⟨p1, o1, e1, c1⟩ := one_cell (x5.h 1 (by decide))
  obtain ⟨p2, o2, e2, c2⟩ := one_cell (x5.h 2 (by decide))
  obtain ⟨p3, o3, e3, c3⟩ := one_cell (x5.h 3 (by decide))
  obtain ⟨p4, o4, e4, c4⟩ := one_cell h8'
  have HE : Hid _ := (⟨e0, e1, e2, e3, e4⟩ : _ ∧ _ ∧ _ ∧ _ ∧ _)
  have a0 : W5.cell? ⟨w1.heap.size, 4, none⟩ = some (.slice (some ⟨p0, o0, none⟩) 1 (m 0)) := x5.b1.cell 4 _ (by rw [HA1.out, ← e0]; rfl)
  have a1 : W5.cell? ⟨w1.heap.size, 9, none⟩ = some (.slice (some ⟨p1, o1, none⟩) 1 (m 1)) := x5.b1.cell 9 _ (by rw [HA1.out, ← e1]; rfl)
  have a2 : W5.cell? ⟨w1.heap.size, 14, none⟩ = some (.slice (some ⟨p2, o2, none⟩) 1 (m 2)) := x5.b1.cell 14 _ (by rw [HA1.out, ← e2]; rfl)
  have a3 : W5.cell? ⟨w1.heap.size, 19, none⟩ = some (.slice (some ⟨p3, o3, none⟩) 1 (m 3)) := x5.b1.cell 19 _ (by rw [HA1.out, ← e3]; rfl)
  have a4 : W5.cell? ⟨w3.heap.size, 9, none⟩ = some (.slice (some ⟨p4, o4, none⟩) 1 (m2 1)) := y5.cell 9 _ (by rw [HA2.out, ← e4]; rfl)
  clear e0 e1 e2 e3 e4
  have cM := aw_merge s m A1 HA1.out W5 x5.h
  go_wp2_with (first | (refine wpList_load_mid rfl 27 (.tmp 1) rfl w1.heap.size 0 rfl A1.toList _ x5.b1.range Try.underlying27 rfl (by simpa using HI.out) ?_))
  refine cM.mono ?_
  rintro e w6 ⟨s6, m6, rfl, l6, k6, f6, b6⟩
  have x6 := x5.step b6
  obtain ⟨p6, o6, rfl, q6⟩ : ∃ b off, s6 = some ⟨b, off, none⟩ ∧ w6.cell? ⟨b, off + 3, none⟩ = some (.int .i64 11) := by
    rcases l6 with h | ⟨b, off, rfl, hr⟩
    · simp at h
    · exact ⟨b, off, rfl, hr 3 (by decide)⟩
  replace a0 := (b6.cell (p := ⟨w1.heap.size, 4, none⟩) (cell_lt a0)).trans a0
  replace a1 := (b6.cell (p := ⟨w1.heap.size, 9, none⟩) (cell_lt a1)).trans a1
  replace a2 := (b6.cell (p := ⟨w1.heap.size, 14, none⟩) (cell_lt a2)).trans a2
  replace a3 := (b6.cell (p := ⟨w1.heap.size, 19, none⟩) (cell_lt a3)).trans a3
  replace a4 := (b6.cell (p := ⟨w3.heap.size, 9, none⟩) (cell_lt a4)).trans a4
  replace c0 := (b6.cell (p := ⟨p0, _, none⟩) (cell_lt c0)).trans c0
  replace c1 := (b6.cell (p := ⟨p1, _, none⟩) (cell_lt c1)).trans c1
  replace c2 := (b6.cell (p := ⟨p2, _, none⟩) (cell_lt c2)).trans c2
  replace c3 := (b6.cell (p := ⟨p3, _, none⟩) (cell_lt c3)).trans c3
  replace c4 := (b6.cell (p := ⟨p4, _, none⟩) (cell_lt c4)).trans c4
  have hlt6 := cell_lt q6
  replace q6 := cell_alloc q6 (.cells #[.int .i64 0, .int .i64 0, .int .i64 2, .int .i64 2, .slice (some ⟨p6, o6, none⟩) 4 m6] 26)
  replace a0 := cell_alloc a0 (.cells #[.int .i64 0, .int .i64 0, .int .i64 2, .int .i64 2, .slice (some ⟨p6, o6, none⟩) 4 m6] 26)
  replace a1 := cell_alloc a1 (.cells #[.int .i64 0, .int .i64 0, .int .i64 2, .int .i64 2, .slice (some ⟨p6, o6, none⟩) 4 m6] 26)
  replace a2 := cell_alloc a2 (.cells #[.int .i64 0, .int .i64 0, .int .i64 2, .int .i64 2, .slice (some ⟨p6, o6, none⟩) 4 m6] 26)
  replace a3 := cell_alloc a3 (.cells #[.int .i64 0, .int .i64 0, .int .i64 2, .int .i64 2, .slice (some ⟨p6, o6, none⟩) 4 m6] 26)
  replace a4 := cell_alloc a4 (.cells #[.int .i64 0, .int .i64 0, .int .i64 2, .int .i64 2, .slice (some ⟨p6, o6, none⟩) 4 m6] 26)
  replace c0 := cell_alloc c0 (.cells #[.int .i64 0, .int .i64 0, .int .i64 2, .int .i64 2, .slice (some ⟨p6, o6, none⟩) 4 m6] 26)
  replace c1 := cell_alloc c1 (.cells #[.int .i64 0, .int .i64 0, .int .i64 2, .int .i64 2, .slice (some ⟨p6, o6, none⟩) 4 m6] 26)
  replace c2 := cell_alloc c2 (.cells #[.int .i64 0, .int .i64 0, .int .i64 2, .int .i64 2, .slice (some ⟨p6, o6, none⟩) 4 m6] 26)
  replace c3 := cell_alloc c3 (.cells #[.int .i64 0, .int .i64 0, .int .i64 2, .int .i64 2, .slice (some ⟨p6, o6, none⟩) 4 m6] 26)
  replace c4 := cell_alloc c4 (.cells #[.int .i64 0, .int .i64 0, .int .i64 2, .int .i64 2, .slice (some ⟨p6, o6, none⟩) 4 m6] 26)
  have HB : Hid _ := x6.below
  clear x5 y5 h8' cM l6 b6 x6 f6
  have cB := fun W => bands_q 1 0 4 3 W
  obtain ⟨Q, hQ⟩ : ∃ Q, Q = arr4 (bnds ⟨1, 0, 4, 3⟩) := ⟨_, rfl⟩
  rw [← hQ] at cB
  have hI : ∀ W, (Instr.index 84 (.agg Q) (.int .i64 3)).run Try.prog W = .ok (.agg #[.int .i64 0, .int .i64 0, .int .i64 2, .int .i64 1]) W := fun W => by rw [hQ]; exact idx4 (bnds ⟨1, 0, 4, 3⟩) 3 (by decide) W
  have heq := fun W => eqR 0 0 2 1 0 0 2 1 W
  have hself : Pl.eqB 0 0 2 1 0 0 2 1 = true := by decide
  rw [hself] at heq
  clear hQ hself
  go_wp2_with (first | (go_at_call 60; (with_reducible refine (cB _).mono ?_); rintro e w8 ⟨rfl, hb8⟩))
  go_ret
  exact ⟨rfl, below_call (below_alloc HB.out _) hb8⟩
end Go.Proofs.Ytoplgnckdmkaoaa
namespace Go.Proofs.Ytoplgnckdmkaoaa
open Go.RowKit

theorem eqR9 (a b c d a' b' c' d' : Int) (w : World) : (Op.equalIn 9999 23 (.agg #[.int .i64 a, .int .i64 b, .int .i64 c, .int .i64 d]) (.agg #[.int .i64 a', .int .i64 b', .int .i64 c', .int .i64 d'])).run Try.prog w = .ok (Pl.eqB a b c d a' b' c' d') w := by
  have hu : Try.prog.underlying 23 = some (.struct (Try.prog.fieldsOf 23)) := by kernel_rfl
  have hp : Try.prog.stoodInHeld 23 = false := by kernel_rfl
  have h3 : Try.prog.underlying 3 = some (.int .i64) := by kernel_rfl
  have he := fun (x y : Int) => run_equalIn_int (P := Try.prog) w 9997 3 .i64 .i64 x y h3
  rw [run_equalIn_struct _ _ _ _ _ hu hp, fieldsR]
  simp only [Op.eqFields, part]
  simp [he, Pl.eqB]
  repeat' split
  all_goals simp_all
theorem part4 (R : Nat → Pl.R) (k : Nat) (hk : k < 4) (W : World) : (part 23 (arr4 R) (k * 4)).run Try.prog W = .ok (.agg #[.int .i64 (R k).x0, .int .i64 (R k).y0, .int .i64 (R k).x1, .int .i64 (R k).y1]) W := by
  rcases (show k = 0 ∨ k = 1 ∨ k = 2 ∨ k = 3 by omega) with rfl | rfl | rfl | rfl <;> kernel_rfl
theorem eqA (R : Nat → Pl.R) (W : World) : (Op.equalIn 10000 84 (.agg (arr4 R)) (.agg (arr4 R))).run Try.prog W = .ok true W := by
  obtain ⟨i, hi⟩ : ∃ i, Try.prog.info? 23 = some i := ⟨_, rfl⟩
  have hu : Try.prog.underlying 84 = some (.array 4 23) := by kernel_rfl
  have hs : Try.prog.cellsOf 23 = 4 := by kernel_rfl
  have hr := run_equalIn_array (P := Try.prog) W 9999 (arr4 R) (arr4 R) hu hi
  rw [hs] at hr
  rw [hr, show List.range 4 = [0, 1, 2, 3] from rfl]
  have e := fun k => eqR9 (R k).x0 (R k).y0 (R k).x1 (R k).y1 (R k).x0 (R k).y0 (R k).x1 (R k).y1 W
  simp only [Op.eqItems, Sem.run_bind, part4 R 0 (by decide), part4 R 1 (by decide), part4 R 2 (by decide), part4 R 3 (by decide), Result.andThen_ok, e, Pl.eq_self, Bool.not_true, Bool.false_eq_true, if_false, Sem.run_pure]
end Go.Proofs.Ytoplgnckdmkaoaa
