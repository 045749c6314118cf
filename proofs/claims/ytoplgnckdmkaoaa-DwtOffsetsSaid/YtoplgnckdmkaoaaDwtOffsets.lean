/-
  For all planes p, integers by and kernels k the statement DwtOffsets returns true, and its arguments read afterwards as before.
  Conditions: none beyond those of the given statement.
-/
import Derived.Test.YtoplgnckdmkaoaaFrame
import Derived.Test.YtoplgnckdmkaoaaOpenP
import Derived.Test.YtoplgnckdmkaoaaMv5
import Derived.Test.YtoplgnckdmkaoaaAwk
set_option maxRecDepth 100000
namespace Go.Proofs.Ytoplgnckdmkaoaa.dwtOffsets
open Go.ChangeShapes Go.WideShapes Go.ChangeAt Go.RowKit Go.Joins Go.Deep

structure Sp (w : World) (B1 B2 : Nat) (A1 A2 : Array Value) (s1 s2 : Nat → Option Addr) (D : Nat → List Int) (W : World) : Prop where
  below : Below w.heap.size w W
  b1 : Blk W B1 27 A1
  b2 : Blk W B2 27 A2
  h1 : ∀ o, o < 4 → HoldsI W (s1 o) (D o)
  h2 : ∀ o, o < 4 → HoldsI W (s2 o) (D o)
theorem Sp.step {w W W1 : World} {B1 B2 : Nat} {A1 A2 : Array Value} {s1 s2 : Nat → Option Addr} {D : Nat → List Int} (h : Sp w B1 B2 A1 A2 s1 s2 D W) (hb : Below W.heap.size W W1) : Sp w B1 B2 A1 A2 s1 s2 D W1 :=
  ⟨below_call h.below hb, h.b1.below hb, h.b2.below hb, fun o ho => (h.h1 o ho).call hb, fun o ho => (h.h2 o ho).call hb⟩
theorem blkP_all {R : Nat → Pl.R} {V : Nat → Value} {w : World} {B : Nat} {T : TypeId} (h : Blk w B T (arrP R V)) (k : Nat) (hk : k < 4) (v : Value) :
    Blk (((((w.setCell ⟨B, 5 * k, none⟩ (.int .i64 (R k).x0)).setCell ⟨B, 5 * k + 1, none⟩ (.int .i64 (R k).y0)).setCell ⟨B, 5 * k + 2, none⟩ (.int .i64 (R k).x1)).setCell ⟨B, 5 * k + 3, none⟩ (.int .i64 (R k).y1)).setCell ⟨B, 5 * k + 4, none⟩ v) B T (arrP R (fun i => if i = k then v else V i)) := by
  have h4 := (((h.set (5 * k) (.int .i64 (R k).x0)).set (5 * k + 1) (.int .i64 (R k).y0)).set (5 * k + 2) (.int .i64 (R k).x1)).set (5 * k + 3) (.int .i64 (R k).y1)
  have e : ((((arrP R V).setIfInBounds (5 * k) (.int .i64 (R k).x0)).setIfInBounds (5 * k + 1) (.int .i64 (R k).y0)).setIfInBounds (5 * k + 2) (.int .i64 (R k).x1)).setIfInBounds (5 * k + 3) (.int .i64 (R k).y1) = arrP R V := by
    have hk5 : k = 0 ∨ k = 1 ∨ k = 2 ∨ k = 3 := by omega
    rcases hk5 with rfl | rfl | rfl | rfl <;> simp [arrP_get]
  rw [e] at h4
  exact blkP_data h4 k hk v
theorem holds_cellW {W w2 : World} {s : Option Addr} {l : List Int} (h : HoldsI W s l) (h0 : HoldsI w2 s l) (i : Nat) (v : Value) : HoldsI (W.setCell ⟨w2.heap.size, i, none⟩ v) s l := by
  cases l with
  | nil => exact .inl rfl
  | cons x t =>
    rcases h with h | ⟨b, off, rfl, h⟩
    · cases h
    · have := h0.lt (by simp) _ rfl
      exact .inr ⟨b, off, rfl, fun k hk => cell_far _ (h k hk) (by simp at this ⊢; omega)⟩
set_option maxRecDepth 100000 in
set_option maxHeartbeats 8000000 in
theorem no1 (a b c d y kn : Int) (s : Option Addr) (l : List Int) (m : Nat) (w : World) (_hm : l.length ≤ m) (hH : HoldsI w s l) (hf : ¬ l.length ≤ 4000) : Calls Try.prog 4 #[.agg #[.int .i64 a, .int .i64 b, .int .i64 c, .int .i64 d, .slice s l.length m], .int .i64 y, .int .i64 kn] w fun e w' => e = .returned (.bool true) ∧ Below w.heap.size w w' := by
  have x0 := QBox.fresh w a b c d s l.length m 26
  have B0 := below_alloc (Below.refl _ w) (.cells #[.int .i64 a, .int .i64 b, .int .i64 c, .int .i64 d, .slice s l.length m] 26)
  go_enter Try.func4, Try.ntmps4
  go_wp2_with fail
  refine (few5_c ⟨a, b, c, d⟩ s l.length m _).mono ?_
  rintro e w1 ⟨rfl, hb⟩
  replace x0 := x0.below hb
  replace B0 := below_call B0 hb
  have H1 := hH.below B0 (Nat.le_refl _)
  clear hb hH
  have gf : decide (l.length ≤ 4000) = false := decide_eq_false hf
  rw [gf]
  go_wp2_with (first | (go_at_call 16; (with_reducible refine (awake_c _).mono ?_); rintro e w9 ⟨rfl, hb9⟩))
  go_ret
  exact ⟨rfl, below_call B0 hb9⟩
set_option maxRecDepth 100000 in
set_option maxHeartbeats 8000000 in
theorem no2 (a b c d y kn : Int) (s : Option Addr) (l : List Int) (m : Nat) (w : World) (_hm : l.length ≤ m) (hH : HoldsI w s l) (hf : l.length ≤ 4000) (hy : 281474976710656 < y) : Calls Try.prog 4 #[.agg #[.int .i64 a, .int .i64 b, .int .i64 c, .int .i64 d, .slice s l.length m], .int .i64 y, .int .i64 kn] w fun e w' => e = .returned (.bool true) ∧ Below w.heap.size w w' := by
  have x0 := QBox.fresh w a b c d s l.length m 26
  have B0 := below_alloc (Below.refl _ w) (.cells #[.int .i64 a, .int .i64 b, .int .i64 c, .int .i64 d, .slice s l.length m] 26)
  go_enter Try.func4, Try.ntmps4
  go_wp2_with fail
  refine (few5_c ⟨a, b, c, d⟩ s l.length m _).mono ?_
  rintro e w1 ⟨rfl, hb⟩
  replace x0 := x0.below hb
  replace B0 := below_call B0 hb
  have H1 := hH.below B0 (Nat.le_refl _)
  clear hb hH
  have gf : decide (l.length ≤ 4000) = true := decide_eq_true hf
  rw [gf]
  go_wp2_with (first | (go_at_call 16; (with_reducible refine (awake_c _).mono ?_); rintro e w9 ⟨rfl, hb9⟩))
  go_ret
  exact ⟨rfl, below_call B0 hb9⟩
set_option maxRecDepth 100000 in
set_option maxHeartbeats 8000000 in
theorem no3 (a b c d y kn : Int) (s : Option Addr) (l : List Int) (m : Nat) (w : World) (_hm : l.length ≤ m) (hH : HoldsI w s l) (hf : l.length ≤ 4000) (hy0 : y ≤ 281474976710656) (hy : y < -281474976710656) : Calls Try.prog 4 #[.agg #[.int .i64 a, .int .i64 b, .int .i64 c, .int .i64 d, .slice s l.length m], .int .i64 y, .int .i64 kn] w fun e w' => e = .returned (.bool true) ∧ Below w.heap.size w w' := by
  have x0 := QBox.fresh w a b c d s l.length m 26
  have B0 := below_alloc (Below.refl _ w) (.cells #[.int .i64 a, .int .i64 b, .int .i64 c, .int .i64 d, .slice s l.length m] 26)
  go_enter Try.func4, Try.ntmps4
  go_wp2_with fail
  refine (few5_c ⟨a, b, c, d⟩ s l.length m _).mono ?_
  rintro e w1 ⟨rfl, hb⟩
  replace x0 := x0.below hb
  replace B0 := below_call B0 hb
  have H1 := hH.below B0 (Nat.le_refl _)
  clear hb hH
  have gf : decide (l.length ≤ 4000) = true := decide_eq_true hf
  rw [gf]
  go_wp2_with (first | (go_at_call 16; (with_reducible refine (awake_c _).mono ?_); rintro e w9 ⟨rfl, hb9⟩))
  go_ret
  exact ⟨rfl, below_call B0 hb9⟩
set_option maxRecDepth 100000 in
set_option maxHeartbeats 8000000 in
theorem bad1 (a b c d y kn : Int) (s : Option Addr) (l : List Int) (m : Nat) (w : World) (_hm : l.length ≤ m) (hH : HoldsI w s l) (hf : l.length ≤ 4000) (hy0 : y ≤ 281474976710656) (hy : -281474976710656 ≤ y) (E : Int) (hE : ¬ E = 0)
    (cS : ∀ w, HoldsI w s l → Calls Try.prog 20 #[.agg #[.int .i64 a, .int .i64 b, .int .i64 c, .int .i64 d, .slice s l.length m], .int .i64 kn] w (GivesP4 (fun _ => zR) (fun _ => []) E w)) : Calls Try.prog 4 #[.agg #[.int .i64 a, .int .i64 b, .int .i64 c, .int .i64 d, .slice s l.length m], .int .i64 y, .int .i64 kn] w fun e w' => e = .returned (.bool true) ∧ Below w.heap.size w w' := by
  have x0 := QBox.fresh w a b c d s l.length m 26
  have B0 := below_alloc (Below.refl _ w) (.cells #[.int .i64 a, .int .i64 b, .int .i64 c, .int .i64 d, .slice s l.length m] 26)
  go_enter Try.func4, Try.ntmps4
  go_wp2_with fail
  refine (few5_c ⟨a, b, c, d⟩ s l.length m _).mono ?_
  rintro e w1 ⟨rfl, hb⟩
  replace x0 := x0.below hb
  replace B0 := below_call B0 hb
  have H1 := hH.below B0 (Nat.le_refl _)
  clear hb hH
  have gf : decide (l.length ≤ 4000) = true := decide_eq_true hf
  rw [gf]
  obtain ⟨y0, y1, y2, y3, y4⟩ := x0.open
  go_wp2_with fail
  refine (cS _ H1).mono ?_
  clear cS
  rintro e w2 ⟨s1, m1, rfl, hh1, hb⟩
  replace B0 := below_call B0 hb
  obtain ⟨A1, hA1⟩ : ∃ A1, A1 = arrP (fun _ => zR) (fun o => .slice (s1 o) ([] : List Int).length (m1 o)) := ⟨_, rfl⟩
  rw [← hA1]
  have H20 : Hid (20 = A1.size) := by rw [hA1]; rfl
  have HI : Hid ((Try.prog.info? 27).map (·.size) = some A1.size) := by rw [hA1]; exact info20
  have hAo : A1.all (·.oneCell') = true := by rw [hA1]; simp [arrP_get, Value.oneCell']
  clear hA1 hb y0 y1 y2 y3 y4 H1 hh1 x0
  go_upto_region 4 with (first | (refine wpList_store_row rfl 27 (.tmp 7) (.tmp 29) rfl w2.heap.size A1 rfl rfl 27 _ (Blk.fresh w2 27 #[.int .i64 0, .int .i64 0, .int .i64 0, .int .i64 0, .slice none 0 0, .int .i64 0, .int .i64 0, .int .i64 0, .int .i64 0, .slice none 0 0, .int .i64 0, .int .i64 0, .int .i64 0, .int .i64 0, .slice none 0 0, .int .i64 0, .int .i64 0, .int .i64 0, .int .i64 0, .slice none 0 0]) HI.out H20.out hAo ?_))
  obtain ⟨W3, hW3⟩ : ∃ W3, W3 = (w2.alloc (.cells #[.int .i64 0, .int .i64 0, .int .i64 0, .int .i64 0, .slice none 0 0, .int .i64 0, .int .i64 0, .int .i64 0, .int .i64 0, .slice none 0 0, .int .i64 0, .int .i64 0, .int .i64 0, .int .i64 0, .slice none 0 0, .int .i64 0, .int .i64 0, .int .i64 0, .int .i64 0, .slice none 0 0] 27)).setRow w2.heap.size A1 := ⟨_, rfl⟩
  have B3 : Below w.heap.size w W3 := by rw [hW3]; exact below_row (below_alloc B0 _) B0.size _
  rw [← hW3]
  clear hW3 B0 hAo HI H20
  go_wp2_with (first | (go_at_call 16; (with_reducible refine (awake_c _).mono ?_); rintro e w9 ⟨rfl, hb9⟩))
  go_ret
  exact ⟨rfl, below_call B3 hb9⟩
set_option maxRecDepth 100000 in
set_option maxHeartbeats 8000000 in
theorem bad2 (a b c d y kn : Int) (s : Option Addr) (l : List Int) (m : Nat) (w : World) (hm : l.length ≤ m) (hH : HoldsI w s l) (hf : l.length ≤ 4000) (hy0 : y ≤ 281474976710656) (hy : -281474976710656 ≤ y) (n h : Nat) (hp : pvB a b c d l.length = true) (hk : kB kn = true) (hfw : fewB l 35184372088832 = true) (hn : c - a = (n : Int)) (hh : d - b = (h : Int)) (hf2 : fewB (Ex.addL y l) 35184372088832 = false) : Calls Try.prog 4 #[.agg #[.int .i64 a, .int .i64 b, .int .i64 c, .int .i64 d, .slice s l.length m], .int .i64 y, .int .i64 kn] w fun e w' => e = .returned (.bool true) ∧ Below w.heap.size w w' := by
  have x0 := QBox.fresh w a b c d s l.length m 26
  have B0 := below_alloc (Below.refl _ w) (.cells #[.int .i64 a, .int .i64 b, .int .i64 c, .int .i64 d, .slice s l.length m] 26)
  go_enter Try.func4, Try.ntmps4
  go_wp2_with fail
  refine (few5_c ⟨a, b, c, d⟩ s l.length m _).mono ?_
  rintro e w1 ⟨rfl, hb⟩
  replace x0 := x0.below hb
  replace B0 := below_call B0 hb
  have H1 := hH.below B0 (Nat.le_refl _)
  clear hb hH
  have gf : decide (l.length ≤ 4000) = true := decide_eq_true hf
  rw [gf]
  obtain ⟨y0, y1, y2, y3, y4⟩ := x0.open
  have cS := fun w hH => splitc_yes a b c d kn l s m n h w hp hk hfw hm hH hn hh
  have hin : ∀ v ∈ l, IntKind.i64.wrap (v + y) = v + y := fun v hv => by
    have := few_iff.1 hfw v hv
    exact IntWalk.i64_in _ (by omega)
  have hl1 : l.length ≤ 1048576 := by omega
  clear gf
  go_wp2_with fail
  refine (cS _ H1).mono ?_
  clear cS
  rintro e w2 ⟨s1, m1, rfl, hh1, hb⟩
  replace x0 := x0.below hb
  replace B0 := below_call B0 hb
  replace H1 := H1.call hb
  obtain ⟨D, hD0⟩ : ∃ D : Nat → List Int, D = fun o => (bandQ a b kn n (Ex.cutR n l h) o).flatten := ⟨_, rfl⟩
  have HD0 : Hid _ := hD0
  obtain ⟨R, hR0⟩ : ∃ R : Nat → Pl.R, R = bnds ⟨a, b, c, d⟩ := ⟨_, rfl⟩
  have HR0 : Hid _ := hR0
  obtain ⟨A1, hA1⟩ : ∃ A1, A1 = arrP R (fun o => .slice (s1 o) (D o).length (m1 o)) := ⟨_, rfl⟩
  have hA1' := hA1
  rw [hD0, hR0] at hA1'
  rw [← hA1']
  replace hh1 : ∀ o, o < 4 → HoldsI w2 (s1 o) (D o) := fun o ho => by rw [hD0]; exact (hh1 o ho).1
  have HF1 : Hid (∀ o, o < 4 → HoldsI w2 (s1 o) (D o)) := hh1
  have Hb1 : Hid _ := hA1
  have H20 : Hid (20 = A1.size) := by rw [hA1]; rfl
  have HI : Hid ((Try.prog.info? 27).map (·.size) = some A1.size) := by rw [hA1]; exact info20
  have hAo : A1.all (·.oneCell') = true := by rw [hA1]; simp [arrP_get, Value.oneCell']
  clear hA1 hA1' hb y0 y1 y2 y3 y4 hD0 hR0
  go_upto_region 4 with (first | (refine wpList_store_row rfl 27 (.tmp 7) (.tmp 29) rfl w2.heap.size A1 rfl rfl 27 _ (Blk.fresh w2 27 #[.int .i64 0, .int .i64 0, .int .i64 0, .int .i64 0, .slice none 0 0, .int .i64 0, .int .i64 0, .int .i64 0, .int .i64 0, .slice none 0 0, .int .i64 0, .int .i64 0, .int .i64 0, .int .i64 0, .slice none 0 0, .int .i64 0, .int .i64 0, .int .i64 0, .int .i64 0, .slice none 0 0]) HI.out H20.out hAo ?_))
  obtain ⟨W3, hW3⟩ : ∃ W3, W3 = (w2.alloc (.cells #[.int .i64 0, .int .i64 0, .int .i64 0, .int .i64 0, .slice none 0 0, .int .i64 0, .int .i64 0, .int .i64 0, .int .i64 0, .slice none 0 0, .int .i64 0, .int .i64 0, .int .i64 0, .int .i64 0, .slice none 0 0, .int .i64 0, .int .i64 0, .int .i64 0, .int .i64 0, .slice none 0 0] 27)).setRow w2.heap.size A1 := ⟨_, rfl⟩
  have B3 : Below w.heap.size w W3 := by rw [hW3]; exact below_row (below_alloc B0 _) B0.size _
  have b3 : Blk W3 w2.heap.size 27 A1 := by rw [hW3]; exact (Blk.fresh w2 27 #[.int .i64 0, .int .i64 0, .int .i64 0, .int .i64 0, .slice none 0 0, .int .i64 0, .int .i64 0, .int .i64 0, .int .i64 0, .slice none 0 0, .int .i64 0, .int .i64 0, .int .i64 0, .int .i64 0, .slice none 0 0, .int .i64 0, .int .i64 0, .int .i64 0, .int .i64 0, .slice none 0 0]).row A1
  have x3 : QBox W3 w.heap.size ⟨a, b, c, d⟩ (.slice s l.length m) := by rw [hW3]; exact (x0.alloc _).but (But.setRow _) (Nat.ne_of_lt x0.lt)
  have H3 : HoldsI W3 s l := by rw [hW3]; exact holds_rowed H1 _ _
  have hh3 : ∀ o, o < 4 → HoldsI W3 (s1 o) (D o) := fun o ho => by rw [hW3]; exact holds_rowed (hh1 o ho) _ _
  have h20 : w.heap.size ≤ w2.heap.size := B0.size
  rw [← hW3]
  clear hW3 B0 hAo x0 H1 hh1 H20 HI
  obtain ⟨y0, y1, y2, y3, y4⟩ := x3.open
  go_wp2_with fail
  refine (mv5_c a b c d y s m l _ hl1 H3 hin).mono ?_
  rintro e w4 ⟨g, rfl, row, hb, hg⟩
  replace x3 := x3.below hb
  replace B3 := below_call B3 hb
  replace b3 := b3.below hb
  replace hh3 := fun o (ho : o < 4) => (hh3 o ho).call hb
  have HLn : Hid ((Ex.addL y l).length = l.length) := Ex.addL_len y l
  clear hb y0 y1 y2 y3 y4 H3 hin
  go_wp2_with fail
  refine (splitc_no3 a b c d kn (Ex.addL y l) (some ⟨g, 0, none⟩) (Ex.addL y l).length _ (by rw [HLn.out]; exact hp) hk hf2 row.holds).mono ?_
  rintro e w5 ⟨s2, m2, rfl, hh2, hb⟩
  replace B3 := below_call B3 hb
  obtain ⟨A2, hA2⟩ : ∃ A2, A2 = arrP (fun _ => zR) (fun o => .slice (s2 o) ([] : List Int).length (m2 o)) := ⟨_, rfl⟩
  rw [← hA2]
  have H20 : Hid (20 = A2.size) := by rw [hA2]; rfl
  have HI : Hid ((Try.prog.info? 27).map (·.size) = some A2.size) := by rw [hA2]; exact info20
  have hAo : A2.all (·.oneCell') = true := by rw [hA2]; simp [arrP_get, Value.oneCell']
  clear hA2 hb hh2 row hh3 b3 x3
  go_upto_region 7 with (first | (refine wpList_store_row rfl 27 (.tmp 9) (.tmp 40) rfl w5.heap.size A2 rfl rfl 27 _ (Blk.fresh w5 27 #[.int .i64 0, .int .i64 0, .int .i64 0, .int .i64 0, .slice none 0 0, .int .i64 0, .int .i64 0, .int .i64 0, .int .i64 0, .slice none 0 0, .int .i64 0, .int .i64 0, .int .i64 0, .int .i64 0, .slice none 0 0, .int .i64 0, .int .i64 0, .int .i64 0, .int .i64 0, .slice none 0 0]) HI.out H20.out hAo ?_))
  obtain ⟨W6, hW6⟩ : ∃ W6, W6 = (w5.alloc (.cells #[.int .i64 0, .int .i64 0, .int .i64 0, .int .i64 0, .slice none 0 0, .int .i64 0, .int .i64 0, .int .i64 0, .int .i64 0, .slice none 0 0, .int .i64 0, .int .i64 0, .int .i64 0, .int .i64 0, .slice none 0 0, .int .i64 0, .int .i64 0, .int .i64 0, .int .i64 0, .slice none 0 0] 27)).setRow w5.heap.size A2 := ⟨_, rfl⟩
  have B6 : Below w.heap.size w W6 := by rw [hW6]; exact below_row (below_alloc B3 _) B3.size _
  rw [← hW6]
  clear hW6 B3 hAo HI H20
  go_wp2_with (first | (go_at_call 16; (with_reducible refine (awake_c _).mono ?_); rintro e w9 ⟨rfl, hb9⟩))
  go_ret
  exact ⟨rfl, below_call B6 hb9⟩
set_option maxRecDepth 100000 in
set_option maxHeartbeats 8000000 in
theorem mainFF (a b c d y kn : Int) (s : Option Addr) (l : List Int) (m : Nat) (w : World) (hm : l.length ≤ m) (hH : HoldsI w s l) (hf : l.length ≤ 4000) (hy0 : y ≤ 281474976710656) (hy : -281474976710656 ≤ y) (n h : Nat) (hp : pvB a b c d l.length = true) (hk : kB kn = true) (hfw : fewB l 35184372088832 = true) (hn : c - a = (n : Int)) (hh : d - b = (h : Int)) (hf2 : fewB (Ex.addL y l) 35184372088832 = true)
    (q1 : (c - a == 1) = false) (q2 : (d - b == 1) = false) (ho : offB a b n h = 0) (hall : ∀ o, o < 4 → ∀ v ∈ (bandQ a b kn n (Ex.cutR n l h) o).flatten, IntKind.i64.wrap (v + y) = v + y) (hlen : ∀ o, o < 4 → (bandQ a b kn n (Ex.cutR n l h) o).flatten.length ≤ 1048576) (hl2 : l.length = h * n) (vb : 0 ≤ a ∧ a ≤ 4096 ∧ 0 ≤ b ∧ b ≤ 4096 ∧ 0 ≤ c ∧ c ≤ 4096 ∧ 0 ≤ d ∧ d ≤ 4096) : Calls Try.prog 4 #[.agg #[.int .i64 a, .int .i64 b, .int .i64 c, .int .i64 d, .slice s l.length m], .int .i64 y, .int .i64 kn] w fun e w' => e = .returned (.bool true) ∧ Below w.heap.size w w' := by
  have HL2 : Hid _ := hl2
  clear hl2
  have x0 := QBox.fresh w a b c d s l.length m 26
  have B0 := below_alloc (Below.refl _ w) (.cells #[.int .i64 a, .int .i64 b, .int .i64 c, .int .i64 d, .slice s l.length m] 26)
  go_enter Try.func4, Try.ntmps4
  go_wp2_with fail
  refine (few5_c ⟨a, b, c, d⟩ s l.length m _).mono ?_
  rintro e w1 ⟨rfl, hb⟩
  replace x0 := x0.below hb
  replace B0 := below_call B0 hb
  have H1 := hH.below B0 (Nat.le_refl _)
  clear hb hH
  have gf : decide (l.length ≤ 4000) = true := decide_eq_true hf
  rw [gf]
  obtain ⟨y0, y1, y2, y3, y4⟩ := x0.open
  have cS := fun w hH => splitc_yes a b c d kn l s m n h w hp hk hfw hm hH hn hh
  have hin : ∀ v ∈ l, IntKind.i64.wrap (v + y) = v + y := fun v hv => by
    have := few_iff.1 hfw v hv
    exact IntWalk.i64_in _ (by omega)
  have hl1 : l.length ≤ 1048576 := by omega
  clear gf
  go_wp2_with fail
  refine (cS _ H1).mono ?_
  clear cS
  rintro e w2 ⟨s1, m1, rfl, hh1, hb⟩
  replace x0 := x0.below hb
  replace B0 := below_call B0 hb
  replace H1 := H1.call hb
  obtain ⟨D, hD0⟩ : ∃ D : Nat → List Int, D = fun o => (bandQ a b kn n (Ex.cutR n l h) o).flatten := ⟨_, rfl⟩
  have HD0 : Hid _ := hD0
  obtain ⟨R, hR0⟩ : ∃ R : Nat → Pl.R, R = bnds ⟨a, b, c, d⟩ := ⟨_, rfl⟩
  have HR0 : Hid _ := hR0
  obtain ⟨A1, hA1⟩ : ∃ A1, A1 = arrP R (fun o => .slice (s1 o) (D o).length (m1 o)) := ⟨_, rfl⟩
  have hA1' := hA1
  rw [hD0, hR0] at hA1'
  rw [← hA1']
  replace hh1 : ∀ o, o < 4 → HoldsI w2 (s1 o) (D o) := fun o ho => by rw [hD0]; exact (hh1 o ho).1
  have HF1 : Hid (∀ o, o < 4 → HoldsI w2 (s1 o) (D o)) := hh1
  have Hb1 : Hid _ := hA1
  have H20 : Hid (20 = A1.size) := by rw [hA1]; rfl
  have HI : Hid ((Try.prog.info? 27).map (·.size) = some A1.size) := by rw [hA1]; exact info20
  have hAo : A1.all (·.oneCell') = true := by rw [hA1]; simp [arrP_get, Value.oneCell']
  clear hA1 hA1' hb y0 y1 y2 y3 y4 hD0 hR0
  go_upto_region 4 with (first | (refine wpList_store_row rfl 27 (.tmp 7) (.tmp 29) rfl w2.heap.size A1 rfl rfl 27 _ (Blk.fresh w2 27 #[.int .i64 0, .int .i64 0, .int .i64 0, .int .i64 0, .slice none 0 0, .int .i64 0, .int .i64 0, .int .i64 0, .int .i64 0, .slice none 0 0, .int .i64 0, .int .i64 0, .int .i64 0, .int .i64 0, .slice none 0 0, .int .i64 0, .int .i64 0, .int .i64 0, .int .i64 0, .slice none 0 0]) HI.out H20.out hAo ?_))
  obtain ⟨W3, hW3⟩ : ∃ W3, W3 = (w2.alloc (.cells #[.int .i64 0, .int .i64 0, .int .i64 0, .int .i64 0, .slice none 0 0, .int .i64 0, .int .i64 0, .int .i64 0, .int .i64 0, .slice none 0 0, .int .i64 0, .int .i64 0, .int .i64 0, .int .i64 0, .slice none 0 0, .int .i64 0, .int .i64 0, .int .i64 0, .int .i64 0, .slice none 0 0] 27)).setRow w2.heap.size A1 := ⟨_, rfl⟩
  have B3 : Below w.heap.size w W3 := by rw [hW3]; exact below_row (below_alloc B0 _) B0.size _
  have b3 : Blk W3 w2.heap.size 27 A1 := by rw [hW3]; exact (Blk.fresh w2 27 #[.int .i64 0, .int .i64 0, .int .i64 0, .int .i64 0, .slice none 0 0, .int .i64 0, .int .i64 0, .int .i64 0, .int .i64 0, .slice none 0 0, .int .i64 0, .int .i64 0, .int .i64 0, .int .i64 0, .slice none 0 0, .int .i64 0, .int .i64 0, .int .i64 0, .int .i64 0, .slice none 0 0]).row A1
  have x3 : QBox W3 w.heap.size ⟨a, b, c, d⟩ (.slice s l.length m) := by rw [hW3]; exact (x0.alloc _).but (But.setRow _) (Nat.ne_of_lt x0.lt)
  have H3 : HoldsI W3 s l := by rw [hW3]; exact holds_rowed H1 _ _
  have hh3 : ∀ o, o < 4 → HoldsI W3 (s1 o) (D o) := fun o ho => by rw [hW3]; exact holds_rowed (hh1 o ho) _ _
  have h20 : w.heap.size ≤ w2.heap.size := B0.size
  rw [← hW3]
  clear hW3 B0 hAo x0 H1 hh1 H20 HI
  obtain ⟨y0, y1, y2, y3, y4⟩ := x3.open
  go_wp2_with fail
  refine (mv5_c a b c d y s m l _ hl1 H3 hin).mono ?_
  rintro e w4 ⟨g, rfl, row, hb, hg⟩
  replace x3 := x3.below hb
  replace B3 := below_call B3 hb
  replace b3 := b3.below hb
  replace hh3 := fun o (ho : o < 4) => (hh3 o ho).call hb
  have HLn : Hid ((Ex.addL y l).length = l.length) := Ex.addL_len y l
  clear hb y0 y1 y2 y3 y4 H3 hin
  go_wp2_with fail
  refine (splitc_yes a b c d kn (Ex.addL y l) (some ⟨g, 0, none⟩) (Ex.addL y l).length n h _ (by rw [HLn.out]; exact hp) hk hf2 (Nat.le_refl _) row.holds hn hh).mono ?_
  rintro e w5 ⟨s2, m2, rfl, hh2, hb⟩
  have HF2 : Hid (∀ o, o < 4 → Fresh w4 (s2 o)) := fun o ho => (hh2 o ho).2.2.2
  have hlt24 : Hid (w2.heap.size < w4.heap.size) := b3.lt
  replace x3 := x3.below hb
  replace B3 := below_call B3 hb
  replace b3 := b3.below hb
  replace hh3 := fun o (ho : o < 4) => (hh3 o ho).call hb
  obtain ⟨D', hD1⟩ : ∃ D' : Nat → List Int, D' = fun o => (bandQ a b kn n (Ex.cutR n (Ex.addL y l) h) o).flatten := ⟨_, rfl⟩
  have HD1 : Hid (∀ o, o < 4 → D' o = if o = 0 then Ex.addL y (D o) else D o) := fun o hlt => by rw [hD1, HD0.out]; have := band_add (a := a) (b := b) (d := y) hk HL2.out o hlt; rw [ho] at this; exact this
  have hAll : Hid (∀ v ∈ D 0, IntKind.i64.wrap (v + y) = v + y) := by rw [HD0.out]; exact hall 0 (by decide)
  have hLen : Hid (∀ o, o < 4 → (D o).length ≤ 1048576) := by rw [HD0.out]; exact hlen
  obtain ⟨A2, hA2⟩ : ∃ A2, A2 = arrP R (fun o => .slice (s2 o) (D' o).length (m2 o)) := ⟨_, rfl⟩
  have hA2' := hA2
  rw [hD1, HR0.out] at hA2'
  rw [← hA2']
  replace hh2 : ∀ o, o < 4 → HoldsI w5 (s2 o) (D' o) := fun o ho => by rw [hD1]; exact (hh2 o ho).1
  have Hb2 : Hid _ := hA2
  have H20 : Hid (20 = A2.size) := by rw [hA2]; rfl
  have HI : Hid ((Try.prog.info? 27).map (·.size) = some A2.size) := by rw [hA2]; exact info20
  have hAo : A2.all (·.oneCell') = true := by rw [hA2]; simp [arrP_get, Value.oneCell']
  clear hA2 hA2' hb hD1 row hall hlen
  go_upto_region 7 with (first | (refine wpList_store_row rfl 27 (.tmp 9) (.tmp 40) rfl w5.heap.size A2 rfl rfl 27 _ (Blk.fresh w5 27 #[.int .i64 0, .int .i64 0, .int .i64 0, .int .i64 0, .slice none 0 0, .int .i64 0, .int .i64 0, .int .i64 0, .int .i64 0, .slice none 0 0, .int .i64 0, .int .i64 0, .int .i64 0, .int .i64 0, .slice none 0 0, .int .i64 0, .int .i64 0, .int .i64 0, .int .i64 0, .slice none 0 0]) HI.out H20.out hAo ?_))
  obtain ⟨W6, hW6⟩ : ∃ W6, W6 = (w5.alloc (.cells #[.int .i64 0, .int .i64 0, .int .i64 0, .int .i64 0, .slice none 0 0, .int .i64 0, .int .i64 0, .int .i64 0, .int .i64 0, .slice none 0 0, .int .i64 0, .int .i64 0, .int .i64 0, .int .i64 0, .slice none 0 0, .int .i64 0, .int .i64 0, .int .i64 0, .int .i64 0, .slice none 0 0] 27)).setRow w5.heap.size A2 := ⟨_, rfl⟩
  have B6 : Below w.heap.size w W6 := by rw [hW6]; exact below_row (below_alloc B3 _) B3.size _
  have b6 : Blk W6 w2.heap.size 27 A1 := by rw [hW6]; exact (b3.alloc _).but (But.setRow _) (Nat.ne_of_lt b3.lt)
  have c6 : Blk W6 w5.heap.size 27 A2 := by rw [hW6]; exact (Blk.fresh w5 27 #[.int .i64 0, .int .i64 0, .int .i64 0, .int .i64 0, .slice none 0 0, .int .i64 0, .int .i64 0, .int .i64 0, .int .i64 0, .slice none 0 0, .int .i64 0, .int .i64 0, .int .i64 0, .int .i64 0, .slice none 0 0, .int .i64 0, .int .i64 0, .int .i64 0, .int .i64 0, .slice none 0 0]).row A2
  have x6 : QBox W6 w.heap.size ⟨a, b, c, d⟩ (.slice s l.length m) := by rw [hW6]; exact (x3.alloc _).but (But.setRow _) (Nat.ne_of_lt x3.lt)
  have hh6 : ∀ o, o < 4 → HoldsI W6 (s1 o) (D o) := fun o ho => by rw [hW6]; exact holds_rowed (hh3 o ho) _ _
  have hk6 : ∀ o, o < 4 → HoldsI W6 (s2 o) (D' o) := fun o ho => by rw [hW6]; exact holds_rowed (hh2 o ho) _ _
  have hlt25 : Hid (w2.heap.size < w5.heap.size) := b3.lt
  rw [← hW6]
  clear hW6 B3 b3 hAo x3 hh3 hh2 H20 HI hn hh hp
  obtain ⟨y0, y1, y2, y3, y4⟩ := x6.open
  have u1 : IntKind.i64.wrap (c - a) = c - a := IntWalk.i64_in _ (by omega)
  have u2 : IntKind.i64.wrap (d - b) = d - b := IntWalk.i64_in _ (by omega)
  have u3 : IntKind.i64.wrap (a.tmod 2) = a.tmod 2 := IntWalk.i64_in _ (by rw [Int.tmod_eq_emod_of_nonneg vb.1]; omega)
  have u4 : IntKind.i64.wrap (b.tmod 2) = b.tmod 2 := IntWalk.i64_in _ (by rw [Int.tmod_eq_emod_of_nonneg vb.2.2.1]; omega)
  have a0 : W6.cell? ⟨w2.heap.size, 0, none⟩ = some (.int .i64 (R 0).x0) := b6.cell 0 _ (by rw [Hb1.out]; rfl)
  have a1 : W6.cell? ⟨w2.heap.size, 1, none⟩ = some (.int .i64 (R 0).y0) := b6.cell 1 _ (by rw [Hb1.out]; rfl)
  have a2 : W6.cell? ⟨w2.heap.size, 2, none⟩ = some (.int .i64 (R 0).x1) := b6.cell 2 _ (by rw [Hb1.out]; rfl)
  have a3 : W6.cell? ⟨w2.heap.size, 3, none⟩ = some (.int .i64 (R 0).y1) := b6.cell 3 _ (by rw [Hb1.out]; rfl)
  have a4 : W6.cell? ⟨w2.heap.size, 4, none⟩ = some (.slice (s1 0) (D 0).length (m1 0)) := b6.cell 4 _ (by rw [Hb1.out]; rfl)
  clear vb
  go_wp2_with fail
  refine (mv5_c (R 0).x0 (R 0).y0 (R 0).x1 (R 0).y1 y (s1 0) (m1 0) (D 0) _ (hLen.out 0 (by decide)) (hh6 0 (by decide)) hAll.out).mono ?_
  rintro e w7 ⟨g7, rfl, row7, hb, hg7⟩
  have b7 := b6.below hb
  have c7 := c6.below hb
  have hh7 := fun o (ho : o < 4) => (hh6 o ho).call hb
  have hk7 := fun o (ho : o < 4) => (hk6 o ho).call hb
  have B7 := below_call B6 hb
  have hg25 : Hid (w2.heap.size < g7) := by have := b6.lt; show _ < _; omega
  clear y0 y1 y2 y3 y4 a0 a1 a2 a3 a4 b6 c6 x6 hh6 hk6 B6 hb
  have a0 : w7.cell? ⟨w2.heap.size, 0, none⟩ = some (.int .i64 (R 0).x0) := b7.cell 0 _ (by rw [Hb1.out]; rfl)
  have a1 : w7.cell? ⟨w2.heap.size, 1, none⟩ = some (.int .i64 (R 0).y0) := b7.cell 1 _ (by rw [Hb1.out]; rfl)
  have a2 : w7.cell? ⟨w2.heap.size, 2, none⟩ = some (.int .i64 (R 0).x1) := b7.cell 2 _ (by rw [Hb1.out]; rfl)
  have a3 : w7.cell? ⟨w2.heap.size, 3, none⟩ = some (.int .i64 (R 0).y1) := b7.cell 3 _ (by rw [Hb1.out]; rfl)
  have a4 : w7.cell? ⟨w2.heap.size, 4, none⟩ = some (.slice (s1 0) (D 0).length (m1 0)) := b7.cell 4 _ (by rw [Hb1.out]; rfl)
  have gf : ∀ j, w7.frozen? ⟨w2.heap.size, j, none⟩ = false := b7.free
  go_upto_region 15 with fail
  obtain ⟨W8, hW8⟩ : ∃ W8, W8 = (((((w7.setCell ⟨w2.heap.size, 0, none⟩ (.int .i64 (R 0).x0)).setCell ⟨w2.heap.size, 1, none⟩ (.int .i64 (R 0).y0)).setCell ⟨w2.heap.size, 2, none⟩ (.int .i64 (R 0).x1)).setCell ⟨w2.heap.size, 3, none⟩ (.int .i64 (R 0).y1)).setCell ⟨w2.heap.size, 4, none⟩ (.slice (some ⟨g7, 0, none⟩) (Ex.addL y (D 0)).length (Ex.addL y (D 0)).length)) := ⟨_, rfl⟩
  obtain ⟨s3, hs3⟩ : ∃ s3 : Nat → Option Addr, s3 = fun i => if i = 0 then some ⟨g7, 0, none⟩ else s1 i := ⟨_, rfl⟩
  obtain ⟨m3, hm3⟩ : ∃ m3 : Nat → Nat, m3 = fun i => if i = 0 then (Ex.addL y (D 0)).length else m1 i := ⟨_, rfl⟩
  obtain ⟨A3, hA3⟩ : ∃ A3, A3 = arrP R (fun i => .slice (s3 i) (D' i).length (m3 i)) := ⟨_, rfl⟩
  have b8 : Blk W8 w2.heap.size 27 A3 := by
    rw [hW8, hA3]
    have h := b7
    rw [Hb1.out] at h
    have h2 := blkP_all h 0 (by decide) (.slice (some ⟨g7, 0, none⟩) (Ex.addL y (D 0)).length (Ex.addL y (D 0)).length)
    rw [arrP_cong (V' := fun i => .slice (s3 i) (D' i).length (m3 i))] at h2
    · exact h2
    · intro i hi
      show (if i = 0 then _ else _) = _
      rw [HD1.out i hi, hs3, hm3]
      by_cases hq : i = 0
      · subst hq; simp
      · simp [hq]
  have c8 : Blk W8 w5.heap.size 27 A2 := by
    have hn : w5.heap.size ≠ w2.heap.size := Nat.ne_of_gt hlt25.out
    rw [hW8]
    exact ((((c7.far _ _ hn).far _ _ hn).far _ _ hn).far _ _ hn).far _ _ hn
  have hh8 : ∀ o, o < 4 → HoldsI W8 (s3 o) (D' o) := fun i hi => by
    rw [HD1.out i hi, hs3, hW8]
    by_cases hq : i = 0
    · subst hq
      have hn : g7 ≠ w2.heap.size := Nat.ne_of_gt hg25.out
      simp only [if_pos]
      exact (((((row7.far _ _ hn).far _ _ hn).far _ _ hn).far _ _ hn).far _ _ hn).holds
    · simp only [if_neg hq]
      have h0 := HF1.out i hi
      exact holds_cellW (holds_cellW (holds_cellW (holds_cellW (holds_cellW (hh7 i hi) h0 _ _) h0 _ _) h0 _ _) h0 _ _) h0 _ _
  have hk8 : ∀ o, o < 4 → HoldsI W8 (s2 o) (D' o) := fun i hi => by
    have h0 := HF2.out i hi
    have hB := hlt24.out
    rw [hW8]
    exact (((((hk7 i hi).farW h0 hB _).farW h0 hB _).farW h0 hB _).farW h0 hB _).farW h0 hB _
  have hw2 : w.heap.size ≤ w2.heap.size := h20
  have B8 : Below w.heap.size w W8 := by
    rw [hW8]
    exact ((((B7.setCell hw2 _).setCell hw2 _).setCell hw2 _).setCell hw2 _).setCell hw2 _
  have S8 : Sp w w2.heap.size w5.heap.size A3 A2 s3 s2 D' W8 := ⟨B8, b8, c8, hh8, hk8⟩
  have hD : ∀ j, j < 4 → (D' j).length ≤ 140737488351232 := fun j hj => by
    have := hLen.out j hj
    rw [HD1.out j hj]
    split
    · rename_i hq; subst hq; rw [Ex.addL_len]; omega
    · omega
  clear Hb1
  have Hb1 : Hid _ := hA3
  rw [← hW8]
  clear hW8 hA3 hs3 hm3 b8 c8 hh8 hk8 B8 b7 c7 hh7 hk7 B7 row7 hg7 hg25 hlt25 hlt24 HF1 HF2 a0 a1 a2 a3 a4 gf HD1 HD0 hAll hLen u1 u2 u3 u4 q1 q2
  go_upto_region 16 with fail
  go_loopw [88] (fun i wr => ∃ j : Nat, j ≤ 4 ∧ i = .int .i64 (j : Int) ∧ Sp w w2.heap.size w5.heap.size A3 A2 s3 s2 D' wr) (fun i _ => 4 - (intOf i).toNat)
  case atStart => exact ⟨0, by decide, rfl, S8⟩
  case round =>
    obtain ⟨j, hj, hi, hS⟩ := hrel
    clear S8
    by_cases hlt : j < 4
    · have hst := Fam.next (I := Sp w w2.heap.size w5.heap.size A3 A2 s3 s2 D') (fun _ _ p q => p.step q)
      have hne : Nonempty (Fam (Sp w w2.heap.size w5.heap.size A3 A2 s3 s2 D')) := ⟨⟨_, hS⟩⟩
      rcases lt4 hlt with rfl | rfl | rfl | rfl
      · replace hi : _ = Value.int .i64 0 := hi; subst hi
        have p0 : ∀ X : Fam (Sp w w2.heap.size w5.heap.size A3 A2 s3 s2 D'), X.W.cell? ⟨w2.heap.size, 0, none⟩ = some (.int .i64 (R 0).x0) := fun X => X.ok.b1.cell 0 _ (by rw [Hb1.out]; rfl)
        have p1 : ∀ X : Fam (Sp w w2.heap.size w5.heap.size A3 A2 s3 s2 D'), X.W.cell? ⟨w2.heap.size, 1, none⟩ = some (.int .i64 (R 0).y0) := fun X => X.ok.b1.cell 1 _ (by rw [Hb1.out]; rfl)
        have p2 : ∀ X : Fam (Sp w w2.heap.size w5.heap.size A3 A2 s3 s2 D'), X.W.cell? ⟨w2.heap.size, 2, none⟩ = some (.int .i64 (R 0).x1) := fun X => X.ok.b1.cell 2 _ (by rw [Hb1.out]; rfl)
        have p3 : ∀ X : Fam (Sp w w2.heap.size w5.heap.size A3 A2 s3 s2 D'), X.W.cell? ⟨w2.heap.size, 3, none⟩ = some (.int .i64 (R 0).y1) := fun X => X.ok.b1.cell 3 _ (by rw [Hb1.out]; rfl)
        have p4 : ∀ X : Fam (Sp w w2.heap.size w5.heap.size A3 A2 s3 s2 D'), X.W.cell? ⟨w2.heap.size, 4, none⟩ = some (.slice (s3 0) (D' 0).length (m3 0)) := fun X => X.ok.b1.cell 4 _ (by rw [Hb1.out]; rfl)
        have q0 : ∀ X : Fam (Sp w w2.heap.size w5.heap.size A3 A2 s3 s2 D'), X.W.cell? ⟨w5.heap.size, 0, none⟩ = some (.int .i64 (R 0).x0) := fun X => X.ok.b2.cell 0 _ (by rw [Hb2.out]; rfl)
        have q1 : ∀ X : Fam (Sp w w2.heap.size w5.heap.size A3 A2 s3 s2 D'), X.W.cell? ⟨w5.heap.size, 1, none⟩ = some (.int .i64 (R 0).y0) := fun X => X.ok.b2.cell 1 _ (by rw [Hb2.out]; rfl)
        have q2 : ∀ X : Fam (Sp w w2.heap.size w5.heap.size A3 A2 s3 s2 D'), X.W.cell? ⟨w5.heap.size, 2, none⟩ = some (.int .i64 (R 0).x1) := fun X => X.ok.b2.cell 2 _ (by rw [Hb2.out]; rfl)
        have q3 : ∀ X : Fam (Sp w w2.heap.size w5.heap.size A3 A2 s3 s2 D'), X.W.cell? ⟨w5.heap.size, 3, none⟩ = some (.int .i64 (R 0).y1) := fun X => X.ok.b2.cell 3 _ (by rw [Hb2.out]; rfl)
        have q4 : ∀ X : Fam (Sp w w2.heap.size w5.heap.size A3 A2 s3 s2 D'), X.W.cell? ⟨w5.heap.size, 4, none⟩ = some (.slice (s2 0) (D' 0).length (m2 0)) := fun X => X.ok.b2.cell 4 _ (by rw [Hb2.out]; rfl)
        have cS : ∀ X : Fam (Sp w w2.heap.size w5.heap.size A3 A2 s3 s2 D'), Calls Try.prog 19 #[.agg #[.int .i64 (R 0).x0, .int .i64 (R 0).y0, .int .i64 (R 0).x1, .int .i64 (R 0).y1, .slice (s3 0) (D' 0).length (m3 0)], .agg #[.int .i64 (R 0).x0, .int .i64 (R 0).y0, .int .i64 (R 0).x1, .int .i64 (R 0).y1, .slice (s2 0) (D' 0).length (m2 0)]] X.W fun e w' => e = .returned (.bool true) ∧ Below X.W.heap.size X.W w' := fun X => same5_eq (R 0).x0 (R 0).y0 (R 0).x1 (R 0).y1 (s3 0) (s2 0) (m3 0) (m2 0) (D' 0) X.W (hD 0 (by decide)) (X.ok.h1 0 (by decide)) (X.ok.h2 0 (by decide))
        go_upto_region 18 with fail
        refine wp_region_in (fun X : Fam (Sp w w2.heap.size w5.heap.size A3 A2 s3 s2 D') => X.W) (by kernel_rfl) (by kernel_rfl) ⟨⟨_, hS.step (Below.refl _ _).drew⟩, rfl⟩ ?_
        repeat (first | go_big_quiet_step ((first | (go_at_call 19; exact call_in (cS _) (hst _)))) | quiet_step ((first | (go_at_call 19; exact call_in (cS _) (hst _)))))
        refine wpQuiet_nil ?_
        intro w9 hw'
        obtain ⟨⟨_, hS9⟩, hw''⟩ := hw'
        subst hw''
        clear cS p0 p1 p2 p3 p4 q0 q1 q2 q3 q4 hst hne
        have HS : Hid _ := hS9
        clear hS hS9
        go_wp2
        go_roundw
        case rel => exact ⟨1, by decide, (by first | rfl | go_num), HS.out⟩
        case measure => first | decide | (simp [intOf]; done) | (simp [intOf]; omega)
      · replace hi : _ = Value.int .i64 1 := hi; subst hi
        have p0 : ∀ X : Fam (Sp w w2.heap.size w5.heap.size A3 A2 s3 s2 D'), X.W.cell? ⟨w2.heap.size, 5, none⟩ = some (.int .i64 (R 1).x0) := fun X => X.ok.b1.cell 5 _ (by rw [Hb1.out]; rfl)
        have p1 : ∀ X : Fam (Sp w w2.heap.size w5.heap.size A3 A2 s3 s2 D'), X.W.cell? ⟨w2.heap.size, 6, none⟩ = some (.int .i64 (R 1).y0) := fun X => X.ok.b1.cell 6 _ (by rw [Hb1.out]; rfl)
        have p2 : ∀ X : Fam (Sp w w2.heap.size w5.heap.size A3 A2 s3 s2 D'), X.W.cell? ⟨w2.heap.size, 7, none⟩ = some (.int .i64 (R 1).x1) := fun X => X.ok.b1.cell 7 _ (by rw [Hb1.out]; rfl)
        have p3 : ∀ X : Fam (Sp w w2.heap.size w5.heap.size A3 A2 s3 s2 D'), X.W.cell? ⟨w2.heap.size, 8, none⟩ = some (.int .i64 (R 1).y1) := fun X => X.ok.b1.cell 8 _ (by rw [Hb1.out]; rfl)
        have p4 : ∀ X : Fam (Sp w w2.heap.size w5.heap.size A3 A2 s3 s2 D'), X.W.cell? ⟨w2.heap.size, 9, none⟩ = some (.slice (s3 1) (D' 1).length (m3 1)) := fun X => X.ok.b1.cell 9 _ (by rw [Hb1.out]; rfl)
        have q0 : ∀ X : Fam (Sp w w2.heap.size w5.heap.size A3 A2 s3 s2 D'), X.W.cell? ⟨w5.heap.size, 5, none⟩ = some (.int .i64 (R 1).x0) := fun X => X.ok.b2.cell 5 _ (by rw [Hb2.out]; rfl)
        have q1 : ∀ X : Fam (Sp w w2.heap.size w5.heap.size A3 A2 s3 s2 D'), X.W.cell? ⟨w5.heap.size, 6, none⟩ = some (.int .i64 (R 1).y0) := fun X => X.ok.b2.cell 6 _ (by rw [Hb2.out]; rfl)
        have q2 : ∀ X : Fam (Sp w w2.heap.size w5.heap.size A3 A2 s3 s2 D'), X.W.cell? ⟨w5.heap.size, 7, none⟩ = some (.int .i64 (R 1).x1) := fun X => X.ok.b2.cell 7 _ (by rw [Hb2.out]; rfl)
        have q3 : ∀ X : Fam (Sp w w2.heap.size w5.heap.size A3 A2 s3 s2 D'), X.W.cell? ⟨w5.heap.size, 8, none⟩ = some (.int .i64 (R 1).y1) := fun X => X.ok.b2.cell 8 _ (by rw [Hb2.out]; rfl)
        have q4 : ∀ X : Fam (Sp w w2.heap.size w5.heap.size A3 A2 s3 s2 D'), X.W.cell? ⟨w5.heap.size, 9, none⟩ = some (.slice (s2 1) (D' 1).length (m2 1)) := fun X => X.ok.b2.cell 9 _ (by rw [Hb2.out]; rfl)
        have cS : ∀ X : Fam (Sp w w2.heap.size w5.heap.size A3 A2 s3 s2 D'), Calls Try.prog 19 #[.agg #[.int .i64 (R 1).x0, .int .i64 (R 1).y0, .int .i64 (R 1).x1, .int .i64 (R 1).y1, .slice (s3 1) (D' 1).length (m3 1)], .agg #[.int .i64 (R 1).x0, .int .i64 (R 1).y0, .int .i64 (R 1).x1, .int .i64 (R 1).y1, .slice (s2 1) (D' 1).length (m2 1)]] X.W fun e w' => e = .returned (.bool true) ∧ Below X.W.heap.size X.W w' := fun X => same5_eq (R 1).x0 (R 1).y0 (R 1).x1 (R 1).y1 (s3 1) (s2 1) (m3 1) (m2 1) (D' 1) X.W (hD 1 (by decide)) (X.ok.h1 1 (by decide)) (X.ok.h2 1 (by decide))
        go_upto_region 18 with fail
        refine wp_region_in (fun X : Fam (Sp w w2.heap.size w5.heap.size A3 A2 s3 s2 D') => X.W) (by kernel_rfl) (by kernel_rfl) ⟨⟨_, hS.step (Below.refl _ _).drew⟩, rfl⟩ ?_
        repeat (first | go_big_quiet_step ((first | (go_at_call 19; exact call_in (cS _) (hst _)))) | quiet_step ((first | (go_at_call 19; exact call_in (cS _) (hst _)))))
        refine wpQuiet_nil ?_
        intro w9 hw'
        obtain ⟨⟨_, hS9⟩, hw''⟩ := hw'
        subst hw''
        clear cS p0 p1 p2 p3 p4 q0 q1 q2 q3 q4 hst hne
        have HS : Hid _ := hS9
        clear hS hS9
        go_wp2
        go_roundw
        case rel => exact ⟨2, by decide, (by first | rfl | go_num), HS.out⟩
        case measure => first | decide | (simp [intOf]; done) | (simp [intOf]; omega)
      · replace hi : _ = Value.int .i64 2 := hi; subst hi
        have p0 : ∀ X : Fam (Sp w w2.heap.size w5.heap.size A3 A2 s3 s2 D'), X.W.cell? ⟨w2.heap.size, 10, none⟩ = some (.int .i64 (R 2).x0) := fun X => X.ok.b1.cell 10 _ (by rw [Hb1.out]; rfl)
        have p1 : ∀ X : Fam (Sp w w2.heap.size w5.heap.size A3 A2 s3 s2 D'), X.W.cell? ⟨w2.heap.size, 11, none⟩ = some (.int .i64 (R 2).y0) := fun X => X.ok.b1.cell 11 _ (by rw [Hb1.out]; rfl)
        have p2 : ∀ X : Fam (Sp w w2.heap.size w5.heap.size A3 A2 s3 s2 D'), X.W.cell? ⟨w2.heap.size, 12, none⟩ = some (.int .i64 (R 2).x1) := fun X => X.ok.b1.cell 12 _ (by rw [Hb1.out]; rfl)
        have p3 : ∀ X : Fam (Sp w w2.heap.size w5.heap.size A3 A2 s3 s2 D'), X.W.cell? ⟨w2.heap.size, 13, none⟩ = some (.int .i64 (R 2).y1) := fun X => X.ok.b1.cell 13 _ (by rw [Hb1.out]; rfl)
        have p4 : ∀ X : Fam (Sp w w2.heap.size w5.heap.size A3 A2 s3 s2 D'), X.W.cell? ⟨w2.heap.size, 14, none⟩ = some (.slice (s3 2) (D' 2).length (m3 2)) := fun X => X.ok.b1.cell 14 _ (by rw [Hb1.out]; rfl)
        have q0 : ∀ X : Fam (Sp w w2.heap.size w5.heap.size A3 A2 s3 s2 D'), X.W.cell? ⟨w5.heap.size, 10, none⟩ = some (.int .i64 (R 2).x0) := fun X => X.ok.b2.cell 10 _ (by rw [Hb2.out]; rfl)
        have q1 : ∀ X : Fam (Sp w w2.heap.size w5.heap.size A3 A2 s3 s2 D'), X.W.cell? ⟨w5.heap.size, 11, none⟩ = some (.int .i64 (R 2).y0) := fun X => X.ok.b2.cell 11 _ (by rw [Hb2.out]; rfl)
        have q2 : ∀ X : Fam (Sp w w2.heap.size w5.heap.size A3 A2 s3 s2 D'), X.W.cell? ⟨w5.heap.size, 12, none⟩ = some (.int .i64 (R 2).x1) := fun X => X.ok.b2.cell 12 _ (by rw [Hb2.out]; rfl)
        have q3 : ∀ X : Fam (Sp w w2.heap.size w5.heap.size A3 A2 s3 s2 D'), X.W.cell? ⟨w5.heap.size, 13, none⟩ = some (.int .i64 (R 2).y1) := fun X => X.ok.b2.cell 13 _ (by rw [Hb2.out]; rfl)
        have q4 : ∀ X : Fam (Sp w w2.heap.size w5.heap.size A3 A2 s3 s2 D'), X.W.cell? ⟨w5.heap.size, 14, none⟩ = some (.slice (s2 2) (D' 2).length (m2 2)) := fun X => X.ok.b2.cell 14 _ (by rw [Hb2.out]; rfl)
        have cS : ∀ X : Fam (Sp w w2.heap.size w5.heap.size A3 A2 s3 s2 D'), Calls Try.prog 19 #[.agg #[.int .i64 (R 2).x0, .int .i64 (R 2).y0, .int .i64 (R 2).x1, .int .i64 (R 2).y1, .slice (s3 2) (D' 2).length (m3 2)], .agg #[.int .i64 (R 2).x0, .int .i64 (R 2).y0, .int .i64 (R 2).x1, .int .i64 (R 2).y1, .slice (s2 2) (D' 2).length (m2 2)]] X.W fun e w' => e = .returned (.bool true) ∧ Below X.W.heap.size X.W w' := fun X => same5_eq (R 2).x0 (R 2).y0 (R 2).x1 (R 2).y1 (s3 2) (s2 2) (m3 2) (m2 2) (D' 2) X.W (hD 2 (by decide)) (X.ok.h1 2 (by decide)) (X.ok.h2 2 (by decide))
        go_upto_region 18 with fail
        refine wp_region_in (fun X : Fam (Sp w w2.heap.size w5.heap.size A3 A2 s3 s2 D') => X.W) (by kernel_rfl) (by kernel_rfl) ⟨⟨_, hS.step (Below.refl _ _).drew⟩, rfl⟩ ?_
        repeat (first | go_big_quiet_step ((first | (go_at_call 19; exact call_in (cS _) (hst _)))) | quiet_step ((first | (go_at_call 19; exact call_in (cS _) (hst _)))))
        refine wpQuiet_nil ?_
        intro w9 hw'
        obtain ⟨⟨_, hS9⟩, hw''⟩ := hw'
        subst hw''
        clear cS p0 p1 p2 p3 p4 q0 q1 q2 q3 q4 hst hne
        have HS : Hid _ := hS9
        clear hS hS9
        go_wp2
        go_roundw
        case rel => exact ⟨3, by decide, (by first | rfl | go_num), HS.out⟩
        case measure => first | decide | (simp [intOf]; done) | (simp [intOf]; omega)
      · replace hi : _ = Value.int .i64 3 := hi; subst hi
        have p0 : ∀ X : Fam (Sp w w2.heap.size w5.heap.size A3 A2 s3 s2 D'), X.W.cell? ⟨w2.heap.size, 15, none⟩ = some (.int .i64 (R 3).x0) := fun X => X.ok.b1.cell 15 _ (by rw [Hb1.out]; rfl)
        have p1 : ∀ X : Fam (Sp w w2.heap.size w5.heap.size A3 A2 s3 s2 D'), X.W.cell? ⟨w2.heap.size, 16, none⟩ = some (.int .i64 (R 3).y0) := fun X => X.ok.b1.cell 16 _ (by rw [Hb1.out]; rfl)
        have p2 : ∀ X : Fam (Sp w w2.heap.size w5.heap.size A3 A2 s3 s2 D'), X.W.cell? ⟨w2.heap.size, 17, none⟩ = some (.int .i64 (R 3).x1) := fun X => X.ok.b1.cell 17 _ (by rw [Hb1.out]; rfl)
        have p3 : ∀ X : Fam (Sp w w2.heap.size w5.heap.size A3 A2 s3 s2 D'), X.W.cell? ⟨w2.heap.size, 18, none⟩ = some (.int .i64 (R 3).y1) := fun X => X.ok.b1.cell 18 _ (by rw [Hb1.out]; rfl)
        have p4 : ∀ X : Fam (Sp w w2.heap.size w5.heap.size A3 A2 s3 s2 D'), X.W.cell? ⟨w2.heap.size, 19, none⟩ = some (.slice (s3 3) (D' 3).length (m3 3)) := fun X => X.ok.b1.cell 19 _ (by rw [Hb1.out]; rfl)
        have q0 : ∀ X : Fam (Sp w w2.heap.size w5.heap.size A3 A2 s3 s2 D'), X.W.cell? ⟨w5.heap.size, 15, none⟩ = some (.int .i64 (R 3).x0) := fun X => X.ok.b2.cell 15 _ (by rw [Hb2.out]; rfl)
        have q1 : ∀ X : Fam (Sp w w2.heap.size w5.heap.size A3 A2 s3 s2 D'), X.W.cell? ⟨w5.heap.size, 16, none⟩ = some (.int .i64 (R 3).y0) := fun X => X.ok.b2.cell 16 _ (by rw [Hb2.out]; rfl)
        have q2 : ∀ X : Fam (Sp w w2.heap.size w5.heap.size A3 A2 s3 s2 D'), X.W.cell? ⟨w5.heap.size, 17, none⟩ = some (.int .i64 (R 3).x1) := fun X => X.ok.b2.cell 17 _ (by rw [Hb2.out]; rfl)
        have q3 : ∀ X : Fam (Sp w w2.heap.size w5.heap.size A3 A2 s3 s2 D'), X.W.cell? ⟨w5.heap.size, 18, none⟩ = some (.int .i64 (R 3).y1) := fun X => X.ok.b2.cell 18 _ (by rw [Hb2.out]; rfl)
        have q4 : ∀ X : Fam (Sp w w2.heap.size w5.heap.size A3 A2 s3 s2 D'), X.W.cell? ⟨w5.heap.size, 19, none⟩ = some (.slice (s2 3) (D' 3).length (m2 3)) := fun X => X.ok.b2.cell 19 _ (by rw [Hb2.out]; rfl)
        have cS : ∀ X : Fam (Sp w w2.heap.size w5.heap.size A3 A2 s3 s2 D'), Calls Try.prog 19 #[.agg #[.int .i64 (R 3).x0, .int .i64 (R 3).y0, .int .i64 (R 3).x1, .int .i64 (R 3).y1, .slice (s3 3) (D' 3).length (m3 3)], .agg #[.int .i64 (R 3).x0, .int .i64 (R 3).y0, .int .i64 (R 3).x1, .int .i64 (R 3).y1, .slice (s2 3) (D' 3).length (m2 3)]] X.W fun e w' => e = .returned (.bool true) ∧ Below X.W.heap.size X.W w' := fun X => same5_eq (R 3).x0 (R 3).y0 (R 3).x1 (R 3).y1 (s3 3) (s2 3) (m3 3) (m2 3) (D' 3) X.W (hD 3 (by decide)) (X.ok.h1 3 (by decide)) (X.ok.h2 3 (by decide))
        go_upto_region 18 with fail
        refine wp_region_in (fun X : Fam (Sp w w2.heap.size w5.heap.size A3 A2 s3 s2 D') => X.W) (by kernel_rfl) (by kernel_rfl) ⟨⟨_, hS.step (Below.refl _ _).drew⟩, rfl⟩ ?_
        repeat (first | go_big_quiet_step ((first | (go_at_call 19; exact call_in (cS _) (hst _)))) | quiet_step ((first | (go_at_call 19; exact call_in (cS _) (hst _)))))
        refine wpQuiet_nil ?_
        intro w9 hw'
        obtain ⟨⟨_, hS9⟩, hw''⟩ := hw'
        subst hw''
        clear cS p0 p1 p2 p3 p4 q0 q1 q2 q3 q4 hst hne
        have HS : Hid _ := hS9
        clear hS hS9
        go_wp2
        go_roundw
        case rel => exact ⟨4, by decide, (by first | rfl | go_num), HS.out⟩
        case measure => first | decide | (simp [intOf]; done) | (simp [intOf]; omega)
    · obtain rfl : j = 4 := by omega
      replace hi : _ = Value.int .i64 4 := hi; subst hi
      have HB : Hid _ := hS.below
      clear hS
      go_wp2_with (first | (go_at_call 16; (with_reducible refine (awake_c _).mono ?_); rintro e w9 ⟨rfl, hb9⟩))
      go_ret
      exact ⟨rfl, below_call HB.out hb9⟩
set_option maxRecDepth 100000 in
set_option maxHeartbeats 8000000 in
theorem mainFTF (a b c d y kn : Int) (s : Option Addr) (l : List Int) (m : Nat) (w : World) (hm : l.length ≤ m) (hH : HoldsI w s l) (hf : l.length ≤ 4000) (hy0 : y ≤ 281474976710656) (hy : -281474976710656 ≤ y) (n h : Nat) (hp : pvB a b c d l.length = true) (hk : kB kn = true) (hfw : fewB l 35184372088832 = true) (hn : c - a = (n : Int)) (hh : d - b = (h : Int)) (hf2 : fewB (Ex.addL y l) 35184372088832 = true)
    (q1 : (c - a == 1) = false) (q2 : (d - b == 1) = true) (q2' : (b.tmod 2 == 1) = false) (ho : offB a b n h = 0) (hall : ∀ o, o < 4 → ∀ v ∈ (bandQ a b kn n (Ex.cutR n l h) o).flatten, IntKind.i64.wrap (v + y) = v + y) (hlen : ∀ o, o < 4 → (bandQ a b kn n (Ex.cutR n l h) o).flatten.length ≤ 1048576) (hl2 : l.length = h * n) (vb : 0 ≤ a ∧ a ≤ 4096 ∧ 0 ≤ b ∧ b ≤ 4096 ∧ 0 ≤ c ∧ c ≤ 4096 ∧ 0 ≤ d ∧ d ≤ 4096) : Calls Try.prog 4 #[.agg #[.int .i64 a, .int .i64 b, .int .i64 c, .int .i64 d, .slice s l.length m], .int .i64 y, .int .i64 kn] w fun e w' => e = .returned (.bool true) ∧ Below w.heap.size w w' := by
  have HL2 : Hid _ := hl2
  clear hl2
  have x0 := QBox.fresh w a b c d s l.length m 26
  have B0 := below_alloc (Below.refl _ w) (.cells #[.int .i64 a, .int .i64 b, .int .i64 c, .int .i64 d, .slice s l.length m] 26)
  go_enter Try.func4, Try.ntmps4
  go_wp2_with fail
  refine (few5_c ⟨a, b, c, d⟩ s l.length m _).mono ?_
  rintro e w1 ⟨rfl, hb⟩
  replace x0 := x0.below hb
  replace B0 := below_call B0 hb
  have H1 := hH.below B0 (Nat.le_refl _)
  clear hb hH
  have gf : decide (l.length ≤ 4000) = true := decide_eq_true hf
  rw [gf]
  obtain ⟨y0, y1, y2, y3, y4⟩ := x0.open
  have cS := fun w hH => splitc_yes a b c d kn l s m n h w hp hk hfw hm hH hn hh
  have hin : ∀ v ∈ l, IntKind.i64.wrap (v + y) = v + y := fun v hv => by
    have := few_iff.1 hfw v hv
    exact IntWalk.i64_in _ (by omega)
  have hl1 : l.length ≤ 1048576 := by omega
  clear gf
  go_wp2_with fail
  refine (cS _ H1).mono ?_
  clear cS
  rintro e w2 ⟨s1, m1, rfl, hh1, hb⟩
  replace x0 := x0.below hb
  replace B0 := below_call B0 hb
  replace H1 := H1.call hb
  obtain ⟨D, hD0⟩ : ∃ D : Nat → List Int, D = fun o => (bandQ a b kn n (Ex.cutR n l h) o).flatten := ⟨_, rfl⟩
  have HD0 : Hid _ := hD0
  obtain ⟨R, hR0⟩ : ∃ R : Nat → Pl.R, R = bnds ⟨a, b, c, d⟩ := ⟨_, rfl⟩
  have HR0 : Hid _ := hR0
  obtain ⟨A1, hA1⟩ : ∃ A1, A1 = arrP R (fun o => .slice (s1 o) (D o).length (m1 o)) := ⟨_, rfl⟩
  have hA1' := hA1
  rw [hD0, hR0] at hA1'
  rw [← hA1']
  replace hh1 : ∀ o, o < 4 → HoldsI w2 (s1 o) (D o) := fun o ho => by rw [hD0]; exact (hh1 o ho).1
  have HF1 : Hid (∀ o, o < 4 → HoldsI w2 (s1 o) (D o)) := hh1
  have Hb1 : Hid _ := hA1
  have H20 : Hid (20 = A1.size) := by rw [hA1]; rfl
  have HI : Hid ((Try.prog.info? 27).map (·.size) = some A1.size) := by rw [hA1]; exact info20
  have hAo : A1.all (·.oneCell') = true := by rw [hA1]; simp [arrP_get, Value.oneCell']
  clear hA1 hA1' hb y0 y1 y2 y3 y4 hD0 hR0
  go_upto_region 4 with (first | (refine wpList_store_row rfl 27 (.tmp 7) (.tmp 29) rfl w2.heap.size A1 rfl rfl 27 _ (Blk.fresh w2 27 #[.int .i64 0, .int .i64 0, .int .i64 0, .int .i64 0, .slice none 0 0, .int .i64 0, .int .i64 0, .int .i64 0, .int .i64 0, .slice none 0 0, .int .i64 0, .int .i64 0, .int .i64 0, .int .i64 0, .slice none 0 0, .int .i64 0, .int .i64 0, .int .i64 0, .int .i64 0, .slice none 0 0]) HI.out H20.out hAo ?_))
  obtain ⟨W3, hW3⟩ : ∃ W3, W3 = (w2.alloc (.cells #[.int .i64 0, .int .i64 0, .int .i64 0, .int .i64 0, .slice none 0 0, .int .i64 0, .int .i64 0, .int .i64 0, .int .i64 0, .slice none 0 0, .int .i64 0, .int .i64 0, .int .i64 0, .int .i64 0, .slice none 0 0, .int .i64 0, .int .i64 0, .int .i64 0, .int .i64 0, .slice none 0 0] 27)).setRow w2.heap.size A1 := ⟨_, rfl⟩
  have B3 : Below w.heap.size w W3 := by rw [hW3]; exact below_row (below_alloc B0 _) B0.size _
  have b3 : Blk W3 w2.heap.size 27 A1 := by rw [hW3]; exact (Blk.fresh w2 27 #[.int .i64 0, .int .i64 0, .int .i64 0, .int .i64 0, .slice none 0 0, .int .i64 0, .int .i64 0, .int .i64 0, .int .i64 0, .slice none 0 0, .int .i64 0, .int .i64 0, .int .i64 0, .int .i64 0, .slice none 0 0, .int .i64 0, .int .i64 0, .int .i64 0, .int .i64 0, .slice none 0 0]).row A1
  have x3 : QBox W3 w.heap.size ⟨a, b, c, d⟩ (.slice s l.length m) := by rw [hW3]; exact (x0.alloc _).but (But.setRow _) (Nat.ne_of_lt x0.lt)
  have H3 : HoldsI W3 s l := by rw [hW3]; exact holds_rowed H1 _ _
  have hh3 : ∀ o, o < 4 → HoldsI W3 (s1 o) (D o) := fun o ho => by rw [hW3]; exact holds_rowed (hh1 o ho) _ _
  have h20 : w.heap.size ≤ w2.heap.size := B0.size
  rw [← hW3]
  clear hW3 B0 hAo x0 H1 hh1 H20 HI
  obtain ⟨y0, y1, y2, y3, y4⟩ := x3.open
  go_wp2_with fail
  refine (mv5_c a b c d y s m l _ hl1 H3 hin).mono ?_
  rintro e w4 ⟨g, rfl, row, hb, hg⟩
  replace x3 := x3.below hb
  replace B3 := below_call B3 hb
  replace b3 := b3.below hb
  replace hh3 := fun o (ho : o < 4) => (hh3 o ho).call hb
  have HLn : Hid ((Ex.addL y l).length = l.length) := Ex.addL_len y l
  clear hb y0 y1 y2 y3 y4 H3 hin
  go_wp2_with fail
  refine (splitc_yes a b c d kn (Ex.addL y l) (some ⟨g, 0, none⟩) (Ex.addL y l).length n h _ (by rw [HLn.out]; exact hp) hk hf2 (Nat.le_refl _) row.holds hn hh).mono ?_
  rintro e w5 ⟨s2, m2, rfl, hh2, hb⟩
  have HF2 : Hid (∀ o, o < 4 → Fresh w4 (s2 o)) := fun o ho => (hh2 o ho).2.2.2
  have hlt24 : Hid (w2.heap.size < w4.heap.size) := b3.lt
  replace x3 := x3.below hb
  replace B3 := below_call B3 hb
  replace b3 := b3.below hb
  replace hh3 := fun o (ho : o < 4) => (hh3 o ho).call hb
  obtain ⟨D', hD1⟩ : ∃ D' : Nat → List Int, D' = fun o => (bandQ a b kn n (Ex.cutR n (Ex.addL y l) h) o).flatten := ⟨_, rfl⟩
  have HD1 : Hid (∀ o, o < 4 → D' o = if o = 0 then Ex.addL y (D o) else D o) := fun o hlt => by rw [hD1, HD0.out]; have := band_add (a := a) (b := b) (d := y) hk HL2.out o hlt; rw [ho] at this; exact this
  have hAll : Hid (∀ v ∈ D 0, IntKind.i64.wrap (v + y) = v + y) := by rw [HD0.out]; exact hall 0 (by decide)
  have hLen : Hid (∀ o, o < 4 → (D o).length ≤ 1048576) := by rw [HD0.out]; exact hlen
  obtain ⟨A2, hA2⟩ : ∃ A2, A2 = arrP R (fun o => .slice (s2 o) (D' o).length (m2 o)) := ⟨_, rfl⟩
  have hA2' := hA2
  rw [hD1, HR0.out] at hA2'
  rw [← hA2']
  replace hh2 : ∀ o, o < 4 → HoldsI w5 (s2 o) (D' o) := fun o ho => by rw [hD1]; exact (hh2 o ho).1
  have Hb2 : Hid _ := hA2
  have H20 : Hid (20 = A2.size) := by rw [hA2]; rfl
  have HI : Hid ((Try.prog.info? 27).map (·.size) = some A2.size) := by rw [hA2]; exact info20
  have hAo : A2.all (·.oneCell') = true := by rw [hA2]; simp [arrP_get, Value.oneCell']
  clear hA2 hA2' hb hD1 row hall hlen
  go_upto_region 7 with (first | (refine wpList_store_row rfl 27 (.tmp 9) (.tmp 40) rfl w5.heap.size A2 rfl rfl 27 _ (Blk.fresh w5 27 #[.int .i64 0, .int .i64 0, .int .i64 0, .int .i64 0, .slice none 0 0, .int .i64 0, .int .i64 0, .int .i64 0, .int .i64 0, .slice none 0 0, .int .i64 0, .int .i64 0, .int .i64 0, .int .i64 0, .slice none 0 0, .int .i64 0, .int .i64 0, .int .i64 0, .int .i64 0, .slice none 0 0]) HI.out H20.out hAo ?_))
  obtain ⟨W6, hW6⟩ : ∃ W6, W6 = (w5.alloc (.cells #[.int .i64 0, .int .i64 0, .int .i64 0, .int .i64 0, .slice none 0 0, .int .i64 0, .int .i64 0, .int .i64 0, .int .i64 0, .slice none 0 0, .int .i64 0, .int .i64 0, .int .i64 0, .int .i64 0, .slice none 0 0, .int .i64 0, .int .i64 0, .int .i64 0, .int .i64 0, .slice none 0 0] 27)).setRow w5.heap.size A2 := ⟨_, rfl⟩
  have B6 : Below w.heap.size w W6 := by rw [hW6]; exact below_row (below_alloc B3 _) B3.size _
  have b6 : Blk W6 w2.heap.size 27 A1 := by rw [hW6]; exact (b3.alloc _).but (But.setRow _) (Nat.ne_of_lt b3.lt)
  have c6 : Blk W6 w5.heap.size 27 A2 := by rw [hW6]; exact (Blk.fresh w5 27 #[.int .i64 0, .int .i64 0, .int .i64 0, .int .i64 0, .slice none 0 0, .int .i64 0, .int .i64 0, .int .i64 0, .int .i64 0, .slice none 0 0, .int .i64 0, .int .i64 0, .int .i64 0, .int .i64 0, .slice none 0 0, .int .i64 0, .int .i64 0, .int .i64 0, .int .i64 0, .slice none 0 0]).row A2
  have x6 : QBox W6 w.heap.size ⟨a, b, c, d⟩ (.slice s l.length m) := by rw [hW6]; exact (x3.alloc _).but (But.setRow _) (Nat.ne_of_lt x3.lt)
  have hh6 : ∀ o, o < 4 → HoldsI W6 (s1 o) (D o) := fun o ho => by rw [hW6]; exact holds_rowed (hh3 o ho) _ _
  have hk6 : ∀ o, o < 4 → HoldsI W6 (s2 o) (D' o) := fun o ho => by rw [hW6]; exact holds_rowed (hh2 o ho) _ _
  have hlt25 : Hid (w2.heap.size < w5.heap.size) := b3.lt
  rw [← hW6]
  clear hW6 B3 b3 hAo x3 hh3 hh2 H20 HI hn hh hp
  obtain ⟨y0, y1, y2, y3, y4⟩ := x6.open
  have u1 : IntKind.i64.wrap (c - a) = c - a := IntWalk.i64_in _ (by omega)
  have u2 : IntKind.i64.wrap (d - b) = d - b := IntWalk.i64_in _ (by omega)
  have u3 : IntKind.i64.wrap (a.tmod 2) = a.tmod 2 := IntWalk.i64_in _ (by rw [Int.tmod_eq_emod_of_nonneg vb.1]; omega)
  have u4 : IntKind.i64.wrap (b.tmod 2) = b.tmod 2 := IntWalk.i64_in _ (by rw [Int.tmod_eq_emod_of_nonneg vb.2.2.1]; omega)
  have a0 : W6.cell? ⟨w2.heap.size, 0, none⟩ = some (.int .i64 (R 0).x0) := b6.cell 0 _ (by rw [Hb1.out]; rfl)
  have a1 : W6.cell? ⟨w2.heap.size, 1, none⟩ = some (.int .i64 (R 0).y0) := b6.cell 1 _ (by rw [Hb1.out]; rfl)
  have a2 : W6.cell? ⟨w2.heap.size, 2, none⟩ = some (.int .i64 (R 0).x1) := b6.cell 2 _ (by rw [Hb1.out]; rfl)
  have a3 : W6.cell? ⟨w2.heap.size, 3, none⟩ = some (.int .i64 (R 0).y1) := b6.cell 3 _ (by rw [Hb1.out]; rfl)
  have a4 : W6.cell? ⟨w2.heap.size, 4, none⟩ = some (.slice (s1 0) (D 0).length (m1 0)) := b6.cell 4 _ (by rw [Hb1.out]; rfl)
  clear vb
  go_wp2_with fail
  refine (mv5_c (R 0).x0 (R 0).y0 (R 0).x1 (R 0).y1 y (s1 0) (m1 0) (D 0) _ (hLen.out 0 (by decide)) (hh6 0 (by decide)) hAll.out).mono ?_
  rintro e w7 ⟨g7, rfl, row7, hb, hg7⟩
  have b7 := b6.below hb
  have c7 := c6.below hb
  have hh7 := fun o (ho : o < 4) => (hh6 o ho).call hb
  have hk7 := fun o (ho : o < 4) => (hk6 o ho).call hb
  have B7 := below_call B6 hb
  have hg25 : Hid (w2.heap.size < g7) := by have := b6.lt; show _ < _; omega
  clear y0 y1 y2 y3 y4 a0 a1 a2 a3 a4 b6 c6 x6 hh6 hk6 B6 hb
  have a0 : w7.cell? ⟨w2.heap.size, 0, none⟩ = some (.int .i64 (R 0).x0) := b7.cell 0 _ (by rw [Hb1.out]; rfl)
  have a1 : w7.cell? ⟨w2.heap.size, 1, none⟩ = some (.int .i64 (R 0).y0) := b7.cell 1 _ (by rw [Hb1.out]; rfl)
  have a2 : w7.cell? ⟨w2.heap.size, 2, none⟩ = some (.int .i64 (R 0).x1) := b7.cell 2 _ (by rw [Hb1.out]; rfl)
  have a3 : w7.cell? ⟨w2.heap.size, 3, none⟩ = some (.int .i64 (R 0).y1) := b7.cell 3 _ (by rw [Hb1.out]; rfl)
  have a4 : w7.cell? ⟨w2.heap.size, 4, none⟩ = some (.slice (s1 0) (D 0).length (m1 0)) := b7.cell 4 _ (by rw [Hb1.out]; rfl)
  have gf : ∀ j, w7.frozen? ⟨w2.heap.size, j, none⟩ = false := b7.free
  go_upto_region 15 with fail
  obtain ⟨W8, hW8⟩ : ∃ W8, W8 = (((((w7.setCell ⟨w2.heap.size, 0, none⟩ (.int .i64 (R 0).x0)).setCell ⟨w2.heap.size, 1, none⟩ (.int .i64 (R 0).y0)).setCell ⟨w2.heap.size, 2, none⟩ (.int .i64 (R 0).x1)).setCell ⟨w2.heap.size, 3, none⟩ (.int .i64 (R 0).y1)).setCell ⟨w2.heap.size, 4, none⟩ (.slice (some ⟨g7, 0, none⟩) (Ex.addL y (D 0)).length (Ex.addL y (D 0)).length)) := ⟨_, rfl⟩
  obtain ⟨s3, hs3⟩ : ∃ s3 : Nat → Option Addr, s3 = fun i => if i = 0 then some ⟨g7, 0, none⟩ else s1 i := ⟨_, rfl⟩
  obtain ⟨m3, hm3⟩ : ∃ m3 : Nat → Nat, m3 = fun i => if i = 0 then (Ex.addL y (D 0)).length else m1 i := ⟨_, rfl⟩
  obtain ⟨A3, hA3⟩ : ∃ A3, A3 = arrP R (fun i => .slice (s3 i) (D' i).length (m3 i)) := ⟨_, rfl⟩
  have b8 : Blk W8 w2.heap.size 27 A3 := by
    rw [hW8, hA3]
    have h := b7
    rw [Hb1.out] at h
    have h2 := blkP_all h 0 (by decide) (.slice (some ⟨g7, 0, none⟩) (Ex.addL y (D 0)).length (Ex.addL y (D 0)).length)
    rw [arrP_cong (V' := fun i => .slice (s3 i) (D' i).length (m3 i))] at h2
    · exact h2
    · intro i hi
      show (if i = 0 then _ else _) = _
      rw [HD1.out i hi, hs3, hm3]
      by_cases hq : i = 0
      · subst hq; simp
      · simp [hq]
  have c8 : Blk W8 w5.heap.size 27 A2 := by
    have hn : w5.heap.size ≠ w2.heap.size := Nat.ne_of_gt hlt25.out
    rw [hW8]
    exact ((((c7.far _ _ hn).far _ _ hn).far _ _ hn).far _ _ hn).far _ _ hn
  have hh8 : ∀ o, o < 4 → HoldsI W8 (s3 o) (D' o) := fun i hi => by
    rw [HD1.out i hi, hs3, hW8]
    by_cases hq : i = 0
    · subst hq
      have hn : g7 ≠ w2.heap.size := Nat.ne_of_gt hg25.out
      simp only [if_pos]
      exact (((((row7.far _ _ hn).far _ _ hn).far _ _ hn).far _ _ hn).far _ _ hn).holds
    · simp only [if_neg hq]
      have h0 := HF1.out i hi
      exact holds_cellW (holds_cellW (holds_cellW (holds_cellW (holds_cellW (hh7 i hi) h0 _ _) h0 _ _) h0 _ _) h0 _ _) h0 _ _
  have hk8 : ∀ o, o < 4 → HoldsI W8 (s2 o) (D' o) := fun i hi => by
    have h0 := HF2.out i hi
    have hB := hlt24.out
    rw [hW8]
    exact (((((hk7 i hi).farW h0 hB _).farW h0 hB _).farW h0 hB _).farW h0 hB _).farW h0 hB _
  have hw2 : w.heap.size ≤ w2.heap.size := h20
  have B8 : Below w.heap.size w W8 := by
    rw [hW8]
    exact ((((B7.setCell hw2 _).setCell hw2 _).setCell hw2 _).setCell hw2 _).setCell hw2 _
  have S8 : Sp w w2.heap.size w5.heap.size A3 A2 s3 s2 D' W8 := ⟨B8, b8, c8, hh8, hk8⟩
  have hD : ∀ j, j < 4 → (D' j).length ≤ 140737488351232 := fun j hj => by
    have := hLen.out j hj
    rw [HD1.out j hj]
    split
    · rename_i hq; subst hq; rw [Ex.addL_len]; omega
    · omega
  clear Hb1
  have Hb1 : Hid _ := hA3
  rw [← hW8]
  clear hW8 hA3 hs3 hm3 b8 c8 hh8 hk8 B8 b7 c7 hh7 hk7 B7 row7 hg7 hg25 hlt25 hlt24 HF1 HF2 a0 a1 a2 a3 a4 gf HD1 HD0 hAll hLen u1 u2 u3 u4 q1 q2 q2'
  go_upto_region 16 with fail
  go_loopw [88] (fun i wr => ∃ j : Nat, j ≤ 4 ∧ i = .int .i64 (j : Int) ∧ Sp w w2.heap.size w5.heap.size A3 A2 s3 s2 D' wr) (fun i _ => 4 - (intOf i).toNat)
  case atStart => exact ⟨0, by decide, rfl, S8⟩
  case round =>
    obtain ⟨j, hj, hi, hS⟩ := hrel
    clear S8
    by_cases hlt : j < 4
    · have hst := Fam.next (I := Sp w w2.heap.size w5.heap.size A3 A2 s3 s2 D') (fun _ _ p q => p.step q)
      have hne : Nonempty (Fam (Sp w w2.heap.size w5.heap.size A3 A2 s3 s2 D')) := ⟨⟨_, hS⟩⟩
      rcases lt4 hlt with rfl | rfl | rfl | rfl
      · replace hi : _ = Value.int .i64 0 := hi; subst hi
        have p0 : ∀ X : Fam (Sp w w2.heap.size w5.heap.size A3 A2 s3 s2 D'), X.W.cell? ⟨w2.heap.size, 0, none⟩ = some (.int .i64 (R 0).x0) := fun X => X.ok.b1.cell 0 _ (by rw [Hb1.out]; rfl)
        have p1 : ∀ X : Fam (Sp w w2.heap.size w5.heap.size A3 A2 s3 s2 D'), X.W.cell? ⟨w2.heap.size, 1, none⟩ = some (.int .i64 (R 0).y0) := fun X => X.ok.b1.cell 1 _ (by rw [Hb1.out]; rfl)
        have p2 : ∀ X : Fam (Sp w w2.heap.size w5.heap.size A3 A2 s3 s2 D'), X.W.cell? ⟨w2.heap.size, 2, none⟩ = some (.int .i64 (R 0).x1) := fun X => X.ok.b1.cell 2 _ (by rw [Hb1.out]; rfl)
        have p3 : ∀ X : Fam (Sp w w2.heap.size w5.heap.size A3 A2 s3 s2 D'), X.W.cell? ⟨w2.heap.size, 3, none⟩ = some (.int .i64 (R 0).y1) := fun X => X.ok.b1.cell 3 _ (by rw [Hb1.out]; rfl)
        have p4 : ∀ X : Fam (Sp w w2.heap.size w5.heap.size A3 A2 s3 s2 D'), X.W.cell? ⟨w2.heap.size, 4, none⟩ = some (.slice (s3 0) (D' 0).length (m3 0)) := fun X => X.ok.b1.cell 4 _ (by rw [Hb1.out]; rfl)
        have q0 : ∀ X : Fam (Sp w w2.heap.size w5.heap.size A3 A2 s3 s2 D'), X.W.cell? ⟨w5.heap.size, 0, none⟩ = some (.int .i64 (R 0).x0) := fun X => X.ok.b2.cell 0 _ (by rw [Hb2.out]; rfl)
        have q1 : ∀ X : Fam (Sp w w2.heap.size w5.heap.size A3 A2 s3 s2 D'), X.W.cell? ⟨w5.heap.size, 1, none⟩ = some (.int .i64 (R 0).y0) := fun X => X.ok.b2.cell 1 _ (by rw [Hb2.out]; rfl)
        have q2 : ∀ X : Fam (Sp w w2.heap.size w5.heap.size A3 A2 s3 s2 D'), X.W.cell? ⟨w5.heap.size, 2, none⟩ = some (.int .i64 (R 0).x1) := fun X => X.ok.b2.cell 2 _ (by rw [Hb2.out]; rfl)
        have q3 : ∀ X : Fam (Sp w w2.heap.size w5.heap.size A3 A2 s3 s2 D'), X.W.cell? ⟨w5.heap.size, 3, none⟩ = some (.int .i64 (R 0).y1) := fun X => X.ok.b2.cell 3 _ (by rw [Hb2.out]; rfl)
        have q4 : ∀ X : Fam (Sp w w2.heap.size w5.heap.size A3 A2 s3 s2 D'), X.W.cell? ⟨w5.heap.size, 4, none⟩ = some (.slice (s2 0) (D' 0).length (m2 0)) := fun X => X.ok.b2.cell 4 _ (by rw [Hb2.out]; rfl)
        have cS : ∀ X : Fam (Sp w w2.heap.size w5.heap.size A3 A2 s3 s2 D'), Calls Try.prog 19 #[.agg #[.int .i64 (R 0).x0, .int .i64 (R 0).y0, .int .i64 (R 0).x1, .int .i64 (R 0).y1, .slice (s3 0) (D' 0).length (m3 0)], .agg #[.int .i64 (R 0).x0, .int .i64 (R 0).y0, .int .i64 (R 0).x1, .int .i64 (R 0).y1, .slice (s2 0) (D' 0).length (m2 0)]] X.W fun e w' => e = .returned (.bool true) ∧ Below X.W.heap.size X.W w' := fun X => same5_eq (R 0).x0 (R 0).y0 (R 0).x1 (R 0).y1 (s3 0) (s2 0) (m3 0) (m2 0) (D' 0) X.W (hD 0 (by decide)) (X.ok.h1 0 (by decide)) (X.ok.h2 0 (by decide))
        go_upto_region 18 with fail
        refine wp_region_in (fun X : Fam (Sp w w2.heap.size w5.heap.size A3 A2 s3 s2 D') => X.W) (by kernel_rfl) (by kernel_rfl) ⟨⟨_, hS.step (Below.refl _ _).drew⟩, rfl⟩ ?_
        repeat (first | go_big_quiet_step ((first | (go_at_call 19; exact call_in (cS _) (hst _)))) | quiet_step ((first | (go_at_call 19; exact call_in (cS _) (hst _)))))
        refine wpQuiet_nil ?_
        intro w9 hw'
        obtain ⟨⟨_, hS9⟩, hw''⟩ := hw'
        subst hw''
        clear cS p0 p1 p2 p3 p4 q0 q1 q2 q3 q4 hst hne
        have HS : Hid _ := hS9
        clear hS hS9
        go_wp2
        go_roundw
        case rel => exact ⟨1, by decide, (by first | rfl | go_num), HS.out⟩
        case measure => first | decide | (simp [intOf]; done) | (simp [intOf]; omega)
      · replace hi : _ = Value.int .i64 1 := hi; subst hi
        have p0 : ∀ X : Fam (Sp w w2.heap.size w5.heap.size A3 A2 s3 s2 D'), X.W.cell? ⟨w2.heap.size, 5, none⟩ = some (.int .i64 (R 1).x0) := fun X => X.ok.b1.cell 5 _ (by rw [Hb1.out]; rfl)
        have p1 : ∀ X : Fam (Sp w w2.heap.size w5.heap.size A3 A2 s3 s2 D'), X.W.cell? ⟨w2.heap.size, 6, none⟩ = some (.int .i64 (R 1).y0) := fun X => X.ok.b1.cell 6 _ (by rw [Hb1.out]; rfl)
        have p2 : ∀ X : Fam (Sp w w2.heap.size w5.heap.size A3 A2 s3 s2 D'), X.W.cell? ⟨w2.heap.size, 7, none⟩ = some (.int .i64 (R 1).x1) := fun X => X.ok.b1.cell 7 _ (by rw [Hb1.out]; rfl)
        have p3 : ∀ X : Fam (Sp w w2.heap.size w5.heap.size A3 A2 s3 s2 D'), X.W.cell? ⟨w2.heap.size, 8, none⟩ = some (.int .i64 (R 1).y1) := fun X => X.ok.b1.cell 8 _ (by rw [Hb1.out]; rfl)
        have p4 : ∀ X : Fam (Sp w w2.heap.size w5.heap.size A3 A2 s3 s2 D'), X.W.cell? ⟨w2.heap.size, 9, none⟩ = some (.slice (s3 1) (D' 1).length (m3 1)) := fun X => X.ok.b1.cell 9 _ (by rw [Hb1.out]; rfl)
        have q0 : ∀ X : Fam (Sp w w2.heap.size w5.heap.size A3 A2 s3 s2 D'), X.W.cell? ⟨w5.heap.size, 5, none⟩ = some (.int .i64 (R 1).x0) := fun X => X.ok.b2.cell 5 _ (by rw [Hb2.out]; rfl)
        have q1 : ∀ X : Fam (Sp w w2.heap.size w5.heap.size A3 A2 s3 s2 D'), X.W.cell? ⟨w5.heap.size, 6, none⟩ = some (.int .i64 (R 1).y0) := fun X => X.ok.b2.cell 6 _ (by rw [Hb2.out]; rfl)
        have q2 : ∀ X : Fam (Sp w w2.heap.size w5.heap.size A3 A2 s3 s2 D'), X.W.cell? ⟨w5.heap.size, 7, none⟩ = some (.int .i64 (R 1).x1) := fun X => X.ok.b2.cell 7 _ (by rw [Hb2.out]; rfl)
        have q3 : ∀ X : Fam (Sp w w2.heap.size w5.heap.size A3 A2 s3 s2 D'), X.W.cell? ⟨w5.heap.size, 8, none⟩ = some (.int .i64 (R 1).y1) := fun X => X.ok.b2.cell 8 _ (by rw [Hb2.out]; rfl)
        have q4 : ∀ X : Fam (Sp w w2.heap.size w5.heap.size A3 A2 s3 s2 D'), X.W.cell? ⟨w5.heap.size, 9, none⟩ = some (.slice (s2 1) (D' 1).length (m2 1)) := fun X => X.ok.b2.cell 9 _ (by rw [Hb2.out]; rfl)
        have cS : ∀ X : Fam (Sp w w2.heap.size w5.heap.size A3 A2 s3 s2 D'), Calls Try.prog 19 #[.agg #[.int .i64 (R 1).x0, .int .i64 (R 1).y0, .int .i64 (R 1).x1, .int .i64 (R 1).y1, .slice (s3 1) (D' 1).length (m3 1)], .agg #[.int .i64 (R 1).x0, .int .i64 (R 1).y0, .int .i64 (R 1).x1, .int .i64 (R 1).y1, .slice (s2 1) (D' 1).length (m2 1)]] X.W fun e w' => e = .returned (.bool true) ∧ Below X.W.heap.size X.W w' := fun X => same5_eq (R 1).x0 (R 1).y0 (R 1).x1 (R 1).y1 (s3 1) (s2 1) (m3 1) (m2 1) (D' 1) X.W (hD 1 (by decide)) (X.ok.h1 1 (by decide)) (X.ok.h2 1 (by decide))
        go_upto_region 18 with fail
        refine wp_region_in (fun X : Fam (Sp w w2.heap.size w5.heap.size A3 A2 s3 s2 D') => X.W) (by kernel_rfl) (by kernel_rfl) ⟨⟨_, hS.step (Below.refl _ _).drew⟩, rfl⟩ ?_
        repeat (first | go_big_quiet_step ((first | (go_at_call 19; exact call_in (cS _) (hst _)))) | quiet_step ((first | (go_at_call 19; exact call_in (cS _) (hst _)))))
        refine wpQuiet_nil ?_
        intro w9 hw'
        obtain ⟨⟨_, hS9⟩, hw''⟩ := hw'
        subst hw''
        clear cS p0 p1 p2 p3 p4 q0 q1 q2 q3 q4 hst hne
        have HS : Hid _ := hS9
        clear hS hS9
        go_wp2
        go_roundw
        case rel => exact ⟨2, by decide, (by first | rfl | go_num), HS.out⟩
        case measure => first | decide | (simp [intOf]; done) | (simp [intOf]; omega)
      · replace hi : _ = Value.int .i64 2 := hi; subst hi
        have p0 : ∀ X : Fam (Sp w w2.heap.size w5.heap.size A3 A2 s3 s2 D'), X.W.cell? ⟨w2.heap.size, 10, none⟩ = some (.int .i64 (R 2).x0) := fun X => X.ok.b1.cell 10 _ (by rw [Hb1.out]; rfl)
        have p1 : ∀ X : Fam (Sp w w2.heap.size w5.heap.size A3 A2 s3 s2 D'), X.W.cell? ⟨w2.heap.size, 11, none⟩ = some (.int .i64 (R 2).y0) := fun X => X.ok.b1.cell 11 _ (by rw [Hb1.out]; rfl)
        have p2 : ∀ X : Fam (Sp w w2.heap.size w5.heap.size A3 A2 s3 s2 D'), X.W.cell? ⟨w2.heap.size, 12, none⟩ = some (.int .i64 (R 2).x1) := fun X => X.ok.b1.cell 12 _ (by rw [Hb1.out]; rfl)
        have p3 : ∀ X : Fam (Sp w w2.heap.size w5.heap.size A3 A2 s3 s2 D'), X.W.cell? ⟨w2.heap.size, 13, none⟩ = some (.int .i64 (R 2).y1) := fun X => X.ok.b1.cell 13 _ (by rw [Hb1.out]; rfl)
        have p4 : ∀ X : Fam (Sp w w2.heap.size w5.heap.size A3 A2 s3 s2 D'), X.W.cell? ⟨w2.heap.size, 14, none⟩ = some (.slice (s3 2) (D' 2).length (m3 2)) := fun X => X.ok.b1.cell 14 _ (by rw [Hb1.out]; rfl)
        have q0 : ∀ X : Fam (Sp w w2.heap.size w5.heap.size A3 A2 s3 s2 D'), X.W.cell? ⟨w5.heap.size, 10, none⟩ = some (.int .i64 (R 2).x0) := fun X => X.ok.b2.cell 10 _ (by rw [Hb2.out]; rfl)
        have q1 : ∀ X : Fam (Sp w w2.heap.size w5.heap.size A3 A2 s3 s2 D'), X.W.cell? ⟨w5.heap.size, 11, none⟩ = some (.int .i64 (R 2).y0) := fun X => X.ok.b2.cell 11 _ (by rw [Hb2.out]; rfl)
        have q2 : ∀ X : Fam (Sp w w2.heap.size w5.heap.size A3 A2 s3 s2 D'), X.W.cell? ⟨w5.heap.size, 12, none⟩ = some (.int .i64 (R 2).x1) := fun X => X.ok.b2.cell 12 _ (by rw [Hb2.out]; rfl)
        have q3 : ∀ X : Fam (Sp w w2.heap.size w5.heap.size A3 A2 s3 s2 D'), X.W.cell? ⟨w5.heap.size, 13, none⟩ = some (.int .i64 (R 2).y1) := fun X => X.ok.b2.cell 13 _ (by rw [Hb2.out]; rfl)
        have q4 : ∀ X : Fam (Sp w w2.heap.size w5.heap.size A3 A2 s3 s2 D'), X.W.cell? ⟨w5.heap.size, 14, none⟩ = some (.slice (s2 2) (D' 2).length (m2 2)) := fun X => X.ok.b2.cell 14 _ (by rw [Hb2.out]; rfl)
        have cS : ∀ X : Fam (Sp w w2.heap.size w5.heap.size A3 A2 s3 s2 D'), Calls Try.prog 19 #[.agg #[.int .i64 (R 2).x0, .int .i64 (R 2).y0, .int .i64 (R 2).x1, .int .i64 (R 2).y1, .slice (s3 2) (D' 2).length (m3 2)], .agg #[.int .i64 (R 2).x0, .int .i64 (R 2).y0, .int .i64 (R 2).x1, .int .i64 (R 2).y1, .slice (s2 2) (D' 2).length (m2 2)]] X.W fun e w' => e = .returned (.bool true) ∧ Below X.W.heap.size X.W w' := fun X => same5_eq (R 2).x0 (R 2).y0 (R 2).x1 (R 2).y1 (s3 2) (s2 2) (m3 2) (m2 2) (D' 2) X.W (hD 2 (by decide)) (X.ok.h1 2 (by decide)) (X.ok.h2 2 (by decide))
        go_upto_region 18 with fail
        refine wp_region_in (fun X : Fam (Sp w w2.heap.size w5.heap.size A3 A2 s3 s2 D') => X.W) (by kernel_rfl) (by kernel_rfl) ⟨⟨_, hS.step (Below.refl _ _).drew⟩, rfl⟩ ?_
        repeat (first | go_big_quiet_step ((first | (go_at_call 19; exact call_in (cS _) (hst _)))) | quiet_step ((first | (go_at_call 19; exact call_in (cS _) (hst _)))))
        refine wpQuiet_nil ?_
        intro w9 hw'
        obtain ⟨⟨_, hS9⟩, hw''⟩ := hw'
        subst hw''
        clear cS p0 p1 p2 p3 p4 q0 q1 q2 q3 q4 hst hne
        have HS : Hid _ := hS9
        clear hS hS9
        go_wp2
        go_roundw
        case rel => exact ⟨3, by decide, (by first | rfl | go_num), HS.out⟩
        case measure => first | decide | (simp [intOf]; done) | (simp [intOf]; omega)
      · replace hi : _ = Value.int .i64 3 := hi; subst hi
        have p0 : ∀ X : Fam (Sp w w2.heap.size w5.heap.size A3 A2 s3 s2 D'), X.W.cell? ⟨w2.heap.size, 15, none⟩ = some (.int .i64 (R 3).x0) := fun X => X.ok.b1.cell 15 _ (by rw [Hb1.out]; rfl)
        have p1 : ∀ X : Fam (Sp w w2.heap.size w5.heap.size A3 A2 s3 s2 D'), X.W.cell? ⟨w2.heap.size, 16, none⟩ = some (.int .i64 (R 3).y0) := fun X => X.ok.b1.cell 16 _ (by rw [Hb1.out]; rfl)
        have p2 : ∀ X : Fam (Sp w w2.heap.size w5.heap.size A3 A2 s3 s2 D'), X.W.cell? ⟨w2.heap.size, 17, none⟩ = some (.int .i64 (R 3).x1) := fun X => X.ok.b1.cell 17 _ (by rw [Hb1.out]; rfl)
        have p3 : ∀ X : Fam (Sp w w2.heap.size w5.heap.size A3 A2 s3 s2 D'), X.W.cell? ⟨w2.heap.size, 18, none⟩ = some (.int .i64 (R 3).y1) := fun X => X.ok.b1.cell 18 _ (by rw [Hb1.out]; rfl)
        have p4 : ∀ X : Fam (Sp w w2.heap.size w5.heap.size A3 A2 s3 s2 D'), X.W.cell? ⟨w2.heap.size, 19, none⟩ = some (.slice (s3 3) (D' 3).length (m3 3)) := fun X => X.ok.b1.cell 19 _ (by rw [Hb1.out]; rfl)
        have q0 : ∀ X : Fam (Sp w w2.heap.size w5.heap.size A3 A2 s3 s2 D'), X.W.cell? ⟨w5.heap.size, 15, none⟩ = some (.int .i64 (R 3).x0) := fun X => X.ok.b2.cell 15 _ (by rw [Hb2.out]; rfl)
        have q1 : ∀ X : Fam (Sp w w2.heap.size w5.heap.size A3 A2 s3 s2 D'), X.W.cell? ⟨w5.heap.size, 16, none⟩ = some (.int .i64 (R 3).y0) := fun X => X.ok.b2.cell 16 _ (by rw [Hb2.out]; rfl)
        have q2 : ∀ X : Fam (Sp w w2.heap.size w5.heap.size A3 A2 s3 s2 D'), X.W.cell? ⟨w5.heap.size, 17, none⟩ = some (.int .i64 (R 3).x1) := fun X => X.ok.b2.cell 17 _ (by rw [Hb2.out]; rfl)
        have q3 : ∀ X : Fam (Sp w w2.heap.size w5.heap.size A3 A2 s3 s2 D'), X.W.cell? ⟨w5.heap.size, 18, none⟩ = some (.int .i64 (R 3).y1) := fun X => X.ok.b2.cell 18 _ (by rw [Hb2.out]; rfl)
        have q4 : ∀ X : Fam (Sp w w2.heap.size w5.heap.size A3 A2 s3 s2 D'), X.W.cell? ⟨w5.heap.size, 19, none⟩ = some (.slice (s2 3) (D' 3).length (m2 3)) := fun X => X.ok.b2.cell 19 _ (by rw [Hb2.out]; rfl)
        have cS : ∀ X : Fam (Sp w w2.heap.size w5.heap.size A3 A2 s3 s2 D'), Calls Try.prog 19 #[.agg #[.int .i64 (R 3).x0, .int .i64 (R 3).y0, .int .i64 (R 3).x1, .int .i64 (R 3).y1, .slice (s3 3) (D' 3).length (m3 3)], .agg #[.int .i64 (R 3).x0, .int .i64 (R 3).y0, .int .i64 (R 3).x1, .int .i64 (R 3).y1, .slice (s2 3) (D' 3).length (m2 3)]] X.W fun e w' => e = .returned (.bool true) ∧ Below X.W.heap.size X.W w' := fun X => same5_eq (R 3).x0 (R 3).y0 (R 3).x1 (R 3).y1 (s3 3) (s2 3) (m3 3) (m2 3) (D' 3) X.W (hD 3 (by decide)) (X.ok.h1 3 (by decide)) (X.ok.h2 3 (by decide))
        go_upto_region 18 with fail
        refine wp_region_in (fun X : Fam (Sp w w2.heap.size w5.heap.size A3 A2 s3 s2 D') => X.W) (by kernel_rfl) (by kernel_rfl) ⟨⟨_, hS.step (Below.refl _ _).drew⟩, rfl⟩ ?_
        repeat (first | go_big_quiet_step ((first | (go_at_call 19; exact call_in (cS _) (hst _)))) | quiet_step ((first | (go_at_call 19; exact call_in (cS _) (hst _)))))
        refine wpQuiet_nil ?_
        intro w9 hw'
        obtain ⟨⟨_, hS9⟩, hw''⟩ := hw'
        subst hw''
        clear cS p0 p1 p2 p3 p4 q0 q1 q2 q3 q4 hst hne
        have HS : Hid _ := hS9
        clear hS hS9
        go_wp2
        go_roundw
        case rel => exact ⟨4, by decide, (by first | rfl | go_num), HS.out⟩
        case measure => first | decide | (simp [intOf]; done) | (simp [intOf]; omega)
    · obtain rfl : j = 4 := by omega
      replace hi : _ = Value.int .i64 4 := hi; subst hi
      have HB : Hid _ := hS.below
      clear hS
      go_wp2_with (first | (go_at_call 16; (with_reducible refine (awake_c _).mono ?_); rintro e w9 ⟨rfl, hb9⟩))
      go_ret
      exact ⟨rfl, below_call HB.out hb9⟩
set_option maxRecDepth 100000 in
set_option maxHeartbeats 8000000 in
theorem mainFTT (a b c d y kn : Int) (s : Option Addr) (l : List Int) (m : Nat) (w : World) (hm : l.length ≤ m) (hH : HoldsI w s l) (hf : l.length ≤ 4000) (hy0 : y ≤ 281474976710656) (hy : -281474976710656 ≤ y) (n h : Nat) (hp : pvB a b c d l.length = true) (hk : kB kn = true) (hfw : fewB l 35184372088832 = true) (hn : c - a = (n : Int)) (hh : d - b = (h : Int)) (hf2 : fewB (Ex.addL y l) 35184372088832 = true)
    (q1 : (c - a == 1) = false) (q2 : (d - b == 1) = true) (q2' : (b.tmod 2 == 1) = true) (ho : offB a b n h = 2) (hall : ∀ o, o < 4 → ∀ v ∈ (bandQ a b kn n (Ex.cutR n l h) o).flatten, IntKind.i64.wrap (v + y) = v + y) (hlen : ∀ o, o < 4 → (bandQ a b kn n (Ex.cutR n l h) o).flatten.length ≤ 1048576) (hl2 : l.length = h * n) (vb : 0 ≤ a ∧ a ≤ 4096 ∧ 0 ≤ b ∧ b ≤ 4096 ∧ 0 ≤ c ∧ c ≤ 4096 ∧ 0 ≤ d ∧ d ≤ 4096) : Calls Try.prog 4 #[.agg #[.int .i64 a, .int .i64 b, .int .i64 c, .int .i64 d, .slice s l.length m], .int .i64 y, .int .i64 kn] w fun e w' => e = .returned (.bool true) ∧ Below w.heap.size w w' := by
  have HL2 : Hid _ := hl2
  clear hl2
  have x0 := QBox.fresh w a b c d s l.length m 26
  have B0 := below_alloc (Below.refl _ w) (.cells #[.int .i64 a, .int .i64 b, .int .i64 c, .int .i64 d, .slice s l.length m] 26)
  go_enter Try.func4, Try.ntmps4
  go_wp2_with fail
  refine (few5_c ⟨a, b, c, d⟩ s l.length m _).mono ?_
  rintro e w1 ⟨rfl, hb⟩
  replace x0 := x0.below hb
  replace B0 := below_call B0 hb
  have H1 := hH.below B0 (Nat.le_refl _)
  clear hb hH
  have gf : decide (l.length ≤ 4000) = true := decide_eq_true hf
  rw [gf]
  obtain ⟨y0, y1, y2, y3, y4⟩ := x0.open
  have cS := fun w hH => splitc_yes a b c d kn l s m n h w hp hk hfw hm hH hn hh
  have hin : ∀ v ∈ l, IntKind.i64.wrap (v + y) = v + y := fun v hv => by
    have := few_iff.1 hfw v hv
    exact IntWalk.i64_in _ (by omega)
  have hl1 : l.length ≤ 1048576 := by omega
  clear gf
  go_wp2_with fail
  refine (cS _ H1).mono ?_
  clear cS
  rintro e w2 ⟨s1, m1, rfl, hh1, hb⟩
  replace x0 := x0.below hb
  replace B0 := below_call B0 hb
  replace H1 := H1.call hb
  obtain ⟨D, hD0⟩ : ∃ D : Nat → List Int, D = fun o => (bandQ a b kn n (Ex.cutR n l h) o).flatten := ⟨_, rfl⟩
  have HD0 : Hid _ := hD0
  obtain ⟨R, hR0⟩ : ∃ R : Nat → Pl.R, R = bnds ⟨a, b, c, d⟩ := ⟨_, rfl⟩
  have HR0 : Hid _ := hR0
  obtain ⟨A1, hA1⟩ : ∃ A1, A1 = arrP R (fun o => .slice (s1 o) (D o).length (m1 o)) := ⟨_, rfl⟩
  have hA1' := hA1
  rw [hD0, hR0] at hA1'
  rw [← hA1']
  replace hh1 : ∀ o, o < 4 → HoldsI w2 (s1 o) (D o) := fun o ho => by rw [hD0]; exact (hh1 o ho).1
  have HF1 : Hid (∀ o, o < 4 → HoldsI w2 (s1 o) (D o)) := hh1
  have Hb1 : Hid _ := hA1
  have H20 : Hid (20 = A1.size) := by rw [hA1]; rfl
  have HI : Hid ((Try.prog.info? 27).map (·.size) = some A1.size) := by rw [hA1]; exact info20
  have hAo : A1.all (·.oneCell') = true := by rw [hA1]; simp [arrP_get, Value.oneCell']
  clear hA1 hA1' hb y0 y1 y2 y3 y4 hD0 hR0
  go_upto_region 4 with (first | (refine wpList_store_row rfl 27 (.tmp 7) (.tmp 29) rfl w2.heap.size A1 rfl rfl 27 _ (Blk.fresh w2 27 #[.int .i64 0, .int .i64 0, .int .i64 0, .int .i64 0, .slice none 0 0, .int .i64 0, .int .i64 0, .int .i64 0, .int .i64 0, .slice none 0 0, .int .i64 0, .int .i64 0, .int .i64 0, .int .i64 0, .slice none 0 0, .int .i64 0, .int .i64 0, .int .i64 0, .int .i64 0, .slice none 0 0]) HI.out H20.out hAo ?_))
  obtain ⟨W3, hW3⟩ : ∃ W3, W3 = (w2.alloc (.cells #[.int .i64 0, .int .i64 0, .int .i64 0, .int .i64 0, .slice none 0 0, .int .i64 0, .int .i64 0, .int .i64 0, .int .i64 0, .slice none 0 0, .int .i64 0, .int .i64 0, .int .i64 0, .int .i64 0, .slice none 0 0, .int .i64 0, .int .i64 0, .int .i64 0, .int .i64 0, .slice none 0 0] 27)).setRow w2.heap.size A1 := ⟨_, rfl⟩
  have B3 : Below w.heap.size w W3 := by rw [hW3]; exact below_row (below_alloc B0 _) B0.size _
  have b3 : Blk W3 w2.heap.size 27 A1 := by rw [hW3]; exact (Blk.fresh w2 27 #[.int .i64 0, .int .i64 0, .int .i64 0, .int .i64 0, .slice none 0 0, .int .i64 0, .int .i64 0, .int .i64 0, .int .i64 0, .slice none 0 0, .int .i64 0, .int .i64 0, .int .i64 0, .int .i64 0, .slice none 0 0, .int .i64 0, .int .i64 0, .int .i64 0, .int .i64 0, .slice none 0 0]).row A1
  have x3 : QBox W3 w.heap.size ⟨a, b, c, d⟩ (.slice s l.length m) := by rw [hW3]; exact (x0.alloc _).but (But.setRow _) (Nat.ne_of_lt x0.lt)
  have H3 : HoldsI W3 s l := by rw [hW3]; exact holds_rowed H1 _ _
  have hh3 : ∀ o, o < 4 → HoldsI W3 (s1 o) (D o) := fun o ho => by rw [hW3]; exact holds_rowed (hh1 o ho) _ _
  have h20 : w.heap.size ≤ w2.heap.size := B0.size
  rw [← hW3]
  clear hW3 B0 hAo x0 H1 hh1 H20 HI
  obtain ⟨y0, y1, y2, y3, y4⟩ := x3.open
  go_wp2_with fail
  refine (mv5_c a b c d y s m l _ hl1 H3 hin).mono ?_
  rintro e w4 ⟨g, rfl, row, hb, hg⟩
  replace x3 := x3.below hb
  replace B3 := below_call B3 hb
  replace b3 := b3.below hb
  replace hh3 := fun o (ho : o < 4) => (hh3 o ho).call hb
  have HLn : Hid ((Ex.addL y l).length = l.length) := Ex.addL_len y l
  clear hb y0 y1 y2 y3 y4 H3 hin
  go_wp2_with fail
  refine (splitc_yes a b c d kn (Ex.addL y l) (some ⟨g, 0, none⟩) (Ex.addL y l).length n h _ (by rw [HLn.out]; exact hp) hk hf2 (Nat.le_refl _) row.holds hn hh).mono ?_
  rintro e w5 ⟨s2, m2, rfl, hh2, hb⟩
  have HF2 : Hid (∀ o, o < 4 → Fresh w4 (s2 o)) := fun o ho => (hh2 o ho).2.2.2
  have hlt24 : Hid (w2.heap.size < w4.heap.size) := b3.lt
  replace x3 := x3.below hb
  replace B3 := below_call B3 hb
  replace b3 := b3.below hb
  replace hh3 := fun o (ho : o < 4) => (hh3 o ho).call hb
  obtain ⟨D', hD1⟩ : ∃ D' : Nat → List Int, D' = fun o => (bandQ a b kn n (Ex.cutR n (Ex.addL y l) h) o).flatten := ⟨_, rfl⟩
  have HD1 : Hid (∀ o, o < 4 → D' o = if o = 2 then Ex.addL y (D o) else D o) := fun o hlt => by rw [hD1, HD0.out]; have := band_add (a := a) (b := b) (d := y) hk HL2.out o hlt; rw [ho] at this; exact this
  have hAll : Hid (∀ v ∈ D 2, IntKind.i64.wrap (v + y) = v + y) := by rw [HD0.out]; exact hall 2 (by decide)
  have hLen : Hid (∀ o, o < 4 → (D o).length ≤ 1048576) := by rw [HD0.out]; exact hlen
  obtain ⟨A2, hA2⟩ : ∃ A2, A2 = arrP R (fun o => .slice (s2 o) (D' o).length (m2 o)) := ⟨_, rfl⟩
  have hA2' := hA2
  rw [hD1, HR0.out] at hA2'
  rw [← hA2']
  replace hh2 : ∀ o, o < 4 → HoldsI w5 (s2 o) (D' o) := fun o ho => by rw [hD1]; exact (hh2 o ho).1
  have Hb2 : Hid _ := hA2
  have H20 : Hid (20 = A2.size) := by rw [hA2]; rfl
  have HI : Hid ((Try.prog.info? 27).map (·.size) = some A2.size) := by rw [hA2]; exact info20
  have hAo : A2.all (·.oneCell') = true := by rw [hA2]; simp [arrP_get, Value.oneCell']
  clear hA2 hA2' hb hD1 row hall hlen
  go_upto_region 7 with (first | (refine wpList_store_row rfl 27 (.tmp 9) (.tmp 40) rfl w5.heap.size A2 rfl rfl 27 _ (Blk.fresh w5 27 #[.int .i64 0, .int .i64 0, .int .i64 0, .int .i64 0, .slice none 0 0, .int .i64 0, .int .i64 0, .int .i64 0, .int .i64 0, .slice none 0 0, .int .i64 0, .int .i64 0, .int .i64 0, .int .i64 0, .slice none 0 0, .int .i64 0, .int .i64 0, .int .i64 0, .int .i64 0, .slice none 0 0]) HI.out H20.out hAo ?_))
  obtain ⟨W6, hW6⟩ : ∃ W6, W6 = (w5.alloc (.cells #[.int .i64 0, .int .i64 0, .int .i64 0, .int .i64 0, .slice none 0 0, .int .i64 0, .int .i64 0, .int .i64 0, .int .i64 0, .slice none 0 0, .int .i64 0, .int .i64 0, .int .i64 0, .int .i64 0, .slice none 0 0, .int .i64 0, .int .i64 0, .int .i64 0, .int .i64 0, .slice none 0 0] 27)).setRow w5.heap.size A2 := ⟨_, rfl⟩
  have B6 : Below w.heap.size w W6 := by rw [hW6]; exact below_row (below_alloc B3 _) B3.size _
  have b6 : Blk W6 w2.heap.size 27 A1 := by rw [hW6]; exact (b3.alloc _).but (But.setRow _) (Nat.ne_of_lt b3.lt)
  have c6 : Blk W6 w5.heap.size 27 A2 := by rw [hW6]; exact (Blk.fresh w5 27 #[.int .i64 0, .int .i64 0, .int .i64 0, .int .i64 0, .slice none 0 0, .int .i64 0, .int .i64 0, .int .i64 0, .int .i64 0, .slice none 0 0, .int .i64 0, .int .i64 0, .int .i64 0, .int .i64 0, .slice none 0 0, .int .i64 0, .int .i64 0, .int .i64 0, .int .i64 0, .slice none 0 0]).row A2
  have x6 : QBox W6 w.heap.size ⟨a, b, c, d⟩ (.slice s l.length m) := by rw [hW6]; exact (x3.alloc _).but (But.setRow _) (Nat.ne_of_lt x3.lt)
  have hh6 : ∀ o, o < 4 → HoldsI W6 (s1 o) (D o) := fun o ho => by rw [hW6]; exact holds_rowed (hh3 o ho) _ _
  have hk6 : ∀ o, o < 4 → HoldsI W6 (s2 o) (D' o) := fun o ho => by rw [hW6]; exact holds_rowed (hh2 o ho) _ _
  have hlt25 : Hid (w2.heap.size < w5.heap.size) := b3.lt
  rw [← hW6]
  clear hW6 B3 b3 hAo x3 hh3 hh2 H20 HI hn hh hp
  obtain ⟨y0, y1, y2, y3, y4⟩ := x6.open
  have u1 : IntKind.i64.wrap (c - a) = c - a := IntWalk.i64_in _ (by omega)
  have u2 : IntKind.i64.wrap (d - b) = d - b := IntWalk.i64_in _ (by omega)
  have u3 : IntKind.i64.wrap (a.tmod 2) = a.tmod 2 := IntWalk.i64_in _ (by rw [Int.tmod_eq_emod_of_nonneg vb.1]; omega)
  have u4 : IntKind.i64.wrap (b.tmod 2) = b.tmod 2 := IntWalk.i64_in _ (by rw [Int.tmod_eq_emod_of_nonneg vb.2.2.1]; omega)
  have a0 : W6.cell? ⟨w2.heap.size, 10, none⟩ = some (.int .i64 (R 2).x0) := b6.cell 10 _ (by rw [Hb1.out]; rfl)
  have a1 : W6.cell? ⟨w2.heap.size, 11, none⟩ = some (.int .i64 (R 2).y0) := b6.cell 11 _ (by rw [Hb1.out]; rfl)
  have a2 : W6.cell? ⟨w2.heap.size, 12, none⟩ = some (.int .i64 (R 2).x1) := b6.cell 12 _ (by rw [Hb1.out]; rfl)
  have a3 : W6.cell? ⟨w2.heap.size, 13, none⟩ = some (.int .i64 (R 2).y1) := b6.cell 13 _ (by rw [Hb1.out]; rfl)
  have a4 : W6.cell? ⟨w2.heap.size, 14, none⟩ = some (.slice (s1 2) (D 2).length (m1 2)) := b6.cell 14 _ (by rw [Hb1.out]; rfl)
  clear vb
  go_wp2_with fail
  refine (mv5_c (R 2).x0 (R 2).y0 (R 2).x1 (R 2).y1 y (s1 2) (m1 2) (D 2) _ (hLen.out 2 (by decide)) (hh6 2 (by decide)) hAll.out).mono ?_
  rintro e w7 ⟨g7, rfl, row7, hb, hg7⟩
  have b7 := b6.below hb
  have c7 := c6.below hb
  have hh7 := fun o (ho : o < 4) => (hh6 o ho).call hb
  have hk7 := fun o (ho : o < 4) => (hk6 o ho).call hb
  have B7 := below_call B6 hb
  have hg25 : Hid (w2.heap.size < g7) := by have := b6.lt; show _ < _; omega
  clear y0 y1 y2 y3 y4 a0 a1 a2 a3 a4 b6 c6 x6 hh6 hk6 B6 hb
  have a0 : w7.cell? ⟨w2.heap.size, 10, none⟩ = some (.int .i64 (R 2).x0) := b7.cell 10 _ (by rw [Hb1.out]; rfl)
  have a1 : w7.cell? ⟨w2.heap.size, 11, none⟩ = some (.int .i64 (R 2).y0) := b7.cell 11 _ (by rw [Hb1.out]; rfl)
  have a2 : w7.cell? ⟨w2.heap.size, 12, none⟩ = some (.int .i64 (R 2).x1) := b7.cell 12 _ (by rw [Hb1.out]; rfl)
  have a3 : w7.cell? ⟨w2.heap.size, 13, none⟩ = some (.int .i64 (R 2).y1) := b7.cell 13 _ (by rw [Hb1.out]; rfl)
  have a4 : w7.cell? ⟨w2.heap.size, 14, none⟩ = some (.slice (s1 2) (D 2).length (m1 2)) := b7.cell 14 _ (by rw [Hb1.out]; rfl)
  have gf : ∀ j, w7.frozen? ⟨w2.heap.size, j, none⟩ = false := b7.free
  go_upto_region 15 with fail
  obtain ⟨W8, hW8⟩ : ∃ W8, W8 = (((((w7.setCell ⟨w2.heap.size, 10, none⟩ (.int .i64 (R 2).x0)).setCell ⟨w2.heap.size, 11, none⟩ (.int .i64 (R 2).y0)).setCell ⟨w2.heap.size, 12, none⟩ (.int .i64 (R 2).x1)).setCell ⟨w2.heap.size, 13, none⟩ (.int .i64 (R 2).y1)).setCell ⟨w2.heap.size, 14, none⟩ (.slice (some ⟨g7, 0, none⟩) (Ex.addL y (D 2)).length (Ex.addL y (D 2)).length)) := ⟨_, rfl⟩
  obtain ⟨s3, hs3⟩ : ∃ s3 : Nat → Option Addr, s3 = fun i => if i = 2 then some ⟨g7, 0, none⟩ else s1 i := ⟨_, rfl⟩
  obtain ⟨m3, hm3⟩ : ∃ m3 : Nat → Nat, m3 = fun i => if i = 2 then (Ex.addL y (D 2)).length else m1 i := ⟨_, rfl⟩
  obtain ⟨A3, hA3⟩ : ∃ A3, A3 = arrP R (fun i => .slice (s3 i) (D' i).length (m3 i)) := ⟨_, rfl⟩
  have b8 : Blk W8 w2.heap.size 27 A3 := by
    rw [hW8, hA3]
    have h := b7
    rw [Hb1.out] at h
    have h2 := blkP_all h 2 (by decide) (.slice (some ⟨g7, 0, none⟩) (Ex.addL y (D 2)).length (Ex.addL y (D 2)).length)
    rw [arrP_cong (V' := fun i => .slice (s3 i) (D' i).length (m3 i))] at h2
    · exact h2
    · intro i hi
      show (if i = 2 then _ else _) = _
      rw [HD1.out i hi, hs3, hm3]
      by_cases hq : i = 2
      · subst hq; simp
      · simp [hq]
  have c8 : Blk W8 w5.heap.size 27 A2 := by
    have hn : w5.heap.size ≠ w2.heap.size := Nat.ne_of_gt hlt25.out
    rw [hW8]
    exact ((((c7.far _ _ hn).far _ _ hn).far _ _ hn).far _ _ hn).far _ _ hn
  have hh8 : ∀ o, o < 4 → HoldsI W8 (s3 o) (D' o) := fun i hi => by
    rw [HD1.out i hi, hs3, hW8]
    by_cases hq : i = 2
    · subst hq
      have hn : g7 ≠ w2.heap.size := Nat.ne_of_gt hg25.out
      simp only [if_pos]
      exact (((((row7.far _ _ hn).far _ _ hn).far _ _ hn).far _ _ hn).far _ _ hn).holds
    · simp only [if_neg hq]
      have h0 := HF1.out i hi
      exact holds_cellW (holds_cellW (holds_cellW (holds_cellW (holds_cellW (hh7 i hi) h0 _ _) h0 _ _) h0 _ _) h0 _ _) h0 _ _
  have hk8 : ∀ o, o < 4 → HoldsI W8 (s2 o) (D' o) := fun i hi => by
    have h0 := HF2.out i hi
    have hB := hlt24.out
    rw [hW8]
    exact (((((hk7 i hi).farW h0 hB _).farW h0 hB _).farW h0 hB _).farW h0 hB _).farW h0 hB _
  have hw2 : w.heap.size ≤ w2.heap.size := h20
  have B8 : Below w.heap.size w W8 := by
    rw [hW8]
    exact ((((B7.setCell hw2 _).setCell hw2 _).setCell hw2 _).setCell hw2 _).setCell hw2 _
  have S8 : Sp w w2.heap.size w5.heap.size A3 A2 s3 s2 D' W8 := ⟨B8, b8, c8, hh8, hk8⟩
  have hD : ∀ j, j < 4 → (D' j).length ≤ 140737488351232 := fun j hj => by
    have := hLen.out j hj
    rw [HD1.out j hj]
    split
    · rename_i hq; subst hq; rw [Ex.addL_len]; omega
    · omega
  clear Hb1
  have Hb1 : Hid _ := hA3
  rw [← hW8]
  clear hW8 hA3 hs3 hm3 b8 c8 hh8 hk8 B8 b7 c7 hh7 hk7 B7 row7 hg7 hg25 hlt25 hlt24 HF1 HF2 a0 a1 a2 a3 a4 gf HD1 HD0 hAll hLen u1 u2 u3 u4 q1 q2 q2'
  go_upto_region 16 with fail
  go_loopw [88] (fun i wr => ∃ j : Nat, j ≤ 4 ∧ i = .int .i64 (j : Int) ∧ Sp w w2.heap.size w5.heap.size A3 A2 s3 s2 D' wr) (fun i _ => 4 - (intOf i).toNat)
  case atStart => exact ⟨0, by decide, rfl, S8⟩
  case round =>
    obtain ⟨j, hj, hi, hS⟩ := hrel
    clear S8
    by_cases hlt : j < 4
    · have hst := Fam.next (I := Sp w w2.heap.size w5.heap.size A3 A2 s3 s2 D') (fun _ _ p q => p.step q)
      have hne : Nonempty (Fam (Sp w w2.heap.size w5.heap.size A3 A2 s3 s2 D')) := ⟨⟨_, hS⟩⟩
      rcases lt4 hlt with rfl | rfl | rfl | rfl
      · replace hi : _ = Value.int .i64 0 := hi; subst hi
        have p0 : ∀ X : Fam (Sp w w2.heap.size w5.heap.size A3 A2 s3 s2 D'), X.W.cell? ⟨w2.heap.size, 0, none⟩ = some (.int .i64 (R 0).x0) := fun X => X.ok.b1.cell 0 _ (by rw [Hb1.out]; rfl)
        have p1 : ∀ X : Fam (Sp w w2.heap.size w5.heap.size A3 A2 s3 s2 D'), X.W.cell? ⟨w2.heap.size, 1, none⟩ = some (.int .i64 (R 0).y0) := fun X => X.ok.b1.cell 1 _ (by rw [Hb1.out]; rfl)
        have p2 : ∀ X : Fam (Sp w w2.heap.size w5.heap.size A3 A2 s3 s2 D'), X.W.cell? ⟨w2.heap.size, 2, none⟩ = some (.int .i64 (R 0).x1) := fun X => X.ok.b1.cell 2 _ (by rw [Hb1.out]; rfl)
        have p3 : ∀ X : Fam (Sp w w2.heap.size w5.heap.size A3 A2 s3 s2 D'), X.W.cell? ⟨w2.heap.size, 3, none⟩ = some (.int .i64 (R 0).y1) := fun X => X.ok.b1.cell 3 _ (by rw [Hb1.out]; rfl)
        have p4 : ∀ X : Fam (Sp w w2.heap.size w5.heap.size A3 A2 s3 s2 D'), X.W.cell? ⟨w2.heap.size, 4, none⟩ = some (.slice (s3 0) (D' 0).length (m3 0)) := fun X => X.ok.b1.cell 4 _ (by rw [Hb1.out]; rfl)
        have q0 : ∀ X : Fam (Sp w w2.heap.size w5.heap.size A3 A2 s3 s2 D'), X.W.cell? ⟨w5.heap.size, 0, none⟩ = some (.int .i64 (R 0).x0) := fun X => X.ok.b2.cell 0 _ (by rw [Hb2.out]; rfl)
        have q1 : ∀ X : Fam (Sp w w2.heap.size w5.heap.size A3 A2 s3 s2 D'), X.W.cell? ⟨w5.heap.size, 1, none⟩ = some (.int .i64 (R 0).y0) := fun X => X.ok.b2.cell 1 _ (by rw [Hb2.out]; rfl)
        have q2 : ∀ X : Fam (Sp w w2.heap.size w5.heap.size A3 A2 s3 s2 D'), X.W.cell? ⟨w5.heap.size, 2, none⟩ = some (.int .i64 (R 0).x1) := fun X => X.ok.b2.cell 2 _ (by rw [Hb2.out]; rfl)
        have q3 : ∀ X : Fam (Sp w w2.heap.size w5.heap.size A3 A2 s3 s2 D'), X.W.cell? ⟨w5.heap.size, 3, none⟩ = some (.int .i64 (R 0).y1) := fun X => X.ok.b2.cell 3 _ (by rw [Hb2.out]; rfl)
        have q4 : ∀ X : Fam (Sp w w2.heap.size w5.heap.size A3 A2 s3 s2 D'), X.W.cell? ⟨w5.heap.size, 4, none⟩ = some (.slice (s2 0) (D' 0).length (m2 0)) := fun X => X.ok.b2.cell 4 _ (by rw [Hb2.out]; rfl)
        have cS : ∀ X : Fam (Sp w w2.heap.size w5.heap.size A3 A2 s3 s2 D'), Calls Try.prog 19 #[.agg #[.int .i64 (R 0).x0, .int .i64 (R 0).y0, .int .i64 (R 0).x1, .int .i64 (R 0).y1, .slice (s3 0) (D' 0).length (m3 0)], .agg #[.int .i64 (R 0).x0, .int .i64 (R 0).y0, .int .i64 (R 0).x1, .int .i64 (R 0).y1, .slice (s2 0) (D' 0).length (m2 0)]] X.W fun e w' => e = .returned (.bool true) ∧ Below X.W.heap.size X.W w' := fun X => same5_eq (R 0).x0 (R 0).y0 (R 0).x1 (R 0).y1 (s3 0) (s2 0) (m3 0) (m2 0) (D' 0) X.W (hD 0 (by decide)) (X.ok.h1 0 (by decide)) (X.ok.h2 0 (by decide))
        go_upto_region 18 with fail
        refine wp_region_in (fun X : Fam (Sp w w2.heap.size w5.heap.size A3 A2 s3 s2 D') => X.W) (by kernel_rfl) (by kernel_rfl) ⟨⟨_, hS.step (Below.refl _ _).drew⟩, rfl⟩ ?_
        repeat (first | go_big_quiet_step ((first | (go_at_call 19; exact call_in (cS _) (hst _)))) | quiet_step ((first | (go_at_call 19; exact call_in (cS _) (hst _)))))
        refine wpQuiet_nil ?_
        intro w9 hw'
        obtain ⟨⟨_, hS9⟩, hw''⟩ := hw'
        subst hw''
        clear cS p0 p1 p2 p3 p4 q0 q1 q2 q3 q4 hst hne
        have HS : Hid _ := hS9
        clear hS hS9
        go_wp2
        go_roundw
        case rel => exact ⟨1, by decide, (by first | rfl | go_num), HS.out⟩
        case measure => first | decide | (simp [intOf]; done) | (simp [intOf]; omega)
      · replace hi : _ = Value.int .i64 1 := hi; subst hi
        have p0 : ∀ X : Fam (Sp w w2.heap.size w5.heap.size A3 A2 s3 s2 D'), X.W.cell? ⟨w2.heap.size, 5, none⟩ = some (.int .i64 (R 1).x0) := fun X => X.ok.b1.cell 5 _ (by rw [Hb1.out]; rfl)
        have p1 : ∀ X : Fam (Sp w w2.heap.size w5.heap.size A3 A2 s3 s2 D'), X.W.cell? ⟨w2.heap.size, 6, none⟩ = some (.int .i64 (R 1).y0) := fun X => X.ok.b1.cell 6 _ (by rw [Hb1.out]; rfl)
        have p2 : ∀ X : Fam (Sp w w2.heap.size w5.heap.size A3 A2 s3 s2 D'), X.W.cell? ⟨w2.heap.size, 7, none⟩ = some (.int .i64 (R 1).x1) := fun X => X.ok.b1.cell 7 _ (by rw [Hb1.out]; rfl)
        have p3 : ∀ X : Fam (Sp w w2.heap.size w5.heap.size A3 A2 s3 s2 D'), X.W.cell? ⟨w2.heap.size, 8, none⟩ = some (.int .i64 (R 1).y1) := fun X => X.ok.b1.cell 8 _ (by rw [Hb1.out]; rfl)
        have p4 : ∀ X : Fam (Sp w w2.heap.size w5.heap.size A3 A2 s3 s2 D'), X.W.cell? ⟨w2.heap.size, 9, none⟩ = some (.slice (s3 1) (D' 1).length (m3 1)) := fun X => X.ok.b1.cell 9 _ (by rw [Hb1.out]; rfl)
        have q0 : ∀ X : Fam (Sp w w2.heap.size w5.heap.size A3 A2 s3 s2 D'), X.W.cell? ⟨w5.heap.size, 5, none⟩ = some (.int .i64 (R 1).x0) := fun X => X.ok.b2.cell 5 _ (by rw [Hb2.out]; rfl)
        have q1 : ∀ X : Fam (Sp w w2.heap.size w5.heap.size A3 A2 s3 s2 D'), X.W.cell? ⟨w5.heap.size, 6, none⟩ = some (.int .i64 (R 1).y0) := fun X => X.ok.b2.cell 6 _ (by rw [Hb2.out]; rfl)
        have q2 : ∀ X : Fam (Sp w w2.heap.size w5.heap.size A3 A2 s3 s2 D'), X.W.cell? ⟨w5.heap.size, 7, none⟩ = some (.int .i64 (R 1).x1) := fun X => X.ok.b2.cell 7 _ (by rw [Hb2.out]; rfl)
        have q3 : ∀ X : Fam (Sp w w2.heap.size w5.heap.size A3 A2 s3 s2 D'), X.W.cell? ⟨w5.heap.size, 8, none⟩ = some (.int .i64 (R 1).y1) := fun X => X.ok.b2.cell 8 _ (by rw [Hb2.out]; rfl)
        have q4 : ∀ X : Fam (Sp w w2.heap.size w5.heap.size A3 A2 s3 s2 D'), X.W.cell? ⟨w5.heap.size, 9, none⟩ = some (.slice (s2 1) (D' 1).length (m2 1)) := fun X => X.ok.b2.cell 9 _ (by rw [Hb2.out]; rfl)
        have cS : ∀ X : Fam (Sp w w2.heap.size w5.heap.size A3 A2 s3 s2 D'), Calls Try.prog 19 #[.agg #[.int .i64 (R 1).x0, .int .i64 (R 1).y0, .int .i64 (R 1).x1, .int .i64 (R 1).y1, .slice (s3 1) (D' 1).length (m3 1)], .agg #[.int .i64 (R 1).x0, .int .i64 (R 1).y0, .int .i64 (R 1).x1, .int .i64 (R 1).y1, .slice (s2 1) (D' 1).length (m2 1)]] X.W fun e w' => e = .returned (.bool true) ∧ Below X.W.heap.size X.W w' := fun X => same5_eq (R 1).x0 (R 1).y0 (R 1).x1 (R 1).y1 (s3 1) (s2 1) (m3 1) (m2 1) (D' 1) X.W (hD 1 (by decide)) (X.ok.h1 1 (by decide)) (X.ok.h2 1 (by decide))
        go_upto_region 18 with fail
        refine wp_region_in (fun X : Fam (Sp w w2.heap.size w5.heap.size A3 A2 s3 s2 D') => X.W) (by kernel_rfl) (by kernel_rfl) ⟨⟨_, hS.step (Below.refl _ _).drew⟩, rfl⟩ ?_
        repeat (first | go_big_quiet_step ((first | (go_at_call 19; exact call_in (cS _) (hst _)))) | quiet_step ((first | (go_at_call 19; exact call_in (cS _) (hst _)))))
        refine wpQuiet_nil ?_
        intro w9 hw'
        obtain ⟨⟨_, hS9⟩, hw''⟩ := hw'
        subst hw''
        clear cS p0 p1 p2 p3 p4 q0 q1 q2 q3 q4 hst hne
        have HS : Hid _ := hS9
        clear hS hS9
        go_wp2
        go_roundw
        case rel => exact ⟨2, by decide, (by first | rfl | go_num), HS.out⟩
        case measure => first | decide | (simp [intOf]; done) | (simp [intOf]; omega)
      · replace hi : _ = Value.int .i64 2 := hi; subst hi
        have p0 : ∀ X : Fam (Sp w w2.heap.size w5.heap.size A3 A2 s3 s2 D'), X.W.cell? ⟨w2.heap.size, 10, none⟩ = some (.int .i64 (R 2).x0) := fun X => X.ok.b1.cell 10 _ (by rw [Hb1.out]; rfl)
        have p1 : ∀ X : Fam (Sp w w2.heap.size w5.heap.size A3 A2 s3 s2 D'), X.W.cell? ⟨w2.heap.size, 11, none⟩ = some (.int .i64 (R 2).y0) := fun X => X.ok.b1.cell 11 _ (by rw [Hb1.out]; rfl)
        have p2 : ∀ X : Fam (Sp w w2.heap.size w5.heap.size A3 A2 s3 s2 D'), X.W.cell? ⟨w2.heap.size, 12, none⟩ = some (.int .i64 (R 2).x1) := fun X => X.ok.b1.cell 12 _ (by rw [Hb1.out]; rfl)
        have p3 : ∀ X : Fam (Sp w w2.heap.size w5.heap.size A3 A2 s3 s2 D'), X.W.cell? ⟨w2.heap.size, 13, none⟩ = some (.int .i64 (R 2).y1) := fun X => X.ok.b1.cell 13 _ (by rw [Hb1.out]; rfl)
        have p4 : ∀ X : Fam (Sp w w2.heap.size w5.heap.size A3 A2 s3 s2 D'), X.W.cell? ⟨w2.heap.size, 14, none⟩ = some (.slice (s3 2) (D' 2).length (m3 2)) := fun X => X.ok.b1.cell 14 _ (by rw [Hb1.out]; rfl)
        have q0 : ∀ X : Fam (Sp w w2.heap.size w5.heap.size A3 A2 s3 s2 D'), X.W.cell? ⟨w5.heap.size, 10, none⟩ = some (.int .i64 (R 2).x0) := fun X => X.ok.b2.cell 10 _ (by rw [Hb2.out]; rfl)
        have q1 : ∀ X : Fam (Sp w w2.heap.size w5.heap.size A3 A2 s3 s2 D'), X.W.cell? ⟨w5.heap.size, 11, none⟩ = some (.int .i64 (R 2).y0) := fun X => X.ok.b2.cell 11 _ (by rw [Hb2.out]; rfl)
        have q2 : ∀ X : Fam (Sp w w2.heap.size w5.heap.size A3 A2 s3 s2 D'), X.W.cell? ⟨w5.heap.size, 12, none⟩ = some (.int .i64 (R 2).x1) := fun X => X.ok.b2.cell 12 _ (by rw [Hb2.out]; rfl)
        have q3 : ∀ X : Fam (Sp w w2.heap.size w5.heap.size A3 A2 s3 s2 D'), X.W.cell? ⟨w5.heap.size, 13, none⟩ = some (.int .i64 (R 2).y1) := fun X => X.ok.b2.cell 13 _ (by rw [Hb2.out]; rfl)
        have q4 : ∀ X : Fam (Sp w w2.heap.size w5.heap.size A3 A2 s3 s2 D'), X.W.cell? ⟨w5.heap.size, 14, none⟩ = some (.slice (s2 2) (D' 2).length (m2 2)) := fun X => X.ok.b2.cell 14 _ (by rw [Hb2.out]; rfl)
        have cS : ∀ X : Fam (Sp w w2.heap.size w5.heap.size A3 A2 s3 s2 D'), Calls Try.prog 19 #[.agg #[.int .i64 (R 2).x0, .int .i64 (R 2).y0, .int .i64 (R 2).x1, .int .i64 (R 2).y1, .slice (s3 2) (D' 2).length (m3 2)], .agg #[.int .i64 (R 2).x0, .int .i64 (R 2).y0, .int .i64 (R 2).x1, .int .i64 (R 2).y1, .slice (s2 2) (D' 2).length (m2 2)]] X.W fun e w' => e = .returned (.bool true) ∧ Below X.W.heap.size X.W w' := fun X => same5_eq (R 2).x0 (R 2).y0 (R 2).x1 (R 2).y1 (s3 2) (s2 2) (m3 2) (m2 2) (D' 2) X.W (hD 2 (by decide)) (X.ok.h1 2 (by decide)) (X.ok.h2 2 (by decide))
        go_upto_region 18 with fail
        refine wp_region_in (fun X : Fam (Sp w w2.heap.size w5.heap.size A3 A2 s3 s2 D') => X.W) (by kernel_rfl) (by kernel_rfl) ⟨⟨_, hS.step (Below.refl _ _).drew⟩, rfl⟩ ?_
        repeat (first | go_big_quiet_step ((first | (go_at_call 19; exact call_in (cS _) (hst _)))) | quiet_step ((first | (go_at_call 19; exact call_in (cS _) (hst _)))))
        refine wpQuiet_nil ?_
        intro w9 hw'
        obtain ⟨⟨_, hS9⟩, hw''⟩ := hw'
        subst hw''
        clear cS p0 p1 p2 p3 p4 q0 q1 q2 q3 q4 hst hne
        have HS : Hid _ := hS9
        clear hS hS9
        go_wp2
        go_roundw
        case rel => exact ⟨3, by decide, (by first | rfl | go_num), HS.out⟩
        case measure => first | decide | (simp [intOf]; done) | (simp [intOf]; omega)
      · replace hi : _ = Value.int .i64 3 := hi; subst hi
        have p0 : ∀ X : Fam (Sp w w2.heap.size w5.heap.size A3 A2 s3 s2 D'), X.W.cell? ⟨w2.heap.size, 15, none⟩ = some (.int .i64 (R 3).x0) := fun X => X.ok.b1.cell 15 _ (by rw [Hb1.out]; rfl)
        have p1 : ∀ X : Fam (Sp w w2.heap.size w5.heap.size A3 A2 s3 s2 D'), X.W.cell? ⟨w2.heap.size, 16, none⟩ = some (.int .i64 (R 3).y0) := fun X => X.ok.b1.cell 16 _ (by rw [Hb1.out]; rfl)
        have p2 : ∀ X : Fam (Sp w w2.heap.size w5.heap.size A3 A2 s3 s2 D'), X.W.cell? ⟨w2.heap.size, 17, none⟩ = some (.int .i64 (R 3).x1) := fun X => X.ok.b1.cell 17 _ (by rw [Hb1.out]; rfl)
        have p3 : ∀ X : Fam (Sp w w2.heap.size w5.heap.size A3 A2 s3 s2 D'), X.W.cell? ⟨w2.heap.size, 18, none⟩ = some (.int .i64 (R 3).y1) := fun X => X.ok.b1.cell 18 _ (by rw [Hb1.out]; rfl)
        have p4 : ∀ X : Fam (Sp w w2.heap.size w5.heap.size A3 A2 s3 s2 D'), X.W.cell? ⟨w2.heap.size, 19, none⟩ = some (.slice (s3 3) (D' 3).length (m3 3)) := fun X => X.ok.b1.cell 19 _ (by rw [Hb1.out]; rfl)
        have q0 : ∀ X : Fam (Sp w w2.heap.size w5.heap.size A3 A2 s3 s2 D'), X.W.cell? ⟨w5.heap.size, 15, none⟩ = some (.int .i64 (R 3).x0) := fun X => X.ok.b2.cell 15 _ (by rw [Hb2.out]; rfl)
        have q1 : ∀ X : Fam (Sp w w2.heap.size w5.heap.size A3 A2 s3 s2 D'), X.W.cell? ⟨w5.heap.size, 16, none⟩ = some (.int .i64 (R 3).y0) := fun X => X.ok.b2.cell 16 _ (by rw [Hb2.out]; rfl)
        have q2 : ∀ X : Fam (Sp w w2.heap.size w5.heap.size A3 A2 s3 s2 D'), X.W.cell? ⟨w5.heap.size, 17, none⟩ = some (.int .i64 (R 3).x1) := fun X => X.ok.b2.cell 17 _ (by rw [Hb2.out]; rfl)
        have q3 : ∀ X : Fam (Sp w w2.heap.size w5.heap.size A3 A2 s3 s2 D'), X.W.cell? ⟨w5.heap.size, 18, none⟩ = some (.int .i64 (R 3).y1) := fun X => X.ok.b2.cell 18 _ (by rw [Hb2.out]; rfl)
        have q4 : ∀ X : Fam (Sp w w2.heap.size w5.heap.size A3 A2 s3 s2 D'), X.W.cell? ⟨w5.heap.size, 19, none⟩ = some (.slice (s2 3) (D' 3).length (m2 3)) := fun X => X.ok.b2.cell 19 _ (by rw [Hb2.out]; rfl)
        have cS : ∀ X : Fam (Sp w w2.heap.size w5.heap.size A3 A2 s3 s2 D'), Calls Try.prog 19 #[.agg #[.int .i64 (R 3).x0, .int .i64 (R 3).y0, .int .i64 (R 3).x1, .int .i64 (R 3).y1, .slice (s3 3) (D' 3).length (m3 3)], .agg #[.int .i64 (R 3).x0, .int .i64 (R 3).y0, .int .i64 (R 3).x1, .int .i64 (R 3).y1, .slice (s2 3) (D' 3).length (m2 3)]] X.W fun e w' => e = .returned (.bool true) ∧ Below X.W.heap.size X.W w' := fun X => same5_eq (R 3).x0 (R 3).y0 (R 3).x1 (R 3).y1 (s3 3) (s2 3) (m3 3) (m2 3) (D' 3) X.W (hD 3 (by decide)) (X.ok.h1 3 (by decide)) (X.ok.h2 3 (by decide))
        go_upto_region 18 with fail
        refine wp_region_in (fun X : Fam (Sp w w2.heap.size w5.heap.size A3 A2 s3 s2 D') => X.W) (by kernel_rfl) (by kernel_rfl) ⟨⟨_, hS.step (Below.refl _ _).drew⟩, rfl⟩ ?_
        repeat (first | go_big_quiet_step ((first | (go_at_call 19; exact call_in (cS _) (hst _)))) | quiet_step ((first | (go_at_call 19; exact call_in (cS _) (hst _)))))
        refine wpQuiet_nil ?_
        intro w9 hw'
        obtain ⟨⟨_, hS9⟩, hw''⟩ := hw'
        subst hw''
        clear cS p0 p1 p2 p3 p4 q0 q1 q2 q3 q4 hst hne
        have HS : Hid _ := hS9
        clear hS hS9
        go_wp2
        go_roundw
        case rel => exact ⟨4, by decide, (by first | rfl | go_num), HS.out⟩
        case measure => first | decide | (simp [intOf]; done) | (simp [intOf]; omega)
    · obtain rfl : j = 4 := by omega
      replace hi : _ = Value.int .i64 4 := hi; subst hi
      have HB : Hid _ := hS.below
      clear hS
      go_wp2_with (first | (go_at_call 16; (with_reducible refine (awake_c _).mono ?_); rintro e w9 ⟨rfl, hb9⟩))
      go_ret
      exact ⟨rfl, below_call HB.out hb9⟩
set_option maxRecDepth 100000 in
set_option maxHeartbeats 8000000 in
theorem mainTFF (a b c d y kn : Int) (s : Option Addr) (l : List Int) (m : Nat) (w : World) (hm : l.length ≤ m) (hH : HoldsI w s l) (hf : l.length ≤ 4000) (hy0 : y ≤ 281474976710656) (hy : -281474976710656 ≤ y) (n h : Nat) (hp : pvB a b c d l.length = true) (hk : kB kn = true) (hfw : fewB l 35184372088832 = true) (hn : c - a = (n : Int)) (hh : d - b = (h : Int)) (hf2 : fewB (Ex.addL y l) 35184372088832 = true)
    (q1 : (c - a == 1) = true) (q1' : (a.tmod 2 == 1) = false) (q2 : (d - b == 1) = false) (ho : offB a b n h = 0) (hall : ∀ o, o < 4 → ∀ v ∈ (bandQ a b kn n (Ex.cutR n l h) o).flatten, IntKind.i64.wrap (v + y) = v + y) (hlen : ∀ o, o < 4 → (bandQ a b kn n (Ex.cutR n l h) o).flatten.length ≤ 1048576) (hl2 : l.length = h * n) (vb : 0 ≤ a ∧ a ≤ 4096 ∧ 0 ≤ b ∧ b ≤ 4096 ∧ 0 ≤ c ∧ c ≤ 4096 ∧ 0 ≤ d ∧ d ≤ 4096) : Calls Try.prog 4 #[.agg #[.int .i64 a, .int .i64 b, .int .i64 c, .int .i64 d, .slice s l.length m], .int .i64 y, .int .i64 kn] w fun e w' => e = .returned (.bool true) ∧ Below w.heap.size w w' := by
  have HL2 : Hid _ := hl2
  clear hl2
  have x0 := QBox.fresh w a b c d s l.length m 26
  have B0 := below_alloc (Below.refl _ w) (.cells #[.int .i64 a, .int .i64 b, .int .i64 c, .int .i64 d, .slice s l.length m] 26)
  go_enter Try.func4, Try.ntmps4
  go_wp2_with fail
  refine (few5_c ⟨a, b, c, d⟩ s l.length m _).mono ?_
  rintro e w1 ⟨rfl, hb⟩
  replace x0 := x0.below hb
  replace B0 := below_call B0 hb
  have H1 := hH.below B0 (Nat.le_refl _)
  clear hb hH
  have gf : decide (l.length ≤ 4000) = true := decide_eq_true hf
  rw [gf]
  obtain ⟨y0, y1, y2, y3, y4⟩ := x0.open
  have cS := fun w hH => splitc_yes a b c d kn l s m n h w hp hk hfw hm hH hn hh
  have hin : ∀ v ∈ l, IntKind.i64.wrap (v + y) = v + y := fun v hv => by
    have := few_iff.1 hfw v hv
    exact IntWalk.i64_in _ (by omega)
  have hl1 : l.length ≤ 1048576 := by omega
  clear gf
  go_wp2_with fail
  refine (cS _ H1).mono ?_
  clear cS
  rintro e w2 ⟨s1, m1, rfl, hh1, hb⟩
  replace x0 := x0.below hb
  replace B0 := below_call B0 hb
  replace H1 := H1.call hb
  obtain ⟨D, hD0⟩ : ∃ D : Nat → List Int, D = fun o => (bandQ a b kn n (Ex.cutR n l h) o).flatten := ⟨_, rfl⟩
  have HD0 : Hid _ := hD0
  obtain ⟨R, hR0⟩ : ∃ R : Nat → Pl.R, R = bnds ⟨a, b, c, d⟩ := ⟨_, rfl⟩
  have HR0 : Hid _ := hR0
  obtain ⟨A1, hA1⟩ : ∃ A1, A1 = arrP R (fun o => .slice (s1 o) (D o).length (m1 o)) := ⟨_, rfl⟩
  have hA1' := hA1
  rw [hD0, hR0] at hA1'
  rw [← hA1']
  replace hh1 : ∀ o, o < 4 → HoldsI w2 (s1 o) (D o) := fun o ho => by rw [hD0]; exact (hh1 o ho).1
  have HF1 : Hid (∀ o, o < 4 → HoldsI w2 (s1 o) (D o)) := hh1
  have Hb1 : Hid _ := hA1
  have H20 : Hid (20 = A1.size) := by rw [hA1]; rfl
  have HI : Hid ((Try.prog.info? 27).map (·.size) = some A1.size) := by rw [hA1]; exact info20
  have hAo : A1.all (·.oneCell') = true := by rw [hA1]; simp [arrP_get, Value.oneCell']
  clear hA1 hA1' hb y0 y1 y2 y3 y4 hD0 hR0
  go_upto_region 4 with (first | (refine wpList_store_row rfl 27 (.tmp 7) (.tmp 29) rfl w2.heap.size A1 rfl rfl 27 _ (Blk.fresh w2 27 #[.int .i64 0, .int .i64 0, .int .i64 0, .int .i64 0, .slice none 0 0, .int .i64 0, .int .i64 0, .int .i64 0, .int .i64 0, .slice none 0 0, .int .i64 0, .int .i64 0, .int .i64 0, .int .i64 0, .slice none 0 0, .int .i64 0, .int .i64 0, .int .i64 0, .int .i64 0, .slice none 0 0]) HI.out H20.out hAo ?_))
  obtain ⟨W3, hW3⟩ : ∃ W3, W3 = (w2.alloc (.cells #[.int .i64 0, .int .i64 0, .int .i64 0, .int .i64 0, .slice none 0 0, .int .i64 0, .int .i64 0, .int .i64 0, .int .i64 0, .slice none 0 0, .int .i64 0, .int .i64 0, .int .i64 0, .int .i64 0, .slice none 0 0, .int .i64 0, .int .i64 0, .int .i64 0, .int .i64 0, .slice none 0 0] 27)).setRow w2.heap.size A1 := ⟨_, rfl⟩
  have B3 : Below w.heap.size w W3 := by rw [hW3]; exact below_row (below_alloc B0 _) B0.size _
  have b3 : Blk W3 w2.heap.size 27 A1 := by rw [hW3]; exact (Blk.fresh w2 27 #[.int .i64 0, .int .i64 0, .int .i64 0, .int .i64 0, .slice none 0 0, .int .i64 0, .int .i64 0, .int .i64 0, .int .i64 0, .slice none 0 0, .int .i64 0, .int .i64 0, .int .i64 0, .int .i64 0, .slice none 0 0, .int .i64 0, .int .i64 0, .int .i64 0, .int .i64 0, .slice none 0 0]).row A1
  have x3 : QBox W3 w.heap.size ⟨a, b, c, d⟩ (.slice s l.length m) := by rw [hW3]; exact (x0.alloc _).but (But.setRow _) (Nat.ne_of_lt x0.lt)
  have H3 : HoldsI W3 s l := by rw [hW3]; exact holds_rowed H1 _ _
  have hh3 : ∀ o, o < 4 → HoldsI W3 (s1 o) (D o) := fun o ho => by rw [hW3]; exact holds_rowed (hh1 o ho) _ _
  have h20 : w.heap.size ≤ w2.heap.size := B0.size
  rw [← hW3]
  clear hW3 B0 hAo x0 H1 hh1 H20 HI
  obtain ⟨y0, y1, y2, y3, y4⟩ := x3.open
  go_wp2_with fail
  refine (mv5_c a b c d y s m l _ hl1 H3 hin).mono ?_
  rintro e w4 ⟨g, rfl, row, hb, hg⟩
  replace x3 := x3.below hb
  replace B3 := below_call B3 hb
  replace b3 := b3.below hb
  replace hh3 := fun o (ho : o < 4) => (hh3 o ho).call hb
  have HLn : Hid ((Ex.addL y l).length = l.length) := Ex.addL_len y l
  clear hb y0 y1 y2 y3 y4 H3 hin
  go_wp2_with fail
  refine (splitc_yes a b c d kn (Ex.addL y l) (some ⟨g, 0, none⟩) (Ex.addL y l).length n h _ (by rw [HLn.out]; exact hp) hk hf2 (Nat.le_refl _) row.holds hn hh).mono ?_
  rintro e w5 ⟨s2, m2, rfl, hh2, hb⟩
  have HF2 : Hid (∀ o, o < 4 → Fresh w4 (s2 o)) := fun o ho => (hh2 o ho).2.2.2
  have hlt24 : Hid (w2.heap.size < w4.heap.size) := b3.lt
  replace x3 := x3.below hb
  replace B3 := below_call B3 hb
  replace b3 := b3.below hb
  replace hh3 := fun o (ho : o < 4) => (hh3 o ho).call hb
  obtain ⟨D', hD1⟩ : ∃ D' : Nat → List Int, D' = fun o => (bandQ a b kn n (Ex.cutR n (Ex.addL y l) h) o).flatten := ⟨_, rfl⟩
  have HD1 : Hid (∀ o, o < 4 → D' o = if o = 0 then Ex.addL y (D o) else D o) := fun o hlt => by rw [hD1, HD0.out]; have := band_add (a := a) (b := b) (d := y) hk HL2.out o hlt; rw [ho] at this; exact this
  have hAll : Hid (∀ v ∈ D 0, IntKind.i64.wrap (v + y) = v + y) := by rw [HD0.out]; exact hall 0 (by decide)
  have hLen : Hid (∀ o, o < 4 → (D o).length ≤ 1048576) := by rw [HD0.out]; exact hlen
  obtain ⟨A2, hA2⟩ : ∃ A2, A2 = arrP R (fun o => .slice (s2 o) (D' o).length (m2 o)) := ⟨_, rfl⟩
  have hA2' := hA2
  rw [hD1, HR0.out] at hA2'
  rw [← hA2']
  replace hh2 : ∀ o, o < 4 → HoldsI w5 (s2 o) (D' o) := fun o ho => by rw [hD1]; exact (hh2 o ho).1
  have Hb2 : Hid _ := hA2
  have H20 : Hid (20 = A2.size) := by rw [hA2]; rfl
  have HI : Hid ((Try.prog.info? 27).map (·.size) = some A2.size) := by rw [hA2]; exact info20
  have hAo : A2.all (·.oneCell') = true := by rw [hA2]; simp [arrP_get, Value.oneCell']
  clear hA2 hA2' hb hD1 row hall hlen
  go_upto_region 7 with (first | (refine wpList_store_row rfl 27 (.tmp 9) (.tmp 40) rfl w5.heap.size A2 rfl rfl 27 _ (Blk.fresh w5 27 #[.int .i64 0, .int .i64 0, .int .i64 0, .int .i64 0, .slice none 0 0, .int .i64 0, .int .i64 0, .int .i64 0, .int .i64 0, .slice none 0 0, .int .i64 0, .int .i64 0, .int .i64 0, .int .i64 0, .slice none 0 0, .int .i64 0, .int .i64 0, .int .i64 0, .int .i64 0, .slice none 0 0]) HI.out H20.out hAo ?_))
  obtain ⟨W6, hW6⟩ : ∃ W6, W6 = (w5.alloc (.cells #[.int .i64 0, .int .i64 0, .int .i64 0, .int .i64 0, .slice none 0 0, .int .i64 0, .int .i64 0, .int .i64 0, .int .i64 0, .slice none 0 0, .int .i64 0, .int .i64 0, .int .i64 0, .int .i64 0, .slice none 0 0, .int .i64 0, .int .i64 0, .int .i64 0, .int .i64 0, .slice none 0 0] 27)).setRow w5.heap.size A2 := ⟨_, rfl⟩
  have B6 : Below w.heap.size w W6 := by rw [hW6]; exact below_row (below_alloc B3 _) B3.size _
  have b6 : Blk W6 w2.heap.size 27 A1 := by rw [hW6]; exact (b3.alloc _).but (But.setRow _) (Nat.ne_of_lt b3.lt)
  have c6 : Blk W6 w5.heap.size 27 A2 := by rw [hW6]; exact (Blk.fresh w5 27 #[.int .i64 0, .int .i64 0, .int .i64 0, .int .i64 0, .slice none 0 0, .int .i64 0, .int .i64 0, .int .i64 0, .int .i64 0, .slice none 0 0, .int .i64 0, .int .i64 0, .int .i64 0, .int .i64 0, .slice none 0 0, .int .i64 0, .int .i64 0, .int .i64 0, .int .i64 0, .slice none 0 0]).row A2
  have x6 : QBox W6 w.heap.size ⟨a, b, c, d⟩ (.slice s l.length m) := by rw [hW6]; exact (x3.alloc _).but (But.setRow _) (Nat.ne_of_lt x3.lt)
  have hh6 : ∀ o, o < 4 → HoldsI W6 (s1 o) (D o) := fun o ho => by rw [hW6]; exact holds_rowed (hh3 o ho) _ _
  have hk6 : ∀ o, o < 4 → HoldsI W6 (s2 o) (D' o) := fun o ho => by rw [hW6]; exact holds_rowed (hh2 o ho) _ _
  have hlt25 : Hid (w2.heap.size < w5.heap.size) := b3.lt
  rw [← hW6]
  clear hW6 B3 b3 hAo x3 hh3 hh2 H20 HI hn hh hp
  obtain ⟨y0, y1, y2, y3, y4⟩ := x6.open
  have u1 : IntKind.i64.wrap (c - a) = c - a := IntWalk.i64_in _ (by omega)
  have u2 : IntKind.i64.wrap (d - b) = d - b := IntWalk.i64_in _ (by omega)
  have u3 : IntKind.i64.wrap (a.tmod 2) = a.tmod 2 := IntWalk.i64_in _ (by rw [Int.tmod_eq_emod_of_nonneg vb.1]; omega)
  have u4 : IntKind.i64.wrap (b.tmod 2) = b.tmod 2 := IntWalk.i64_in _ (by rw [Int.tmod_eq_emod_of_nonneg vb.2.2.1]; omega)
  have a0 : W6.cell? ⟨w2.heap.size, 0, none⟩ = some (.int .i64 (R 0).x0) := b6.cell 0 _ (by rw [Hb1.out]; rfl)
  have a1 : W6.cell? ⟨w2.heap.size, 1, none⟩ = some (.int .i64 (R 0).y0) := b6.cell 1 _ (by rw [Hb1.out]; rfl)
  have a2 : W6.cell? ⟨w2.heap.size, 2, none⟩ = some (.int .i64 (R 0).x1) := b6.cell 2 _ (by rw [Hb1.out]; rfl)
  have a3 : W6.cell? ⟨w2.heap.size, 3, none⟩ = some (.int .i64 (R 0).y1) := b6.cell 3 _ (by rw [Hb1.out]; rfl)
  have a4 : W6.cell? ⟨w2.heap.size, 4, none⟩ = some (.slice (s1 0) (D 0).length (m1 0)) := b6.cell 4 _ (by rw [Hb1.out]; rfl)
  clear vb
  go_wp2_with fail
  refine (mv5_c (R 0).x0 (R 0).y0 (R 0).x1 (R 0).y1 y (s1 0) (m1 0) (D 0) _ (hLen.out 0 (by decide)) (hh6 0 (by decide)) hAll.out).mono ?_
  rintro e w7 ⟨g7, rfl, row7, hb, hg7⟩
  have b7 := b6.below hb
  have c7 := c6.below hb
  have hh7 := fun o (ho : o < 4) => (hh6 o ho).call hb
  have hk7 := fun o (ho : o < 4) => (hk6 o ho).call hb
  have B7 := below_call B6 hb
  have hg25 : Hid (w2.heap.size < g7) := by have := b6.lt; show _ < _; omega
  clear y0 y1 y2 y3 y4 a0 a1 a2 a3 a4 b6 c6 x6 hh6 hk6 B6 hb
  have a0 : w7.cell? ⟨w2.heap.size, 0, none⟩ = some (.int .i64 (R 0).x0) := b7.cell 0 _ (by rw [Hb1.out]; rfl)
  have a1 : w7.cell? ⟨w2.heap.size, 1, none⟩ = some (.int .i64 (R 0).y0) := b7.cell 1 _ (by rw [Hb1.out]; rfl)
  have a2 : w7.cell? ⟨w2.heap.size, 2, none⟩ = some (.int .i64 (R 0).x1) := b7.cell 2 _ (by rw [Hb1.out]; rfl)
  have a3 : w7.cell? ⟨w2.heap.size, 3, none⟩ = some (.int .i64 (R 0).y1) := b7.cell 3 _ (by rw [Hb1.out]; rfl)
  have a4 : w7.cell? ⟨w2.heap.size, 4, none⟩ = some (.slice (s1 0) (D 0).length (m1 0)) := b7.cell 4 _ (by rw [Hb1.out]; rfl)
  have gf : ∀ j, w7.frozen? ⟨w2.heap.size, j, none⟩ = false := b7.free
  go_upto_region 15 with fail
  obtain ⟨W8, hW8⟩ : ∃ W8, W8 = (((((w7.setCell ⟨w2.heap.size, 0, none⟩ (.int .i64 (R 0).x0)).setCell ⟨w2.heap.size, 1, none⟩ (.int .i64 (R 0).y0)).setCell ⟨w2.heap.size, 2, none⟩ (.int .i64 (R 0).x1)).setCell ⟨w2.heap.size, 3, none⟩ (.int .i64 (R 0).y1)).setCell ⟨w2.heap.size, 4, none⟩ (.slice (some ⟨g7, 0, none⟩) (Ex.addL y (D 0)).length (Ex.addL y (D 0)).length)) := ⟨_, rfl⟩
  obtain ⟨s3, hs3⟩ : ∃ s3 : Nat → Option Addr, s3 = fun i => if i = 0 then some ⟨g7, 0, none⟩ else s1 i := ⟨_, rfl⟩
  obtain ⟨m3, hm3⟩ : ∃ m3 : Nat → Nat, m3 = fun i => if i = 0 then (Ex.addL y (D 0)).length else m1 i := ⟨_, rfl⟩
  obtain ⟨A3, hA3⟩ : ∃ A3, A3 = arrP R (fun i => .slice (s3 i) (D' i).length (m3 i)) := ⟨_, rfl⟩
  have b8 : Blk W8 w2.heap.size 27 A3 := by
    rw [hW8, hA3]
    have h := b7
    rw [Hb1.out] at h
    have h2 := blkP_all h 0 (by decide) (.slice (some ⟨g7, 0, none⟩) (Ex.addL y (D 0)).length (Ex.addL y (D 0)).length)
    rw [arrP_cong (V' := fun i => .slice (s3 i) (D' i).length (m3 i))] at h2
    · exact h2
    · intro i hi
      show (if i = 0 then _ else _) = _
      rw [HD1.out i hi, hs3, hm3]
      by_cases hq : i = 0
      · subst hq; simp
      · simp [hq]
  have c8 : Blk W8 w5.heap.size 27 A2 := by
    have hn : w5.heap.size ≠ w2.heap.size := Nat.ne_of_gt hlt25.out
    rw [hW8]
    exact ((((c7.far _ _ hn).far _ _ hn).far _ _ hn).far _ _ hn).far _ _ hn
  have hh8 : ∀ o, o < 4 → HoldsI W8 (s3 o) (D' o) := fun i hi => by
    rw [HD1.out i hi, hs3, hW8]
    by_cases hq : i = 0
    · subst hq
      have hn : g7 ≠ w2.heap.size := Nat.ne_of_gt hg25.out
      simp only [if_pos]
      exact (((((row7.far _ _ hn).far _ _ hn).far _ _ hn).far _ _ hn).far _ _ hn).holds
    · simp only [if_neg hq]
      have h0 := HF1.out i hi
      exact holds_cellW (holds_cellW (holds_cellW (holds_cellW (holds_cellW (hh7 i hi) h0 _ _) h0 _ _) h0 _ _) h0 _ _) h0 _ _
  have hk8 : ∀ o, o < 4 → HoldsI W8 (s2 o) (D' o) := fun i hi => by
    have h0 := HF2.out i hi
    have hB := hlt24.out
    rw [hW8]
    exact (((((hk7 i hi).farW h0 hB _).farW h0 hB _).farW h0 hB _).farW h0 hB _).farW h0 hB _
  have hw2 : w.heap.size ≤ w2.heap.size := h20
  have B8 : Below w.heap.size w W8 := by
    rw [hW8]
    exact ((((B7.setCell hw2 _).setCell hw2 _).setCell hw2 _).setCell hw2 _).setCell hw2 _
  have S8 : Sp w w2.heap.size w5.heap.size A3 A2 s3 s2 D' W8 := ⟨B8, b8, c8, hh8, hk8⟩
  have hD : ∀ j, j < 4 → (D' j).length ≤ 140737488351232 := fun j hj => by
    have := hLen.out j hj
    rw [HD1.out j hj]
    split
    · rename_i hq; subst hq; rw [Ex.addL_len]; omega
    · omega
  clear Hb1
  have Hb1 : Hid _ := hA3
  rw [← hW8]
  clear hW8 hA3 hs3 hm3 b8 c8 hh8 hk8 B8 b7 c7 hh7 hk7 B7 row7 hg7 hg25 hlt25 hlt24 HF1 HF2 a0 a1 a2 a3 a4 gf HD1 HD0 hAll hLen u1 u2 u3 u4 q1 q2 q1'
  go_upto_region 16 with fail
  go_loopw [88] (fun i wr => ∃ j : Nat, j ≤ 4 ∧ i = .int .i64 (j : Int) ∧ Sp w w2.heap.size w5.heap.size A3 A2 s3 s2 D' wr) (fun i _ => 4 - (intOf i).toNat)
  case atStart => exact ⟨0, by decide, rfl, S8⟩
  case round =>
    obtain ⟨j, hj, hi, hS⟩ := hrel
    clear S8
    by_cases hlt : j < 4
    · have hst := Fam.next (I := Sp w w2.heap.size w5.heap.size A3 A2 s3 s2 D') (fun _ _ p q => p.step q)
      have hne : Nonempty (Fam (Sp w w2.heap.size w5.heap.size A3 A2 s3 s2 D')) := ⟨⟨_, hS⟩⟩
      rcases lt4 hlt with rfl | rfl | rfl | rfl
      · replace hi : _ = Value.int .i64 0 := hi; subst hi
        have p0 : ∀ X : Fam (Sp w w2.heap.size w5.heap.size A3 A2 s3 s2 D'), X.W.cell? ⟨w2.heap.size, 0, none⟩ = some (.int .i64 (R 0).x0) := fun X => X.ok.b1.cell 0 _ (by rw [Hb1.out]; rfl)
        have p1 : ∀ X : Fam (Sp w w2.heap.size w5.heap.size A3 A2 s3 s2 D'), X.W.cell? ⟨w2.heap.size, 1, none⟩ = some (.int .i64 (R 0).y0) := fun X => X.ok.b1.cell 1 _ (by rw [Hb1.out]; rfl)
        have p2 : ∀ X : Fam (Sp w w2.heap.size w5.heap.size A3 A2 s3 s2 D'), X.W.cell? ⟨w2.heap.size, 2, none⟩ = some (.int .i64 (R 0).x1) := fun X => X.ok.b1.cell 2 _ (by rw [Hb1.out]; rfl)
        have p3 : ∀ X : Fam (Sp w w2.heap.size w5.heap.size A3 A2 s3 s2 D'), X.W.cell? ⟨w2.heap.size, 3, none⟩ = some (.int .i64 (R 0).y1) := fun X => X.ok.b1.cell 3 _ (by rw [Hb1.out]; rfl)
        have p4 : ∀ X : Fam (Sp w w2.heap.size w5.heap.size A3 A2 s3 s2 D'), X.W.cell? ⟨w2.heap.size, 4, none⟩ = some (.slice (s3 0) (D' 0).length (m3 0)) := fun X => X.ok.b1.cell 4 _ (by rw [Hb1.out]; rfl)
        have q0 : ∀ X : Fam (Sp w w2.heap.size w5.heap.size A3 A2 s3 s2 D'), X.W.cell? ⟨w5.heap.size, 0, none⟩ = some (.int .i64 (R 0).x0) := fun X => X.ok.b2.cell 0 _ (by rw [Hb2.out]; rfl)
        have q1 : ∀ X : Fam (Sp w w2.heap.size w5.heap.size A3 A2 s3 s2 D'), X.W.cell? ⟨w5.heap.size, 1, none⟩ = some (.int .i64 (R 0).y0) := fun X => X.ok.b2.cell 1 _ (by rw [Hb2.out]; rfl)
        have q2 : ∀ X : Fam (Sp w w2.heap.size w5.heap.size A3 A2 s3 s2 D'), X.W.cell? ⟨w5.heap.size, 2, none⟩ = some (.int .i64 (R 0).x1) := fun X => X.ok.b2.cell 2 _ (by rw [Hb2.out]; rfl)
        have q3 : ∀ X : Fam (Sp w w2.heap.size w5.heap.size A3 A2 s3 s2 D'), X.W.cell? ⟨w5.heap.size, 3, none⟩ = some (.int .i64 (R 0).y1) := fun X => X.ok.b2.cell 3 _ (by rw [Hb2.out]; rfl)
        have q4 : ∀ X : Fam (Sp w w2.heap.size w5.heap.size A3 A2 s3 s2 D'), X.W.cell? ⟨w5.heap.size, 4, none⟩ = some (.slice (s2 0) (D' 0).length (m2 0)) := fun X => X.ok.b2.cell 4 _ (by rw [Hb2.out]; rfl)
        have cS : ∀ X : Fam (Sp w w2.heap.size w5.heap.size A3 A2 s3 s2 D'), Calls Try.prog 19 #[.agg #[.int .i64 (R 0).x0, .int .i64 (R 0).y0, .int .i64 (R 0).x1, .int .i64 (R 0).y1, .slice (s3 0) (D' 0).length (m3 0)], .agg #[.int .i64 (R 0).x0, .int .i64 (R 0).y0, .int .i64 (R 0).x1, .int .i64 (R 0).y1, .slice (s2 0) (D' 0).length (m2 0)]] X.W fun e w' => e = .returned (.bool true) ∧ Below X.W.heap.size X.W w' := fun X => same5_eq (R 0).x0 (R 0).y0 (R 0).x1 (R 0).y1 (s3 0) (s2 0) (m3 0) (m2 0) (D' 0) X.W (hD 0 (by decide)) (X.ok.h1 0 (by decide)) (X.ok.h2 0 (by decide))
        go_upto_region 18 with fail
        refine wp_region_in (fun X : Fam (Sp w w2.heap.size w5.heap.size A3 A2 s3 s2 D') => X.W) (by kernel_rfl) (by kernel_rfl) ⟨⟨_, hS.step (Below.refl _ _).drew⟩, rfl⟩ ?_
        repeat (first | go_big_quiet_step ((first | (go_at_call 19; exact call_in (cS _) (hst _)))) | quiet_step ((first | (go_at_call 19; exact call_in (cS _) (hst _)))))
        refine wpQuiet_nil ?_
        intro w9 hw'
        obtain ⟨⟨_, hS9⟩, hw''⟩ := hw'
        subst hw''
        clear cS p0 p1 p2 p3 p4 q0 q1 q2 q3 q4 hst hne
        have HS : Hid _ := hS9
        clear hS hS9
        go_wp2
        go_roundw
        case rel => exact ⟨1, by decide, (by first | rfl | go_num), HS.out⟩
        case measure => first | decide | (simp [intOf]; done) | (simp [intOf]; omega)
      · replace hi : _ = Value.int .i64 1 := hi; subst hi
        have p0 : ∀ X : Fam (Sp w w2.heap.size w5.heap.size A3 A2 s3 s2 D'), X.W.cell? ⟨w2.heap.size, 5, none⟩ = some (.int .i64 (R 1).x0) := fun X => X.ok.b1.cell 5 _ (by rw [Hb1.out]; rfl)
        have p1 : ∀ X : Fam (Sp w w2.heap.size w5.heap.size A3 A2 s3 s2 D'), X.W.cell? ⟨w2.heap.size, 6, none⟩ = some (.int .i64 (R 1).y0) := fun X => X.ok.b1.cell 6 _ (by rw [Hb1.out]; rfl)
        have p2 : ∀ X : Fam (Sp w w2.heap.size w5.heap.size A3 A2 s3 s2 D'), X.W.cell? ⟨w2.heap.size, 7, none⟩ = some (.int .i64 (R 1).x1) := fun X => X.ok.b1.cell 7 _ (by rw [Hb1.out]; rfl)
        have p3 : ∀ X : Fam (Sp w w2.heap.size w5.heap.size A3 A2 s3 s2 D'), X.W.cell? ⟨w2.heap.size, 8, none⟩ = some (.int .i64 (R 1).y1) := fun X => X.ok.b1.cell 8 _ (by rw [Hb1.out]; rfl)
        have p4 : ∀ X : Fam (Sp w w2.heap.size w5.heap.size A3 A2 s3 s2 D'), X.W.cell? ⟨w2.heap.size, 9, none⟩ = some (.slice (s3 1) (D' 1).length (m3 1)) := fun X => X.ok.b1.cell 9 _ (by rw [Hb1.out]; rfl)
        have q0 : ∀ X : Fam (Sp w w2.heap.size w5.heap.size A3 A2 s3 s2 D'), X.W.cell? ⟨w5.heap.size, 5, none⟩ = some (.int .i64 (R 1).x0) := fun X => X.ok.b2.cell 5 _ (by rw [Hb2.out]; rfl)
        have q1 : ∀ X : Fam (Sp w w2.heap.size w5.heap.size A3 A2 s3 s2 D'), X.W.cell? ⟨w5.heap.size, 6, none⟩ = some (.int .i64 (R 1).y0) := fun X => X.ok.b2.cell 6 _ (by rw [Hb2.out]; rfl)
        have q2 : ∀ X : Fam (Sp w w2.heap.size w5.heap.size A3 A2 s3 s2 D'), X.W.cell? ⟨w5.heap.size, 7, none⟩ = some (.int .i64 (R 1).x1) := fun X => X.ok.b2.cell 7 _ (by rw [Hb2.out]; rfl)
        have q3 : ∀ X : Fam (Sp w w2.heap.size w5.heap.size A3 A2 s3 s2 D'), X.W.cell? ⟨w5.heap.size, 8, none⟩ = some (.int .i64 (R 1).y1) := fun X => X.ok.b2.cell 8 _ (by rw [Hb2.out]; rfl)
        have q4 : ∀ X : Fam (Sp w w2.heap.size w5.heap.size A3 A2 s3 s2 D'), X.W.cell? ⟨w5.heap.size, 9, none⟩ = some (.slice (s2 1) (D' 1).length (m2 1)) := fun X => X.ok.b2.cell 9 _ (by rw [Hb2.out]; rfl)
        have cS : ∀ X : Fam (Sp w w2.heap.size w5.heap.size A3 A2 s3 s2 D'), Calls Try.prog 19 #[.agg #[.int .i64 (R 1).x0, .int .i64 (R 1).y0, .int .i64 (R 1).x1, .int .i64 (R 1).y1, .slice (s3 1) (D' 1).length (m3 1)], .agg #[.int .i64 (R 1).x0, .int .i64 (R 1).y0, .int .i64 (R 1).x1, .int .i64 (R 1).y1, .slice (s2 1) (D' 1).length (m2 1)]] X.W fun e w' => e = .returned (.bool true) ∧ Below X.W.heap.size X.W w' := fun X => same5_eq (R 1).x0 (R 1).y0 (R 1).x1 (R 1).y1 (s3 1) (s2 1) (m3 1) (m2 1) (D' 1) X.W (hD 1 (by decide)) (X.ok.h1 1 (by decide)) (X.ok.h2 1 (by decide))
        go_upto_region 18 with fail
        refine wp_region_in (fun X : Fam (Sp w w2.heap.size w5.heap.size A3 A2 s3 s2 D') => X.W) (by kernel_rfl) (by kernel_rfl) ⟨⟨_, hS.step (Below.refl _ _).drew⟩, rfl⟩ ?_
        repeat (first | go_big_quiet_step ((first | (go_at_call 19; exact call_in (cS _) (hst _)))) | quiet_step ((first | (go_at_call 19; exact call_in (cS _) (hst _)))))
        refine wpQuiet_nil ?_
        intro w9 hw'
        obtain ⟨⟨_, hS9⟩, hw''⟩ := hw'
        subst hw''
        clear cS p0 p1 p2 p3 p4 q0 q1 q2 q3 q4 hst hne
        have HS : Hid _ := hS9
        clear hS hS9
        go_wp2
        go_roundw
        case rel => exact ⟨2, by decide, (by first | rfl | go_num), HS.out⟩
        case measure => first | decide | (simp [intOf]; done) | (simp [intOf]; omega)
      · replace hi : _ = Value.int .i64 2 := hi; subst hi
        have p0 : ∀ X : Fam (Sp w w2.heap.size w5.heap.size A3 A2 s3 s2 D'), X.W.cell? ⟨w2.heap.size, 10, none⟩ = some (.int .i64 (R 2).x0) := fun X => X.ok.b1.cell 10 _ (by rw [Hb1.out]; rfl)
        have p1 : ∀ X : Fam (Sp w w2.heap.size w5.heap.size A3 A2 s3 s2 D'), X.W.cell? ⟨w2.heap.size, 11, none⟩ = some (.int .i64 (R 2).y0) := fun X => X.ok.b1.cell 11 _ (by rw [Hb1.out]; rfl)
        have p2 : ∀ X : Fam (Sp w w2.heap.size w5.heap.size A3 A2 s3 s2 D'), X.W.cell? ⟨w2.heap.size, 12, none⟩ = some (.int .i64 (R 2).x1) := fun X => X.ok.b1.cell 12 _ (by rw [Hb1.out]; rfl)
        have p3 : ∀ X : Fam (Sp w w2.heap.size w5.heap.size A3 A2 s3 s2 D'), X.W.cell? ⟨w2.heap.size, 13, none⟩ = some (.int .i64 (R 2).y1) := fun X => X.ok.b1.cell 13 _ (by rw [Hb1.out]; rfl)
        have p4 : ∀ X : Fam (Sp w w2.heap.size w5.heap.size A3 A2 s3 s2 D'), X.W.cell? ⟨w2.heap.size, 14, none⟩ = some (.slice (s3 2) (D' 2).length (m3 2)) := fun X => X.ok.b1.cell 14 _ (by rw [Hb1.out]; rfl)
        have q0 : ∀ X : Fam (Sp w w2.heap.size w5.heap.size A3 A2 s3 s2 D'), X.W.cell? ⟨w5.heap.size, 10, none⟩ = some (.int .i64 (R 2).x0) := fun X => X.ok.b2.cell 10 _ (by rw [Hb2.out]; rfl)
        have q1 : ∀ X : Fam (Sp w w2.heap.size w5.heap.size A3 A2 s3 s2 D'), X.W.cell? ⟨w5.heap.size, 11, none⟩ = some (.int .i64 (R 2).y0) := fun X => X.ok.b2.cell 11 _ (by rw [Hb2.out]; rfl)
        have q2 : ∀ X : Fam (Sp w w2.heap.size w5.heap.size A3 A2 s3 s2 D'), X.W.cell? ⟨w5.heap.size, 12, none⟩ = some (.int .i64 (R 2).x1) := fun X => X.ok.b2.cell 12 _ (by rw [Hb2.out]; rfl)
        have q3 : ∀ X : Fam (Sp w w2.heap.size w5.heap.size A3 A2 s3 s2 D'), X.W.cell? ⟨w5.heap.size, 13, none⟩ = some (.int .i64 (R 2).y1) := fun X => X.ok.b2.cell 13 _ (by rw [Hb2.out]; rfl)
        have q4 : ∀ X : Fam (Sp w w2.heap.size w5.heap.size A3 A2 s3 s2 D'), X.W.cell? ⟨w5.heap.size, 14, none⟩ = some (.slice (s2 2) (D' 2).length (m2 2)) := fun X => X.ok.b2.cell 14 _ (by rw [Hb2.out]; rfl)
        have cS : ∀ X : Fam (Sp w w2.heap.size w5.heap.size A3 A2 s3 s2 D'), Calls Try.prog 19 #[.agg #[.int .i64 (R 2).x0, .int .i64 (R 2).y0, .int .i64 (R 2).x1, .int .i64 (R 2).y1, .slice (s3 2) (D' 2).length (m3 2)], .agg #[.int .i64 (R 2).x0, .int .i64 (R 2).y0, .int .i64 (R 2).x1, .int .i64 (R 2).y1, .slice (s2 2) (D' 2).length (m2 2)]] X.W fun e w' => e = .returned (.bool true) ∧ Below X.W.heap.size X.W w' := fun X => same5_eq (R 2).x0 (R 2).y0 (R 2).x1 (R 2).y1 (s3 2) (s2 2) (m3 2) (m2 2) (D' 2) X.W (hD 2 (by decide)) (X.ok.h1 2 (by decide)) (X.ok.h2 2 (by decide))
        go_upto_region 18 with fail
        refine wp_region_in (fun X : Fam (Sp w w2.heap.size w5.heap.size A3 A2 s3 s2 D') => X.W) (by kernel_rfl) (by kernel_rfl) ⟨⟨_, hS.step (Below.refl _ _).drew⟩, rfl⟩ ?_
        repeat (first | go_big_quiet_step ((first | (go_at_call 19; exact call_in (cS _) (hst _)))) | quiet_step ((first | (go_at_call 19; exact call_in (cS _) (hst _)))))
        refine wpQuiet_nil ?_
        intro w9 hw'
        obtain ⟨⟨_, hS9⟩, hw''⟩ := hw'
        subst hw''
        clear cS p0 p1 p2 p3 p4 q0 q1 q2 q3 q4 hst hne
        have HS : Hid _ := hS9
        clear hS hS9
        go_wp2
        go_roundw
        case rel => exact ⟨3, by decide, (by first | rfl | go_num), HS.out⟩
        case measure => first | decide | (simp [intOf]; done) | (simp [intOf]; omega)
      · replace hi : _ = Value.int .i64 3 := hi; subst hi
        have p0 : ∀ X : Fam (Sp w w2.heap.size w5.heap.size A3 A2 s3 s2 D'), X.W.cell? ⟨w2.heap.size, 15, none⟩ = some (.int .i64 (R 3).x0) := fun X => X.ok.b1.cell 15 _ (by rw [Hb1.out]; rfl)
        have p1 : ∀ X : Fam (Sp w w2.heap.size w5.heap.size A3 A2 s3 s2 D'), X.W.cell? ⟨w2.heap.size, 16, none⟩ = some (.int .i64 (R 3).y0) := fun X => X.ok.b1.cell 16 _ (by rw [Hb1.out]; rfl)
        have p2 : ∀ X : Fam (Sp w w2.heap.size w5.heap.size A3 A2 s3 s2 D'), X.W.cell? ⟨w2.heap.size, 17, none⟩ = some (.int .i64 (R 3).x1) := fun X => X.ok.b1.cell 17 _ (by rw [Hb1.out]; rfl)
        have p3 : ∀ X : Fam (Sp w w2.heap.size w5.heap.size A3 A2 s3 s2 D'), X.W.cell? ⟨w2.heap.size, 18, none⟩ = some (.int .i64 (R 3).y1) := fun X => X.ok.b1.cell 18 _ (by rw [Hb1.out]; rfl)
        have p4 : ∀ X : Fam (Sp w w2.heap.size w5.heap.size A3 A2 s3 s2 D'), X.W.cell? ⟨w2.heap.size, 19, none⟩ = some (.slice (s3 3) (D' 3).length (m3 3)) := fun X => X.ok.b1.cell 19 _ (by rw [Hb1.out]; rfl)
        have q0 : ∀ X : Fam (Sp w w2.heap.size w5.heap.size A3 A2 s3 s2 D'), X.W.cell? ⟨w5.heap.size, 15, none⟩ = some (.int .i64 (R 3).x0) := fun X => X.ok.b2.cell 15 _ (by rw [Hb2.out]; rfl)
        have q1 : ∀ X : Fam (Sp w w2.heap.size w5.heap.size A3 A2 s3 s2 D'), X.W.cell? ⟨w5.heap.size, 16, none⟩ = some (.int .i64 (R 3).y0) := fun X => X.ok.b2.cell 16 _ (by rw [Hb2.out]; rfl)
        have q2 : ∀ X : Fam (Sp w w2.heap.size w5.heap.size A3 A2 s3 s2 D'), X.W.cell? ⟨w5.heap.size, 17, none⟩ = some (.int .i64 (R 3).x1) := fun X => X.ok.b2.cell 17 _ (by rw [Hb2.out]; rfl)
        have q3 : ∀ X : Fam (Sp w w2.heap.size w5.heap.size A3 A2 s3 s2 D'), X.W.cell? ⟨w5.heap.size, 18, none⟩ = some (.int .i64 (R 3).y1) := fun X => X.ok.b2.cell 18 _ (by rw [Hb2.out]; rfl)
        have q4 : ∀ X : Fam (Sp w w2.heap.size w5.heap.size A3 A2 s3 s2 D'), X.W.cell? ⟨w5.heap.size, 19, none⟩ = some (.slice (s2 3) (D' 3).length (m2 3)) := fun X => X.ok.b2.cell 19 _ (by rw [Hb2.out]; rfl)
        have cS : ∀ X : Fam (Sp w w2.heap.size w5.heap.size A3 A2 s3 s2 D'), Calls Try.prog 19 #[.agg #[.int .i64 (R 3).x0, .int .i64 (R 3).y0, .int .i64 (R 3).x1, .int .i64 (R 3).y1, .slice (s3 3) (D' 3).length (m3 3)], .agg #[.int .i64 (R 3).x0, .int .i64 (R 3).y0, .int .i64 (R 3).x1, .int .i64 (R 3).y1, .slice (s2 3) (D' 3).length (m2 3)]] X.W fun e w' => e = .returned (.bool true) ∧ Below X.W.heap.size X.W w' := fun X => same5_eq (R 3).x0 (R 3).y0 (R 3).x1 (R 3).y1 (s3 3) (s2 3) (m3 3) (m2 3) (D' 3) X.W (hD 3 (by decide)) (X.ok.h1 3 (by decide)) (X.ok.h2 3 (by decide))
        go_upto_region 18 with fail
        refine wp_region_in (fun X : Fam (Sp w w2.heap.size w5.heap.size A3 A2 s3 s2 D') => X.W) (by kernel_rfl) (by kernel_rfl) ⟨⟨_, hS.step (Below.refl _ _).drew⟩, rfl⟩ ?_
        repeat (first | go_big_quiet_step ((first | (go_at_call 19; exact call_in (cS _) (hst _)))) | quiet_step ((first | (go_at_call 19; exact call_in (cS _) (hst _)))))
        refine wpQuiet_nil ?_
        intro w9 hw'
        obtain ⟨⟨_, hS9⟩, hw''⟩ := hw'
        subst hw''
        clear cS p0 p1 p2 p3 p4 q0 q1 q2 q3 q4 hst hne
        have HS : Hid _ := hS9
        clear hS hS9
        go_wp2
        go_roundw
        case rel => exact ⟨4, by decide, (by first | rfl | go_num), HS.out⟩
        case measure => first | decide | (simp [intOf]; done) | (simp [intOf]; omega)
    · obtain rfl : j = 4 := by omega
      replace hi : _ = Value.int .i64 4 := hi; subst hi
      have HB : Hid _ := hS.below
      clear hS
      go_wp2_with (first | (go_at_call 16; (with_reducible refine (awake_c _).mono ?_); rintro e w9 ⟨rfl, hb9⟩))
      go_ret
      exact ⟨rfl, below_call HB.out hb9⟩
set_option maxRecDepth 100000 in
set_option maxHeartbeats 8000000 in
theorem mainTFTF (a b c d y kn : Int) (s : Option Addr) (l : List Int) (m : Nat) (w : World) (hm : l.length ≤ m) (hH : HoldsI w s l) (hf : l.length ≤ 4000) (hy0 : y ≤ 281474976710656) (hy : -281474976710656 ≤ y) (n h : Nat) (hp : pvB a b c d l.length = true) (hk : kB kn = true) (hfw : fewB l 35184372088832 = true) (hn : c - a = (n : Int)) (hh : d - b = (h : Int)) (hf2 : fewB (Ex.addL y l) 35184372088832 = true)
    (q1 : (c - a == 1) = true) (q1' : (a.tmod 2 == 1) = false) (q2 : (d - b == 1) = true) (q2' : (b.tmod 2 == 1) = false) (ho : offB a b n h = 0) (hall : ∀ o, o < 4 → ∀ v ∈ (bandQ a b kn n (Ex.cutR n l h) o).flatten, IntKind.i64.wrap (v + y) = v + y) (hlen : ∀ o, o < 4 → (bandQ a b kn n (Ex.cutR n l h) o).flatten.length ≤ 1048576) (hl2 : l.length = h * n) (vb : 0 ≤ a ∧ a ≤ 4096 ∧ 0 ≤ b ∧ b ≤ 4096 ∧ 0 ≤ c ∧ c ≤ 4096 ∧ 0 ≤ d ∧ d ≤ 4096) : Calls Try.prog 4 #[.agg #[.int .i64 a, .int .i64 b, .int .i64 c, .int .i64 d, .slice s l.length m], .int .i64 y, .int .i64 kn] w fun e w' => e = .returned (.bool true) ∧ Below w.heap.size w w' := by
  have HL2 : Hid _ := hl2
  clear hl2
  have x0 := QBox.fresh w a b c d s l.length m 26
  have B0 := below_alloc (Below.refl _ w) (.cells #[.int .i64 a, .int .i64 b, .int .i64 c, .int .i64 d, .slice s l.length m] 26)
  go_enter Try.func4, Try.ntmps4
  go_wp2_with fail
  refine (few5_c ⟨a, b, c, d⟩ s l.length m _).mono ?_
  rintro e w1 ⟨rfl, hb⟩
  replace x0 := x0.below hb
  replace B0 := below_call B0 hb
  have H1 := hH.below B0 (Nat.le_refl _)
  clear hb hH
  have gf : decide (l.length ≤ 4000) = true := decide_eq_true hf
  rw [gf]
  obtain ⟨y0, y1, y2, y3, y4⟩ := x0.open
  have cS := fun w hH => splitc_yes a b c d kn l s m n h w hp hk hfw hm hH hn hh
  have hin : ∀ v ∈ l, IntKind.i64.wrap (v + y) = v + y := fun v hv => by
    have := few_iff.1 hfw v hv
    exact IntWalk.i64_in _ (by omega)
  have hl1 : l.length ≤ 1048576 := by omega
  clear gf
  go_wp2_with fail
  refine (cS _ H1).mono ?_
  clear cS
  rintro e w2 ⟨s1, m1, rfl, hh1, hb⟩
  replace x0 := x0.below hb
  replace B0 := below_call B0 hb
  replace H1 := H1.call hb
  obtain ⟨D, hD0⟩ : ∃ D : Nat → List Int, D = fun o => (bandQ a b kn n (Ex.cutR n l h) o).flatten := ⟨_, rfl⟩
  have HD0 : Hid _ := hD0
  obtain ⟨R, hR0⟩ : ∃ R : Nat → Pl.R, R = bnds ⟨a, b, c, d⟩ := ⟨_, rfl⟩
  have HR0 : Hid _ := hR0
  obtain ⟨A1, hA1⟩ : ∃ A1, A1 = arrP R (fun o => .slice (s1 o) (D o).length (m1 o)) := ⟨_, rfl⟩
  have hA1' := hA1
  rw [hD0, hR0] at hA1'
  rw [← hA1']
  replace hh1 : ∀ o, o < 4 → HoldsI w2 (s1 o) (D o) := fun o ho => by rw [hD0]; exact (hh1 o ho).1
  have HF1 : Hid (∀ o, o < 4 → HoldsI w2 (s1 o) (D o)) := hh1
  have Hb1 : Hid _ := hA1
  have H20 : Hid (20 = A1.size) := by rw [hA1]; rfl
  have HI : Hid ((Try.prog.info? 27).map (·.size) = some A1.size) := by rw [hA1]; exact info20
  have hAo : A1.all (·.oneCell') = true := by rw [hA1]; simp [arrP_get, Value.oneCell']
  clear hA1 hA1' hb y0 y1 y2 y3 y4 hD0 hR0
  go_upto_region 4 with (first | (refine wpList_store_row rfl 27 (.tmp 7) (.tmp 29) rfl w2.heap.size A1 rfl rfl 27 _ (Blk.fresh w2 27 #[.int .i64 0, .int .i64 0, .int .i64 0, .int .i64 0, .slice none 0 0, .int .i64 0, .int .i64 0, .int .i64 0, .int .i64 0, .slice none 0 0, .int .i64 0, .int .i64 0, .int .i64 0, .int .i64 0, .slice none 0 0, .int .i64 0, .int .i64 0, .int .i64 0, .int .i64 0, .slice none 0 0]) HI.out H20.out hAo ?_))
  obtain ⟨W3, hW3⟩ : ∃ W3, W3 = (w2.alloc (.cells #[.int .i64 0, .int .i64 0, .int .i64 0, .int .i64 0, .slice none 0 0, .int .i64 0, .int .i64 0, .int .i64 0, .int .i64 0, .slice none 0 0, .int .i64 0, .int .i64 0, .int .i64 0, .int .i64 0, .slice none 0 0, .int .i64 0, .int .i64 0, .int .i64 0, .int .i64 0, .slice none 0 0] 27)).setRow w2.heap.size A1 := ⟨_, rfl⟩
  have B3 : Below w.heap.size w W3 := by rw [hW3]; exact below_row (below_alloc B0 _) B0.size _
  have b3 : Blk W3 w2.heap.size 27 A1 := by rw [hW3]; exact (Blk.fresh w2 27 #[.int .i64 0, .int .i64 0, .int .i64 0, .int .i64 0, .slice none 0 0, .int .i64 0, .int .i64 0, .int .i64 0, .int .i64 0, .slice none 0 0, .int .i64 0, .int .i64 0, .int .i64 0, .int .i64 0, .slice none 0 0, .int .i64 0, .int .i64 0, .int .i64 0, .int .i64 0, .slice none 0 0]).row A1
  have x3 : QBox W3 w.heap.size ⟨a, b, c, d⟩ (.slice s l.length m) := by rw [hW3]; exact (x0.alloc _).but (But.setRow _) (Nat.ne_of_lt x0.lt)
  have H3 : HoldsI W3 s l := by rw [hW3]; exact holds_rowed H1 _ _
  have hh3 : ∀ o, o < 4 → HoldsI W3 (s1 o) (D o) := fun o ho => by rw [hW3]; exact holds_rowed (hh1 o ho) _ _
  have h20 : w.heap.size ≤ w2.heap.size := B0.size
  rw [← hW3]
  clear hW3 B0 hAo x0 H1 hh1 H20 HI
  obtain ⟨y0, y1, y2, y3, y4⟩ := x3.open
  go_wp2_with fail
  refine (mv5_c a b c d y s m l _ hl1 H3 hin).mono ?_
  rintro e w4 ⟨g, rfl, row, hb, hg⟩
  replace x3 := x3.below hb
  replace B3 := below_call B3 hb
  replace b3 := b3.below hb
  replace hh3 := fun o (ho : o < 4) => (hh3 o ho).call hb
  have HLn : Hid ((Ex.addL y l).length = l.length) := Ex.addL_len y l
  clear hb y0 y1 y2 y3 y4 H3 hin
  go_wp2_with fail
  refine (splitc_yes a b c d kn (Ex.addL y l) (some ⟨g, 0, none⟩) (Ex.addL y l).length n h _ (by rw [HLn.out]; exact hp) hk hf2 (Nat.le_refl _) row.holds hn hh).mono ?_
  rintro e w5 ⟨s2, m2, rfl, hh2, hb⟩
  have HF2 : Hid (∀ o, o < 4 → Fresh w4 (s2 o)) := fun o ho => (hh2 o ho).2.2.2
  have hlt24 : Hid (w2.heap.size < w4.heap.size) := b3.lt
  replace x3 := x3.below hb
  replace B3 := below_call B3 hb
  replace b3 := b3.below hb
  replace hh3 := fun o (ho : o < 4) => (hh3 o ho).call hb
  obtain ⟨D', hD1⟩ : ∃ D' : Nat → List Int, D' = fun o => (bandQ a b kn n (Ex.cutR n (Ex.addL y l) h) o).flatten := ⟨_, rfl⟩
  have HD1 : Hid (∀ o, o < 4 → D' o = if o = 0 then Ex.addL y (D o) else D o) := fun o hlt => by rw [hD1, HD0.out]; have := band_add (a := a) (b := b) (d := y) hk HL2.out o hlt; rw [ho] at this; exact this
  have hAll : Hid (∀ v ∈ D 0, IntKind.i64.wrap (v + y) = v + y) := by rw [HD0.out]; exact hall 0 (by decide)
  have hLen : Hid (∀ o, o < 4 → (D o).length ≤ 1048576) := by rw [HD0.out]; exact hlen
  obtain ⟨A2, hA2⟩ : ∃ A2, A2 = arrP R (fun o => .slice (s2 o) (D' o).length (m2 o)) := ⟨_, rfl⟩
  have hA2' := hA2
  rw [hD1, HR0.out] at hA2'
  rw [← hA2']
  replace hh2 : ∀ o, o < 4 → HoldsI w5 (s2 o) (D' o) := fun o ho => by rw [hD1]; exact (hh2 o ho).1
  have Hb2 : Hid _ := hA2
  have H20 : Hid (20 = A2.size) := by rw [hA2]; rfl
  have HI : Hid ((Try.prog.info? 27).map (·.size) = some A2.size) := by rw [hA2]; exact info20
  have hAo : A2.all (·.oneCell') = true := by rw [hA2]; simp [arrP_get, Value.oneCell']
  clear hA2 hA2' hb hD1 row hall hlen
  go_upto_region 7 with (first | (refine wpList_store_row rfl 27 (.tmp 9) (.tmp 40) rfl w5.heap.size A2 rfl rfl 27 _ (Blk.fresh w5 27 #[.int .i64 0, .int .i64 0, .int .i64 0, .int .i64 0, .slice none 0 0, .int .i64 0, .int .i64 0, .int .i64 0, .int .i64 0, .slice none 0 0, .int .i64 0, .int .i64 0, .int .i64 0, .int .i64 0, .slice none 0 0, .int .i64 0, .int .i64 0, .int .i64 0, .int .i64 0, .slice none 0 0]) HI.out H20.out hAo ?_))
  obtain ⟨W6, hW6⟩ : ∃ W6, W6 = (w5.alloc (.cells #[.int .i64 0, .int .i64 0, .int .i64 0, .int .i64 0, .slice none 0 0, .int .i64 0, .int .i64 0, .int .i64 0, .int .i64 0, .slice none 0 0, .int .i64 0, .int .i64 0, .int .i64 0, .int .i64 0, .slice none 0 0, .int .i64 0, .int .i64 0, .int .i64 0, .int .i64 0, .slice none 0 0] 27)).setRow w5.heap.size A2 := ⟨_, rfl⟩
  have B6 : Below w.heap.size w W6 := by rw [hW6]; exact below_row (below_alloc B3 _) B3.size _
  have b6 : Blk W6 w2.heap.size 27 A1 := by rw [hW6]; exact (b3.alloc _).but (But.setRow _) (Nat.ne_of_lt b3.lt)
  have c6 : Blk W6 w5.heap.size 27 A2 := by rw [hW6]; exact (Blk.fresh w5 27 #[.int .i64 0, .int .i64 0, .int .i64 0, .int .i64 0, .slice none 0 0, .int .i64 0, .int .i64 0, .int .i64 0, .int .i64 0, .slice none 0 0, .int .i64 0, .int .i64 0, .int .i64 0, .int .i64 0, .slice none 0 0, .int .i64 0, .int .i64 0, .int .i64 0, .int .i64 0, .slice none 0 0]).row A2
  have x6 : QBox W6 w.heap.size ⟨a, b, c, d⟩ (.slice s l.length m) := by rw [hW6]; exact (x3.alloc _).but (But.setRow _) (Nat.ne_of_lt x3.lt)
  have hh6 : ∀ o, o < 4 → HoldsI W6 (s1 o) (D o) := fun o ho => by rw [hW6]; exact holds_rowed (hh3 o ho) _ _
  have hk6 : ∀ o, o < 4 → HoldsI W6 (s2 o) (D' o) := fun o ho => by rw [hW6]; exact holds_rowed (hh2 o ho) _ _
  have hlt25 : Hid (w2.heap.size < w5.heap.size) := b3.lt
  rw [← hW6]
  clear hW6 B3 b3 hAo x3 hh3 hh2 H20 HI hn hh hp
  obtain ⟨y0, y1, y2, y3, y4⟩ := x6.open
  have u1 : IntKind.i64.wrap (c - a) = c - a := IntWalk.i64_in _ (by omega)
  have u2 : IntKind.i64.wrap (d - b) = d - b := IntWalk.i64_in _ (by omega)
  have u3 : IntKind.i64.wrap (a.tmod 2) = a.tmod 2 := IntWalk.i64_in _ (by rw [Int.tmod_eq_emod_of_nonneg vb.1]; omega)
  have u4 : IntKind.i64.wrap (b.tmod 2) = b.tmod 2 := IntWalk.i64_in _ (by rw [Int.tmod_eq_emod_of_nonneg vb.2.2.1]; omega)
  have a0 : W6.cell? ⟨w2.heap.size, 0, none⟩ = some (.int .i64 (R 0).x0) := b6.cell 0 _ (by rw [Hb1.out]; rfl)
  have a1 : W6.cell? ⟨w2.heap.size, 1, none⟩ = some (.int .i64 (R 0).y0) := b6.cell 1 _ (by rw [Hb1.out]; rfl)
  have a2 : W6.cell? ⟨w2.heap.size, 2, none⟩ = some (.int .i64 (R 0).x1) := b6.cell 2 _ (by rw [Hb1.out]; rfl)
  have a3 : W6.cell? ⟨w2.heap.size, 3, none⟩ = some (.int .i64 (R 0).y1) := b6.cell 3 _ (by rw [Hb1.out]; rfl)
  have a4 : W6.cell? ⟨w2.heap.size, 4, none⟩ = some (.slice (s1 0) (D 0).length (m1 0)) := b6.cell 4 _ (by rw [Hb1.out]; rfl)
  clear vb
  go_wp2_with fail
  refine (mv5_c (R 0).x0 (R 0).y0 (R 0).x1 (R 0).y1 y (s1 0) (m1 0) (D 0) _ (hLen.out 0 (by decide)) (hh6 0 (by decide)) hAll.out).mono ?_
  rintro e w7 ⟨g7, rfl, row7, hb, hg7⟩
  have b7 := b6.below hb
  have c7 := c6.below hb
  have hh7 := fun o (ho : o < 4) => (hh6 o ho).call hb
  have hk7 := fun o (ho : o < 4) => (hk6 o ho).call hb
  have B7 := below_call B6 hb
  have hg25 : Hid (w2.heap.size < g7) := by have := b6.lt; show _ < _; omega
  clear y0 y1 y2 y3 y4 a0 a1 a2 a3 a4 b6 c6 x6 hh6 hk6 B6 hb
  have a0 : w7.cell? ⟨w2.heap.size, 0, none⟩ = some (.int .i64 (R 0).x0) := b7.cell 0 _ (by rw [Hb1.out]; rfl)
  have a1 : w7.cell? ⟨w2.heap.size, 1, none⟩ = some (.int .i64 (R 0).y0) := b7.cell 1 _ (by rw [Hb1.out]; rfl)
  have a2 : w7.cell? ⟨w2.heap.size, 2, none⟩ = some (.int .i64 (R 0).x1) := b7.cell 2 _ (by rw [Hb1.out]; rfl)
  have a3 : w7.cell? ⟨w2.heap.size, 3, none⟩ = some (.int .i64 (R 0).y1) := b7.cell 3 _ (by rw [Hb1.out]; rfl)
  have a4 : w7.cell? ⟨w2.heap.size, 4, none⟩ = some (.slice (s1 0) (D 0).length (m1 0)) := b7.cell 4 _ (by rw [Hb1.out]; rfl)
  have gf : ∀ j, w7.frozen? ⟨w2.heap.size, j, none⟩ = false := b7.free
  go_upto_region 15 with fail
  obtain ⟨W8, hW8⟩ : ∃ W8, W8 = (((((w7.setCell ⟨w2.heap.size, 0, none⟩ (.int .i64 (R 0).x0)).setCell ⟨w2.heap.size, 1, none⟩ (.int .i64 (R 0).y0)).setCell ⟨w2.heap.size, 2, none⟩ (.int .i64 (R 0).x1)).setCell ⟨w2.heap.size, 3, none⟩ (.int .i64 (R 0).y1)).setCell ⟨w2.heap.size, 4, none⟩ (.slice (some ⟨g7, 0, none⟩) (Ex.addL y (D 0)).length (Ex.addL y (D 0)).length)) := ⟨_, rfl⟩
  obtain ⟨s3, hs3⟩ : ∃ s3 : Nat → Option Addr, s3 = fun i => if i = 0 then some ⟨g7, 0, none⟩ else s1 i := ⟨_, rfl⟩
  obtain ⟨m3, hm3⟩ : ∃ m3 : Nat → Nat, m3 = fun i => if i = 0 then (Ex.addL y (D 0)).length else m1 i := ⟨_, rfl⟩
  obtain ⟨A3, hA3⟩ : ∃ A3, A3 = arrP R (fun i => .slice (s3 i) (D' i).length (m3 i)) := ⟨_, rfl⟩
  have b8 : Blk W8 w2.heap.size 27 A3 := by
    rw [hW8, hA3]
    have h := b7
    rw [Hb1.out] at h
    have h2 := blkP_all h 0 (by decide) (.slice (some ⟨g7, 0, none⟩) (Ex.addL y (D 0)).length (Ex.addL y (D 0)).length)
    rw [arrP_cong (V' := fun i => .slice (s3 i) (D' i).length (m3 i))] at h2
    · exact h2
    · intro i hi
      show (if i = 0 then _ else _) = _
      rw [HD1.out i hi, hs3, hm3]
      by_cases hq : i = 0
      · subst hq; simp
      · simp [hq]
  have c8 : Blk W8 w5.heap.size 27 A2 := by
    have hn : w5.heap.size ≠ w2.heap.size := Nat.ne_of_gt hlt25.out
    rw [hW8]
    exact ((((c7.far _ _ hn).far _ _ hn).far _ _ hn).far _ _ hn).far _ _ hn
  have hh8 : ∀ o, o < 4 → HoldsI W8 (s3 o) (D' o) := fun i hi => by
    rw [HD1.out i hi, hs3, hW8]
    by_cases hq : i = 0
    · subst hq
      have hn : g7 ≠ w2.heap.size := Nat.ne_of_gt hg25.out
      simp only [if_pos]
      exact (((((row7.far _ _ hn).far _ _ hn).far _ _ hn).far _ _ hn).far _ _ hn).holds
    · simp only [if_neg hq]
      have h0 := HF1.out i hi
      exact holds_cellW (holds_cellW (holds_cellW (holds_cellW (holds_cellW (hh7 i hi) h0 _ _) h0 _ _) h0 _ _) h0 _ _) h0 _ _
  have hk8 : ∀ o, o < 4 → HoldsI W8 (s2 o) (D' o) := fun i hi => by
    have h0 := HF2.out i hi
    have hB := hlt24.out
    rw [hW8]
    exact (((((hk7 i hi).farW h0 hB _).farW h0 hB _).farW h0 hB _).farW h0 hB _).farW h0 hB _
  have hw2 : w.heap.size ≤ w2.heap.size := h20
  have B8 : Below w.heap.size w W8 := by
    rw [hW8]
    exact ((((B7.setCell hw2 _).setCell hw2 _).setCell hw2 _).setCell hw2 _).setCell hw2 _
  have S8 : Sp w w2.heap.size w5.heap.size A3 A2 s3 s2 D' W8 := ⟨B8, b8, c8, hh8, hk8⟩
  have hD : ∀ j, j < 4 → (D' j).length ≤ 140737488351232 := fun j hj => by
    have := hLen.out j hj
    rw [HD1.out j hj]
    split
    · rename_i hq; subst hq; rw [Ex.addL_len]; omega
    · omega
  clear Hb1
  have Hb1 : Hid _ := hA3
  rw [← hW8]
  clear hW8 hA3 hs3 hm3 b8 c8 hh8 hk8 B8 b7 c7 hh7 hk7 B7 row7 hg7 hg25 hlt25 hlt24 HF1 HF2 a0 a1 a2 a3 a4 gf HD1 HD0 hAll hLen u1 u2 u3 u4 q1 q2 q1' q2'
  go_upto_region 16 with fail
  go_loopw [88] (fun i wr => ∃ j : Nat, j ≤ 4 ∧ i = .int .i64 (j : Int) ∧ Sp w w2.heap.size w5.heap.size A3 A2 s3 s2 D' wr) (fun i _ => 4 - (intOf i).toNat)
  case atStart => exact ⟨0, by decide, rfl, S8⟩
  case round =>
    obtain ⟨j, hj, hi, hS⟩ := hrel
    clear S8
    by_cases hlt : j < 4
    · have hst := Fam.next (I := Sp w w2.heap.size w5.heap.size A3 A2 s3 s2 D') (fun _ _ p q => p.step q)
      have hne : Nonempty (Fam (Sp w w2.heap.size w5.heap.size A3 A2 s3 s2 D')) := ⟨⟨_, hS⟩⟩
      rcases lt4 hlt with rfl | rfl | rfl | rfl
      · replace hi : _ = Value.int .i64 0 := hi; subst hi
        have p0 : ∀ X : Fam (Sp w w2.heap.size w5.heap.size A3 A2 s3 s2 D'), X.W.cell? ⟨w2.heap.size, 0, none⟩ = some (.int .i64 (R 0).x0) := fun X => X.ok.b1.cell 0 _ (by rw [Hb1.out]; rfl)
        have p1 : ∀ X : Fam (Sp w w2.heap.size w5.heap.size A3 A2 s3 s2 D'), X.W.cell? ⟨w2.heap.size, 1, none⟩ = some (.int .i64 (R 0).y0) := fun X => X.ok.b1.cell 1 _ (by rw [Hb1.out]; rfl)
        have p2 : ∀ X : Fam (Sp w w2.heap.size w5.heap.size A3 A2 s3 s2 D'), X.W.cell? ⟨w2.heap.size, 2, none⟩ = some (.int .i64 (R 0).x1) := fun X => X.ok.b1.cell 2 _ (by rw [Hb1.out]; rfl)
        have p3 : ∀ X : Fam (Sp w w2.heap.size w5.heap.size A3 A2 s3 s2 D'), X.W.cell? ⟨w2.heap.size, 3, none⟩ = some (.int .i64 (R 0).y1) := fun X => X.ok.b1.cell 3 _ (by rw [Hb1.out]; rfl)
        have p4 : ∀ X : Fam (Sp w w2.heap.size w5.heap.size A3 A2 s3 s2 D'), X.W.cell? ⟨w2.heap.size, 4, none⟩ = some (.slice (s3 0) (D' 0).length (m3 0)) := fun X => X.ok.b1.cell 4 _ (by rw [Hb1.out]; rfl)
        have q0 : ∀ X : Fam (Sp w w2.heap.size w5.heap.size A3 A2 s3 s2 D'), X.W.cell? ⟨w5.heap.size, 0, none⟩ = some (.int .i64 (R 0).x0) := fun X => X.ok.b2.cell 0 _ (by rw [Hb2.out]; rfl)
        have q1 : ∀ X : Fam (Sp w w2.heap.size w5.heap.size A3 A2 s3 s2 D'), X.W.cell? ⟨w5.heap.size, 1, none⟩ = some (.int .i64 (R 0).y0) := fun X => X.ok.b2.cell 1 _ (by rw [Hb2.out]; rfl)
        have q2 : ∀ X : Fam (Sp w w2.heap.size w5.heap.size A3 A2 s3 s2 D'), X.W.cell? ⟨w5.heap.size, 2, none⟩ = some (.int .i64 (R 0).x1) := fun X => X.ok.b2.cell 2 _ (by rw [Hb2.out]; rfl)
        have q3 : ∀ X : Fam (Sp w w2.heap.size w5.heap.size A3 A2 s3 s2 D'), X.W.cell? ⟨w5.heap.size, 3, none⟩ = some (.int .i64 (R 0).y1) := fun X => X.ok.b2.cell 3 _ (by rw [Hb2.out]; rfl)
        have q4 : ∀ X : Fam (Sp w w2.heap.size w5.heap.size A3 A2 s3 s2 D'), X.W.cell? ⟨w5.heap.size, 4, none⟩ = some (.slice (s2 0) (D' 0).length (m2 0)) := fun X => X.ok.b2.cell 4 _ (by rw [Hb2.out]; rfl)
        have cS : ∀ X : Fam (Sp w w2.heap.size w5.heap.size A3 A2 s3 s2 D'), Calls Try.prog 19 #[.agg #[.int .i64 (R 0).x0, .int .i64 (R 0).y0, .int .i64 (R 0).x1, .int .i64 (R 0).y1, .slice (s3 0) (D' 0).length (m3 0)], .agg #[.int .i64 (R 0).x0, .int .i64 (R 0).y0, .int .i64 (R 0).x1, .int .i64 (R 0).y1, .slice (s2 0) (D' 0).length (m2 0)]] X.W fun e w' => e = .returned (.bool true) ∧ Below X.W.heap.size X.W w' := fun X => same5_eq (R 0).x0 (R 0).y0 (R 0).x1 (R 0).y1 (s3 0) (s2 0) (m3 0) (m2 0) (D' 0) X.W (hD 0 (by decide)) (X.ok.h1 0 (by decide)) (X.ok.h2 0 (by decide))
        go_upto_region 18 with fail
        refine wp_region_in (fun X : Fam (Sp w w2.heap.size w5.heap.size A3 A2 s3 s2 D') => X.W) (by kernel_rfl) (by kernel_rfl) ⟨⟨_, hS.step (Below.refl _ _).drew⟩, rfl⟩ ?_
        repeat (first | go_big_quiet_step ((first | (go_at_call 19; exact call_in (cS _) (hst _)))) | quiet_step ((first | (go_at_call 19; exact call_in (cS _) (hst _)))))
        refine wpQuiet_nil ?_
        intro w9 hw'
        obtain ⟨⟨_, hS9⟩, hw''⟩ := hw'
        subst hw''
        clear cS p0 p1 p2 p3 p4 q0 q1 q2 q3 q4 hst hne
        have HS : Hid _ := hS9
        clear hS hS9
        go_wp2
        go_roundw
        case rel => exact ⟨1, by decide, (by first | rfl | go_num), HS.out⟩
        case measure => first | decide | (simp [intOf]; done) | (simp [intOf]; omega)
      · replace hi : _ = Value.int .i64 1 := hi; subst hi
        have p0 : ∀ X : Fam (Sp w w2.heap.size w5.heap.size A3 A2 s3 s2 D'), X.W.cell? ⟨w2.heap.size, 5, none⟩ = some (.int .i64 (R 1).x0) := fun X => X.ok.b1.cell 5 _ (by rw [Hb1.out]; rfl)
        have p1 : ∀ X : Fam (Sp w w2.heap.size w5.heap.size A3 A2 s3 s2 D'), X.W.cell? ⟨w2.heap.size, 6, none⟩ = some (.int .i64 (R 1).y0) := fun X => X.ok.b1.cell 6 _ (by rw [Hb1.out]; rfl)
        have p2 : ∀ X : Fam (Sp w w2.heap.size w5.heap.size A3 A2 s3 s2 D'), X.W.cell? ⟨w2.heap.size, 7, none⟩ = some (.int .i64 (R 1).x1) := fun X => X.ok.b1.cell 7 _ (by rw [Hb1.out]; rfl)
        have p3 : ∀ X : Fam (Sp w w2.heap.size w5.heap.size A3 A2 s3 s2 D'), X.W.cell? ⟨w2.heap.size, 8, none⟩ = some (.int .i64 (R 1).y1) := fun X => X.ok.b1.cell 8 _ (by rw [Hb1.out]; rfl)
        have p4 : ∀ X : Fam (Sp w w2.heap.size w5.heap.size A3 A2 s3 s2 D'), X.W.cell? ⟨w2.heap.size, 9, none⟩ = some (.slice (s3 1) (D' 1).length (m3 1)) := fun X => X.ok.b1.cell 9 _ (by rw [Hb1.out]; rfl)
        have q0 : ∀ X : Fam (Sp w w2.heap.size w5.heap.size A3 A2 s3 s2 D'), X.W.cell? ⟨w5.heap.size, 5, none⟩ = some (.int .i64 (R 1).x0) := fun X => X.ok.b2.cell 5 _ (by rw [Hb2.out]; rfl)
        have q1 : ∀ X : Fam (Sp w w2.heap.size w5.heap.size A3 A2 s3 s2 D'), X.W.cell? ⟨w5.heap.size, 6, none⟩ = some (.int .i64 (R 1).y0) := fun X => X.ok.b2.cell 6 _ (by rw [Hb2.out]; rfl)
        have q2 : ∀ X : Fam (Sp w w2.heap.size w5.heap.size A3 A2 s3 s2 D'), X.W.cell? ⟨w5.heap.size, 7, none⟩ = some (.int .i64 (R 1).x1) := fun X => X.ok.b2.cell 7 _ (by rw [Hb2.out]; rfl)
        have q3 : ∀ X : Fam (Sp w w2.heap.size w5.heap.size A3 A2 s3 s2 D'), X.W.cell? ⟨w5.heap.size, 8, none⟩ = some (.int .i64 (R 1).y1) := fun X => X.ok.b2.cell 8 _ (by rw [Hb2.out]; rfl)
        have q4 : ∀ X : Fam (Sp w w2.heap.size w5.heap.size A3 A2 s3 s2 D'), X.W.cell? ⟨w5.heap.size, 9, none⟩ = some (.slice (s2 1) (D' 1).length (m2 1)) := fun X => X.ok.b2.cell 9 _ (by rw [Hb2.out]; rfl)
        have cS : ∀ X : Fam (Sp w w2.heap.size w5.heap.size A3 A2 s3 s2 D'), Calls Try.prog 19 #[.agg #[.int .i64 (R 1).x0, .int .i64 (R 1).y0, .int .i64 (R 1).x1, .int .i64 (R 1).y1, .slice (s3 1) (D' 1).length (m3 1)], .agg #[.int .i64 (R 1).x0, .int .i64 (R 1).y0, .int .i64 (R 1).x1, .int .i64 (R 1).y1, .slice (s2 1) (D' 1).length (m2 1)]] X.W fun e w' => e = .returned (.bool true) ∧ Below X.W.heap.size X.W w' := fun X => same5_eq (R 1).x0 (R 1).y0 (R 1).x1 (R 1).y1 (s3 1) (s2 1) (m3 1) (m2 1) (D' 1) X.W (hD 1 (by decide)) (X.ok.h1 1 (by decide)) (X.ok.h2 1 (by decide))
        go_upto_region 18 with fail
        refine wp_region_in (fun X : Fam (Sp w w2.heap.size w5.heap.size A3 A2 s3 s2 D') => X.W) (by kernel_rfl) (by kernel_rfl) ⟨⟨_, hS.step (Below.refl _ _).drew⟩, rfl⟩ ?_
        repeat (first | go_big_quiet_step ((first | (go_at_call 19; exact call_in (cS _) (hst _)))) | quiet_step ((first | (go_at_call 19; exact call_in (cS _) (hst _)))))
        refine wpQuiet_nil ?_
        intro w9 hw'
        obtain ⟨⟨_, hS9⟩, hw''⟩ := hw'
        subst hw''
        clear cS p0 p1 p2 p3 p4 q0 q1 q2 q3 q4 hst hne
        have HS : Hid _ := hS9
        clear hS hS9
        go_wp2
        go_roundw
        case rel => exact ⟨2, by decide, (by first | rfl | go_num), HS.out⟩
        case measure => first | decide | (simp [intOf]; done) | (simp [intOf]; omega)
      · replace hi : _ = Value.int .i64 2 := hi; subst hi
        have p0 : ∀ X : Fam (Sp w w2.heap.size w5.heap.size A3 A2 s3 s2 D'), X.W.cell? ⟨w2.heap.size, 10, none⟩ = some (.int .i64 (R 2).x0) := fun X => X.ok.b1.cell 10 _ (by rw [Hb1.out]; rfl)
        have p1 : ∀ X : Fam (Sp w w2.heap.size w5.heap.size A3 A2 s3 s2 D'), X.W.cell? ⟨w2.heap.size, 11, none⟩ = some (.int .i64 (R 2).y0) := fun X => X.ok.b1.cell 11 _ (by rw [Hb1.out]; rfl)
        have p2 : ∀ X : Fam (Sp w w2.heap.size w5.heap.size A3 A2 s3 s2 D'), X.W.cell? ⟨w2.heap.size, 12, none⟩ = some (.int .i64 (R 2).x1) := fun X => X.ok.b1.cell 12 _ (by rw [Hb1.out]; rfl)
        have p3 : ∀ X : Fam (Sp w w2.heap.size w5.heap.size A3 A2 s3 s2 D'), X.W.cell? ⟨w2.heap.size, 13, none⟩ = some (.int .i64 (R 2).y1) := fun X => X.ok.b1.cell 13 _ (by rw [Hb1.out]; rfl)
        have p4 : ∀ X : Fam (Sp w w2.heap.size w5.heap.size A3 A2 s3 s2 D'), X.W.cell? ⟨w2.heap.size, 14, none⟩ = some (.slice (s3 2) (D' 2).length (m3 2)) := fun X => X.ok.b1.cell 14 _ (by rw [Hb1.out]; rfl)
        have q0 : ∀ X : Fam (Sp w w2.heap.size w5.heap.size A3 A2 s3 s2 D'), X.W.cell? ⟨w5.heap.size, 10, none⟩ = some (.int .i64 (R 2).x0) := fun X => X.ok.b2.cell 10 _ (by rw [Hb2.out]; rfl)
        have q1 : ∀ X : Fam (Sp w w2.heap.size w5.heap.size A3 A2 s3 s2 D'), X.W.cell? ⟨w5.heap.size, 11, none⟩ = some (.int .i64 (R 2).y0) := fun X => X.ok.b2.cell 11 _ (by rw [Hb2.out]; rfl)
        have q2 : ∀ X : Fam (Sp w w2.heap.size w5.heap.size A3 A2 s3 s2 D'), X.W.cell? ⟨w5.heap.size, 12, none⟩ = some (.int .i64 (R 2).x1) := fun X => X.ok.b2.cell 12 _ (by rw [Hb2.out]; rfl)
        have q3 : ∀ X : Fam (Sp w w2.heap.size w5.heap.size A3 A2 s3 s2 D'), X.W.cell? ⟨w5.heap.size, 13, none⟩ = some (.int .i64 (R 2).y1) := fun X => X.ok.b2.cell 13 _ (by rw [Hb2.out]; rfl)
        have q4 : ∀ X : Fam (Sp w w2.heap.size w5.heap.size A3 A2 s3 s2 D'), X.W.cell? ⟨w5.heap.size, 14, none⟩ = some (.slice (s2 2) (D' 2).length (m2 2)) := fun X => X.ok.b2.cell 14 _ (by rw [Hb2.out]; rfl)
        have cS : ∀ X : Fam (Sp w w2.heap.size w5.heap.size A3 A2 s3 s2 D'), Calls Try.prog 19 #[.agg #[.int .i64 (R 2).x0, .int .i64 (R 2).y0, .int .i64 (R 2).x1, .int .i64 (R 2).y1, .slice (s3 2) (D' 2).length (m3 2)], .agg #[.int .i64 (R 2).x0, .int .i64 (R 2).y0, .int .i64 (R 2).x1, .int .i64 (R 2).y1, .slice (s2 2) (D' 2).length (m2 2)]] X.W fun e w' => e = .returned (.bool true) ∧ Below X.W.heap.size X.W w' := fun X => same5_eq (R 2).x0 (R 2).y0 (R 2).x1 (R 2).y1 (s3 2) (s2 2) (m3 2) (m2 2) (D' 2) X.W (hD 2 (by decide)) (X.ok.h1 2 (by decide)) (X.ok.h2 2 (by decide))
        go_upto_region 18 with fail
        refine wp_region_in (fun X : Fam (Sp w w2.heap.size w5.heap.size A3 A2 s3 s2 D') => X.W) (by kernel_rfl) (by kernel_rfl) ⟨⟨_, hS.step (Below.refl _ _).drew⟩, rfl⟩ ?_
        repeat (first | go_big_quiet_step ((first | (go_at_call 19; exact call_in (cS _) (hst _)))) | quiet_step ((first | (go_at_call 19; exact call_in (cS _) (hst _)))))
        refine wpQuiet_nil ?_
        intro w9 hw'
        obtain ⟨⟨_, hS9⟩, hw''⟩ := hw'
        subst hw''
        clear cS p0 p1 p2 p3 p4 q0 q1 q2 q3 q4 hst hne
        have HS : Hid _ := hS9
        clear hS hS9
        go_wp2
        go_roundw
        case rel => exact ⟨3, by decide, (by first | rfl | go_num), HS.out⟩
        case measure => first | decide | (simp [intOf]; done) | (simp [intOf]; omega)
      · replace hi : _ = Value.int .i64 3 := hi; subst hi
        have p0 : ∀ X : Fam (Sp w w2.heap.size w5.heap.size A3 A2 s3 s2 D'), X.W.cell? ⟨w2.heap.size, 15, none⟩ = some (.int .i64 (R 3).x0) := fun X => X.ok.b1.cell 15 _ (by rw [Hb1.out]; rfl)
        have p1 : ∀ X : Fam (Sp w w2.heap.size w5.heap.size A3 A2 s3 s2 D'), X.W.cell? ⟨w2.heap.size, 16, none⟩ = some (.int .i64 (R 3).y0) := fun X => X.ok.b1.cell 16 _ (by rw [Hb1.out]; rfl)
        have p2 : ∀ X : Fam (Sp w w2.heap.size w5.heap.size A3 A2 s3 s2 D'), X.W.cell? ⟨w2.heap.size, 17, none⟩ = some (.int .i64 (R 3).x1) := fun X => X.ok.b1.cell 17 _ (by rw [Hb1.out]; rfl)
        have p3 : ∀ X : Fam (Sp w w2.heap.size w5.heap.size A3 A2 s3 s2 D'), X.W.cell? ⟨w2.heap.size, 18, none⟩ = some (.int .i64 (R 3).y1) := fun X => X.ok.b1.cell 18 _ (by rw [Hb1.out]; rfl)
        have p4 : ∀ X : Fam (Sp w w2.heap.size w5.heap.size A3 A2 s3 s2 D'), X.W.cell? ⟨w2.heap.size, 19, none⟩ = some (.slice (s3 3) (D' 3).length (m3 3)) := fun X => X.ok.b1.cell 19 _ (by rw [Hb1.out]; rfl)
        have q0 : ∀ X : Fam (Sp w w2.heap.size w5.heap.size A3 A2 s3 s2 D'), X.W.cell? ⟨w5.heap.size, 15, none⟩ = some (.int .i64 (R 3).x0) := fun X => X.ok.b2.cell 15 _ (by rw [Hb2.out]; rfl)
        have q1 : ∀ X : Fam (Sp w w2.heap.size w5.heap.size A3 A2 s3 s2 D'), X.W.cell? ⟨w5.heap.size, 16, none⟩ = some (.int .i64 (R 3).y0) := fun X => X.ok.b2.cell 16 _ (by rw [Hb2.out]; rfl)
        have q2 : ∀ X : Fam (Sp w w2.heap.size w5.heap.size A3 A2 s3 s2 D'), X.W.cell? ⟨w5.heap.size, 17, none⟩ = some (.int .i64 (R 3).x1) := fun X => X.ok.b2.cell 17 _ (by rw [Hb2.out]; rfl)
        have q3 : ∀ X : Fam (Sp w w2.heap.size w5.heap.size A3 A2 s3 s2 D'), X.W.cell? ⟨w5.heap.size, 18, none⟩ = some (.int .i64 (R 3).y1) := fun X => X.ok.b2.cell 18 _ (by rw [Hb2.out]; rfl)
        have q4 : ∀ X : Fam (Sp w w2.heap.size w5.heap.size A3 A2 s3 s2 D'), X.W.cell? ⟨w5.heap.size, 19, none⟩ = some (.slice (s2 3) (D' 3).length (m2 3)) := fun X => X.ok.b2.cell 19 _ (by rw [Hb2.out]; rfl)
        have cS : ∀ X : Fam (Sp w w2.heap.size w5.heap.size A3 A2 s3 s2 D'), Calls Try.prog 19 #[.agg #[.int .i64 (R 3).x0, .int .i64 (R 3).y0, .int .i64 (R 3).x1, .int .i64 (R 3).y1, .slice (s3 3) (D' 3).length (m3 3)], .agg #[.int .i64 (R 3).x0, .int .i64 (R 3).y0, .int .i64 (R 3).x1, .int .i64 (R 3).y1, .slice (s2 3) (D' 3).length (m2 3)]] X.W fun e w' => e = .returned (.bool true) ∧ Below X.W.heap.size X.W w' := fun X => same5_eq (R 3).x0 (R 3).y0 (R 3).x1 (R 3).y1 (s3 3) (s2 3) (m3 3) (m2 3) (D' 3) X.W (hD 3 (by decide)) (X.ok.h1 3 (by decide)) (X.ok.h2 3 (by decide))
        go_upto_region 18 with fail
        refine wp_region_in (fun X : Fam (Sp w w2.heap.size w5.heap.size A3 A2 s3 s2 D') => X.W) (by kernel_rfl) (by kernel_rfl) ⟨⟨_, hS.step (Below.refl _ _).drew⟩, rfl⟩ ?_
        repeat (first | go_big_quiet_step ((first | (go_at_call 19; exact call_in (cS _) (hst _)))) | quiet_step ((first | (go_at_call 19; exact call_in (cS _) (hst _)))))
        refine wpQuiet_nil ?_
        intro w9 hw'
        obtain ⟨⟨_, hS9⟩, hw''⟩ := hw'
        subst hw''
        clear cS p0 p1 p2 p3 p4 q0 q1 q2 q3 q4 hst hne
        have HS : Hid _ := hS9
        clear hS hS9
        go_wp2
        go_roundw
        case rel => exact ⟨4, by decide, (by first | rfl | go_num), HS.out⟩
        case measure => first | decide | (simp [intOf]; done) | (simp [intOf]; omega)
    · obtain rfl : j = 4 := by omega
      replace hi : _ = Value.int .i64 4 := hi; subst hi
      have HB : Hid _ := hS.below
      clear hS
      go_wp2_with (first | (go_at_call 16; (with_reducible refine (awake_c _).mono ?_); rintro e w9 ⟨rfl, hb9⟩))
      go_ret
      exact ⟨rfl, below_call HB.out hb9⟩
set_option maxRecDepth 100000 in
set_option maxHeartbeats 8000000 in
theorem mainTFTT (a b c d y kn : Int) (s : Option Addr) (l : List Int) (m : Nat) (w : World) (hm : l.length ≤ m) (hH : HoldsI w s l) (hf : l.length ≤ 4000) (hy0 : y ≤ 281474976710656) (hy : -281474976710656 ≤ y) (n h : Nat) (hp : pvB a b c d l.length = true) (hk : kB kn = true) (hfw : fewB l 35184372088832 = true) (hn : c - a = (n : Int)) (hh : d - b = (h : Int)) (hf2 : fewB (Ex.addL y l) 35184372088832 = true)
    (q1 : (c - a == 1) = true) (q1' : (a.tmod 2 == 1) = false) (q2 : (d - b == 1) = true) (q2' : (b.tmod 2 == 1) = true) (ho : offB a b n h = 2) (hall : ∀ o, o < 4 → ∀ v ∈ (bandQ a b kn n (Ex.cutR n l h) o).flatten, IntKind.i64.wrap (v + y) = v + y) (hlen : ∀ o, o < 4 → (bandQ a b kn n (Ex.cutR n l h) o).flatten.length ≤ 1048576) (hl2 : l.length = h * n) (vb : 0 ≤ a ∧ a ≤ 4096 ∧ 0 ≤ b ∧ b ≤ 4096 ∧ 0 ≤ c ∧ c ≤ 4096 ∧ 0 ≤ d ∧ d ≤ 4096) : Calls Try.prog 4 #[.agg #[.int .i64 a, .int .i64 b, .int .i64 c, .int .i64 d, .slice s l.length m], .int .i64 y, .int .i64 kn] w fun e w' => e = .returned (.bool true) ∧ Below w.heap.size w w' := by
  have HL2 : Hid _ := hl2
  clear hl2
  have x0 := QBox.fresh w a b c d s l.length m 26
  have B0 := below_alloc (Below.refl _ w) (.cells #[.int .i64 a, .int .i64 b, .int .i64 c, .int .i64 d, .slice s l.length m] 26)
  go_enter Try.func4, Try.ntmps4
  go_wp2_with fail
  refine (few5_c ⟨a, b, c, d⟩ s l.length m _).mono ?_
  rintro e w1 ⟨rfl, hb⟩
  replace x0 := x0.below hb
  replace B0 := below_call B0 hb
  have H1 := hH.below B0 (Nat.le_refl _)
  clear hb hH
  have gf : decide (l.length ≤ 4000) = true := decide_eq_true hf
  rw [gf]
  obtain ⟨y0, y1, y2, y3, y4⟩ := x0.open
  have cS := fun w hH => splitc_yes a b c d kn l s m n h w hp hk hfw hm hH hn hh
  have hin : ∀ v ∈ l, IntKind.i64.wrap (v + y) = v + y := fun v hv => by
    have := few_iff.1 hfw v hv
    exact IntWalk.i64_in _ (by omega)
  have hl1 : l.length ≤ 1048576 := by omega
  clear gf
  go_wp2_with fail
  refine (cS _ H1).mono ?_
  clear cS
  rintro e w2 ⟨s1, m1, rfl, hh1, hb⟩
  replace x0 := x0.below hb
  replace B0 := below_call B0 hb
  replace H1 := H1.call hb
  obtain ⟨D, hD0⟩ : ∃ D : Nat → List Int, D = fun o => (bandQ a b kn n (Ex.cutR n l h) o).flatten := ⟨_, rfl⟩
  have HD0 : Hid _ := hD0
  obtain ⟨R, hR0⟩ : ∃ R : Nat → Pl.R, R = bnds ⟨a, b, c, d⟩ := ⟨_, rfl⟩
  have HR0 : Hid _ := hR0
  obtain ⟨A1, hA1⟩ : ∃ A1, A1 = arrP R (fun o => .slice (s1 o) (D o).length (m1 o)) := ⟨_, rfl⟩
  have hA1' := hA1
  rw [hD0, hR0] at hA1'
  rw [← hA1']
  replace hh1 : ∀ o, o < 4 → HoldsI w2 (s1 o) (D o) := fun o ho => by rw [hD0]; exact (hh1 o ho).1
  have HF1 : Hid (∀ o, o < 4 → HoldsI w2 (s1 o) (D o)) := hh1
  have Hb1 : Hid _ := hA1
  have H20 : Hid (20 = A1.size) := by rw [hA1]; rfl
  have HI : Hid ((Try.prog.info? 27).map (·.size) = some A1.size) := by rw [hA1]; exact info20
  have hAo : A1.all (·.oneCell') = true := by rw [hA1]; simp [arrP_get, Value.oneCell']
  clear hA1 hA1' hb y0 y1 y2 y3 y4 hD0 hR0
  go_upto_region 4 with (first | (refine wpList_store_row rfl 27 (.tmp 7) (.tmp 29) rfl w2.heap.size A1 rfl rfl 27 _ (Blk.fresh w2 27 #[.int .i64 0, .int .i64 0, .int .i64 0, .int .i64 0, .slice none 0 0, .int .i64 0, .int .i64 0, .int .i64 0, .int .i64 0, .slice none 0 0, .int .i64 0, .int .i64 0, .int .i64 0, .int .i64 0, .slice none 0 0, .int .i64 0, .int .i64 0, .int .i64 0, .int .i64 0, .slice none 0 0]) HI.out H20.out hAo ?_))
  obtain ⟨W3, hW3⟩ : ∃ W3, W3 = (w2.alloc (.cells #[.int .i64 0, .int .i64 0, .int .i64 0, .int .i64 0, .slice none 0 0, .int .i64 0, .int .i64 0, .int .i64 0, .int .i64 0, .slice none 0 0, .int .i64 0, .int .i64 0, .int .i64 0, .int .i64 0, .slice none 0 0, .int .i64 0, .int .i64 0, .int .i64 0, .int .i64 0, .slice none 0 0] 27)).setRow w2.heap.size A1 := ⟨_, rfl⟩
  have B3 : Below w.heap.size w W3 := by rw [hW3]; exact below_row (below_alloc B0 _) B0.size _
  have b3 : Blk W3 w2.heap.size 27 A1 := by rw [hW3]; exact (Blk.fresh w2 27 #[.int .i64 0, .int .i64 0, .int .i64 0, .int .i64 0, .slice none 0 0, .int .i64 0, .int .i64 0, .int .i64 0, .int .i64 0, .slice none 0 0, .int .i64 0, .int .i64 0, .int .i64 0, .int .i64 0, .slice none 0 0, .int .i64 0, .int .i64 0, .int .i64 0, .int .i64 0, .slice none 0 0]).row A1
  have x3 : QBox W3 w.heap.size ⟨a, b, c, d⟩ (.slice s l.length m) := by rw [hW3]; exact (x0.alloc _).but (But.setRow _) (Nat.ne_of_lt x0.lt)
  have H3 : HoldsI W3 s l := by rw [hW3]; exact holds_rowed H1 _ _
  have hh3 : ∀ o, o < 4 → HoldsI W3 (s1 o) (D o) := fun o ho => by rw [hW3]; exact holds_rowed (hh1 o ho) _ _
  have h20 : w.heap.size ≤ w2.heap.size := B0.size
  rw [← hW3]
  clear hW3 B0 hAo x0 H1 hh1 H20 HI
  obtain ⟨y0, y1, y2, y3, y4⟩ := x3.open
  go_wp2_with fail
  refine (mv5_c a b c d y s m l _ hl1 H3 hin).mono ?_
  rintro e w4 ⟨g, rfl, row, hb, hg⟩
  replace x3 := x3.below hb
  replace B3 := below_call B3 hb
  replace b3 := b3.below hb
  replace hh3 := fun o (ho : o < 4) => (hh3 o ho).call hb
  have HLn : Hid ((Ex.addL y l).length = l.length) := Ex.addL_len y l
  clear hb y0 y1 y2 y3 y4 H3 hin
  go_wp2_with fail
  refine (splitc_yes a b c d kn (Ex.addL y l) (some ⟨g, 0, none⟩) (Ex.addL y l).length n h _ (by rw [HLn.out]; exact hp) hk hf2 (Nat.le_refl _) row.holds hn hh).mono ?_
  rintro e w5 ⟨s2, m2, rfl, hh2, hb⟩
  have HF2 : Hid (∀ o, o < 4 → Fresh w4 (s2 o)) := fun o ho => (hh2 o ho).2.2.2
  have hlt24 : Hid (w2.heap.size < w4.heap.size) := b3.lt
  replace x3 := x3.below hb
  replace B3 := below_call B3 hb
  replace b3 := b3.below hb
  replace hh3 := fun o (ho : o < 4) => (hh3 o ho).call hb
  obtain ⟨D', hD1⟩ : ∃ D' : Nat → List Int, D' = fun o => (bandQ a b kn n (Ex.cutR n (Ex.addL y l) h) o).flatten := ⟨_, rfl⟩
  have HD1 : Hid (∀ o, o < 4 → D' o = if o = 2 then Ex.addL y (D o) else D o) := fun o hlt => by rw [hD1, HD0.out]; have := band_add (a := a) (b := b) (d := y) hk HL2.out o hlt; rw [ho] at this; exact this
  have hAll : Hid (∀ v ∈ D 2, IntKind.i64.wrap (v + y) = v + y) := by rw [HD0.out]; exact hall 2 (by decide)
  have hLen : Hid (∀ o, o < 4 → (D o).length ≤ 1048576) := by rw [HD0.out]; exact hlen
  obtain ⟨A2, hA2⟩ : ∃ A2, A2 = arrP R (fun o => .slice (s2 o) (D' o).length (m2 o)) := ⟨_, rfl⟩
  have hA2' := hA2
  rw [hD1, HR0.out] at hA2'
  rw [← hA2']
  replace hh2 : ∀ o, o < 4 → HoldsI w5 (s2 o) (D' o) := fun o ho => by rw [hD1]; exact (hh2 o ho).1
  have Hb2 : Hid _ := hA2
  have H20 : Hid (20 = A2.size) := by rw [hA2]; rfl
  have HI : Hid ((Try.prog.info? 27).map (·.size) = some A2.size) := by rw [hA2]; exact info20
  have hAo : A2.all (·.oneCell') = true := by rw [hA2]; simp [arrP_get, Value.oneCell']
  clear hA2 hA2' hb hD1 row hall hlen
  go_upto_region 7 with (first | (refine wpList_store_row rfl 27 (.tmp 9) (.tmp 40) rfl w5.heap.size A2 rfl rfl 27 _ (Blk.fresh w5 27 #[.int .i64 0, .int .i64 0, .int .i64 0, .int .i64 0, .slice none 0 0, .int .i64 0, .int .i64 0, .int .i64 0, .int .i64 0, .slice none 0 0, .int .i64 0, .int .i64 0, .int .i64 0, .int .i64 0, .slice none 0 0, .int .i64 0, .int .i64 0, .int .i64 0, .int .i64 0, .slice none 0 0]) HI.out H20.out hAo ?_))
  obtain ⟨W6, hW6⟩ : ∃ W6, W6 = (w5.alloc (.cells #[.int .i64 0, .int .i64 0, .int .i64 0, .int .i64 0, .slice none 0 0, .int .i64 0, .int .i64 0, .int .i64 0, .int .i64 0, .slice none 0 0, .int .i64 0, .int .i64 0, .int .i64 0, .int .i64 0, .slice none 0 0, .int .i64 0, .int .i64 0, .int .i64 0, .int .i64 0, .slice none 0 0] 27)).setRow w5.heap.size A2 := ⟨_, rfl⟩
  have B6 : Below w.heap.size w W6 := by rw [hW6]; exact below_row (below_alloc B3 _) B3.size _
  have b6 : Blk W6 w2.heap.size 27 A1 := by rw [hW6]; exact (b3.alloc _).but (But.setRow _) (Nat.ne_of_lt b3.lt)
  have c6 : Blk W6 w5.heap.size 27 A2 := by rw [hW6]; exact (Blk.fresh w5 27 #[.int .i64 0, .int .i64 0, .int .i64 0, .int .i64 0, .slice none 0 0, .int .i64 0, .int .i64 0, .int .i64 0, .int .i64 0, .slice none 0 0, .int .i64 0, .int .i64 0, .int .i64 0, .int .i64 0, .slice none 0 0, .int .i64 0, .int .i64 0, .int .i64 0, .int .i64 0, .slice none 0 0]).row A2
  have x6 : QBox W6 w.heap.size ⟨a, b, c, d⟩ (.slice s l.length m) := by rw [hW6]; exact (x3.alloc _).but (But.setRow _) (Nat.ne_of_lt x3.lt)
  have hh6 : ∀ o, o < 4 → HoldsI W6 (s1 o) (D o) := fun o ho => by rw [hW6]; exact holds_rowed (hh3 o ho) _ _
  have hk6 : ∀ o, o < 4 → HoldsI W6 (s2 o) (D' o) := fun o ho => by rw [hW6]; exact holds_rowed (hh2 o ho) _ _
  have hlt25 : Hid (w2.heap.size < w5.heap.size) := b3.lt
  rw [← hW6]
  clear hW6 B3 b3 hAo x3 hh3 hh2 H20 HI hn hh hp
  obtain ⟨y0, y1, y2, y3, y4⟩ := x6.open
  have u1 : IntKind.i64.wrap (c - a) = c - a := IntWalk.i64_in _ (by omega)
  have u2 : IntKind.i64.wrap (d - b) = d - b := IntWalk.i64_in _ (by omega)
  have u3 : IntKind.i64.wrap (a.tmod 2) = a.tmod 2 := IntWalk.i64_in _ (by rw [Int.tmod_eq_emod_of_nonneg vb.1]; omega)
  have u4 : IntKind.i64.wrap (b.tmod 2) = b.tmod 2 := IntWalk.i64_in _ (by rw [Int.tmod_eq_emod_of_nonneg vb.2.2.1]; omega)
  have a0 : W6.cell? ⟨w2.heap.size, 10, none⟩ = some (.int .i64 (R 2).x0) := b6.cell 10 _ (by rw [Hb1.out]; rfl)
  have a1 : W6.cell? ⟨w2.heap.size, 11, none⟩ = some (.int .i64 (R 2).y0) := b6.cell 11 _ (by rw [Hb1.out]; rfl)
  have a2 : W6.cell? ⟨w2.heap.size, 12, none⟩ = some (.int .i64 (R 2).x1) := b6.cell 12 _ (by rw [Hb1.out]; rfl)
  have a3 : W6.cell? ⟨w2.heap.size, 13, none⟩ = some (.int .i64 (R 2).y1) := b6.cell 13 _ (by rw [Hb1.out]; rfl)
  have a4 : W6.cell? ⟨w2.heap.size, 14, none⟩ = some (.slice (s1 2) (D 2).length (m1 2)) := b6.cell 14 _ (by rw [Hb1.out]; rfl)
  clear vb
  go_wp2_with fail
  refine (mv5_c (R 2).x0 (R 2).y0 (R 2).x1 (R 2).y1 y (s1 2) (m1 2) (D 2) _ (hLen.out 2 (by decide)) (hh6 2 (by decide)) hAll.out).mono ?_
  rintro e w7 ⟨g7, rfl, row7, hb, hg7⟩
  have b7 := b6.below hb
  have c7 := c6.below hb
  have hh7 := fun o (ho : o < 4) => (hh6 o ho).call hb
  have hk7 := fun o (ho : o < 4) => (hk6 o ho).call hb
  have B7 := below_call B6 hb
  have hg25 : Hid (w2.heap.size < g7) := by have := b6.lt; show _ < _; omega
  clear y0 y1 y2 y3 y4 a0 a1 a2 a3 a4 b6 c6 x6 hh6 hk6 B6 hb
  have a0 : w7.cell? ⟨w2.heap.size, 10, none⟩ = some (.int .i64 (R 2).x0) := b7.cell 10 _ (by rw [Hb1.out]; rfl)
  have a1 : w7.cell? ⟨w2.heap.size, 11, none⟩ = some (.int .i64 (R 2).y0) := b7.cell 11 _ (by rw [Hb1.out]; rfl)
  have a2 : w7.cell? ⟨w2.heap.size, 12, none⟩ = some (.int .i64 (R 2).x1) := b7.cell 12 _ (by rw [Hb1.out]; rfl)
  have a3 : w7.cell? ⟨w2.heap.size, 13, none⟩ = some (.int .i64 (R 2).y1) := b7.cell 13 _ (by rw [Hb1.out]; rfl)
  have a4 : w7.cell? ⟨w2.heap.size, 14, none⟩ = some (.slice (s1 2) (D 2).length (m1 2)) := b7.cell 14 _ (by rw [Hb1.out]; rfl)
  have gf : ∀ j, w7.frozen? ⟨w2.heap.size, j, none⟩ = false := b7.free
  go_upto_region 15 with fail
  obtain ⟨W8, hW8⟩ : ∃ W8, W8 = (((((w7.setCell ⟨w2.heap.size, 10, none⟩ (.int .i64 (R 2).x0)).setCell ⟨w2.heap.size, 11, none⟩ (.int .i64 (R 2).y0)).setCell ⟨w2.heap.size, 12, none⟩ (.int .i64 (R 2).x1)).setCell ⟨w2.heap.size, 13, none⟩ (.int .i64 (R 2).y1)).setCell ⟨w2.heap.size, 14, none⟩ (.slice (some ⟨g7, 0, none⟩) (Ex.addL y (D 2)).length (Ex.addL y (D 2)).length)) := ⟨_, rfl⟩
  obtain ⟨s3, hs3⟩ : ∃ s3 : Nat → Option Addr, s3 = fun i => if i = 2 then some ⟨g7, 0, none⟩ else s1 i := ⟨_, rfl⟩
  obtain ⟨m3, hm3⟩ : ∃ m3 : Nat → Nat, m3 = fun i => if i = 2 then (Ex.addL y (D 2)).length else m1 i := ⟨_, rfl⟩
  obtain ⟨A3, hA3⟩ : ∃ A3, A3 = arrP R (fun i => .slice (s3 i) (D' i).length (m3 i)) := ⟨_, rfl⟩
  have b8 : Blk W8 w2.heap.size 27 A3 := by
    rw [hW8, hA3]
    have h := b7
    rw [Hb1.out] at h
    have h2 := blkP_all h 2 (by decide) (.slice (some ⟨g7, 0, none⟩) (Ex.addL y (D 2)).length (Ex.addL y (D 2)).length)
    rw [arrP_cong (V' := fun i => .slice (s3 i) (D' i).length (m3 i))] at h2
    · exact h2
    · intro i hi
      show (if i = 2 then _ else _) = _
      rw [HD1.out i hi, hs3, hm3]
      by_cases hq : i = 2
      · subst hq; simp
      · simp [hq]
  have c8 : Blk W8 w5.heap.size 27 A2 := by
    have hn : w5.heap.size ≠ w2.heap.size := Nat.ne_of_gt hlt25.out
    rw [hW8]
    exact ((((c7.far _ _ hn).far _ _ hn).far _ _ hn).far _ _ hn).far _ _ hn
  have hh8 : ∀ o, o < 4 → HoldsI W8 (s3 o) (D' o) := fun i hi => by
    rw [HD1.out i hi, hs3, hW8]
    by_cases hq : i = 2
    · subst hq
      have hn : g7 ≠ w2.heap.size := Nat.ne_of_gt hg25.out
      simp only [if_pos]
      exact (((((row7.far _ _ hn).far _ _ hn).far _ _ hn).far _ _ hn).far _ _ hn).holds
    · simp only [if_neg hq]
      have h0 := HF1.out i hi
      exact holds_cellW (holds_cellW (holds_cellW (holds_cellW (holds_cellW (hh7 i hi) h0 _ _) h0 _ _) h0 _ _) h0 _ _) h0 _ _
  have hk8 : ∀ o, o < 4 → HoldsI W8 (s2 o) (D' o) := fun i hi => by
    have h0 := HF2.out i hi
    have hB := hlt24.out
    rw [hW8]
    exact (((((hk7 i hi).farW h0 hB _).farW h0 hB _).farW h0 hB _).farW h0 hB _).farW h0 hB _
  have hw2 : w.heap.size ≤ w2.heap.size := h20
  have B8 : Below w.heap.size w W8 := by
    rw [hW8]
    exact ((((B7.setCell hw2 _).setCell hw2 _).setCell hw2 _).setCell hw2 _).setCell hw2 _
  have S8 : Sp w w2.heap.size w5.heap.size A3 A2 s3 s2 D' W8 := ⟨B8, b8, c8, hh8, hk8⟩
  have hD : ∀ j, j < 4 → (D' j).length ≤ 140737488351232 := fun j hj => by
    have := hLen.out j hj
    rw [HD1.out j hj]
    split
    · rename_i hq; subst hq; rw [Ex.addL_len]; omega
    · omega
  clear Hb1
  have Hb1 : Hid _ := hA3
  rw [← hW8]
  clear hW8 hA3 hs3 hm3 b8 c8 hh8 hk8 B8 b7 c7 hh7 hk7 B7 row7 hg7 hg25 hlt25 hlt24 HF1 HF2 a0 a1 a2 a3 a4 gf HD1 HD0 hAll hLen u1 u2 u3 u4 q1 q2 q1' q2'
  go_upto_region 16 with fail
  go_loopw [88] (fun i wr => ∃ j : Nat, j ≤ 4 ∧ i = .int .i64 (j : Int) ∧ Sp w w2.heap.size w5.heap.size A3 A2 s3 s2 D' wr) (fun i _ => 4 - (intOf i).toNat)
  case atStart => exact ⟨0, by decide, rfl, S8⟩
  case round =>
    obtain ⟨j, hj, hi, hS⟩ := hrel
    clear S8
    by_cases hlt : j < 4
    · have hst := Fam.next (I := Sp w w2.heap.size w5.heap.size A3 A2 s3 s2 D') (fun _ _ p q => p.step q)
      have hne : Nonempty (Fam (Sp w w2.heap.size w5.heap.size A3 A2 s3 s2 D')) := ⟨⟨_, hS⟩⟩
      rcases lt4 hlt with rfl | rfl | rfl | rfl
      · replace hi : _ = Value.int .i64 0 := hi; subst hi
        have p0 : ∀ X : Fam (Sp w w2.heap.size w5.heap.size A3 A2 s3 s2 D'), X.W.cell? ⟨w2.heap.size, 0, none⟩ = some (.int .i64 (R 0).x0) := fun X => X.ok.b1.cell 0 _ (by rw [Hb1.out]; rfl)
        have p1 : ∀ X : Fam (Sp w w2.heap.size w5.heap.size A3 A2 s3 s2 D'), X.W.cell? ⟨w2.heap.size, 1, none⟩ = some (.int .i64 (R 0).y0) := fun X => X.ok.b1.cell 1 _ (by rw [Hb1.out]; rfl)
        have p2 : ∀ X : Fam (Sp w w2.heap.size w5.heap.size A3 A2 s3 s2 D'), X.W.cell? ⟨w2.heap.size, 2, none⟩ = some (.int .i64 (R 0).x1) := fun X => X.ok.b1.cell 2 _ (by rw [Hb1.out]; rfl)
        have p3 : ∀ X : Fam (Sp w w2.heap.size w5.heap.size A3 A2 s3 s2 D'), X.W.cell? ⟨w2.heap.size, 3, none⟩ = some (.int .i64 (R 0).y1) := fun X => X.ok.b1.cell 3 _ (by rw [Hb1.out]; rfl)
        have p4 : ∀ X : Fam (Sp w w2.heap.size w5.heap.size A3 A2 s3 s2 D'), X.W.cell? ⟨w2.heap.size, 4, none⟩ = some (.slice (s3 0) (D' 0).length (m3 0)) := fun X => X.ok.b1.cell 4 _ (by rw [Hb1.out]; rfl)
        have q0 : ∀ X : Fam (Sp w w2.heap.size w5.heap.size A3 A2 s3 s2 D'), X.W.cell? ⟨w5.heap.size, 0, none⟩ = some (.int .i64 (R 0).x0) := fun X => X.ok.b2.cell 0 _ (by rw [Hb2.out]; rfl)
        have q1 : ∀ X : Fam (Sp w w2.heap.size w5.heap.size A3 A2 s3 s2 D'), X.W.cell? ⟨w5.heap.size, 1, none⟩ = some (.int .i64 (R 0).y0) := fun X => X.ok.b2.cell 1 _ (by rw [Hb2.out]; rfl)
        have q2 : ∀ X : Fam (Sp w w2.heap.size w5.heap.size A3 A2 s3 s2 D'), X.W.cell? ⟨w5.heap.size, 2, none⟩ = some (.int .i64 (R 0).x1) := fun X => X.ok.b2.cell 2 _ (by rw [Hb2.out]; rfl)
        have q3 : ∀ X : Fam (Sp w w2.heap.size w5.heap.size A3 A2 s3 s2 D'), X.W.cell? ⟨w5.heap.size, 3, none⟩ = some (.int .i64 (R 0).y1) := fun X => X.ok.b2.cell 3 _ (by rw [Hb2.out]; rfl)
        have q4 : ∀ X : Fam (Sp w w2.heap.size w5.heap.size A3 A2 s3 s2 D'), X.W.cell? ⟨w5.heap.size, 4, none⟩ = some (.slice (s2 0) (D' 0).length (m2 0)) := fun X => X.ok.b2.cell 4 _ (by rw [Hb2.out]; rfl)
        have cS : ∀ X : Fam (Sp w w2.heap.size w5.heap.size A3 A2 s3 s2 D'), Calls Try.prog 19 #[.agg #[.int .i64 (R 0).x0, .int .i64 (R 0).y0, .int .i64 (R 0).x1, .int .i64 (R 0).y1, .slice (s3 0) (D' 0).length (m3 0)], .agg #[.int .i64 (R 0).x0, .int .i64 (R 0).y0, .int .i64 (R 0).x1, .int .i64 (R 0).y1, .slice (s2 0) (D' 0).length (m2 0)]] X.W fun e w' => e = .returned (.bool true) ∧ Below X.W.heap.size X.W w' := fun X => same5_eq (R 0).x0 (R 0).y0 (R 0).x1 (R 0).y1 (s3 0) (s2 0) (m3 0) (m2 0) (D' 0) X.W (hD 0 (by decide)) (X.ok.h1 0 (by decide)) (X.ok.h2 0 (by decide))
        go_upto_region 18 with fail
        refine wp_region_in (fun X : Fam (Sp w w2.heap.size w5.heap.size A3 A2 s3 s2 D') => X.W) (by kernel_rfl) (by kernel_rfl) ⟨⟨_, hS.step (Below.refl _ _).drew⟩, rfl⟩ ?_
        repeat (first | go_big_quiet_step ((first | (go_at_call 19; exact call_in (cS _) (hst _)))) | quiet_step ((first | (go_at_call 19; exact call_in (cS _) (hst _)))))
        refine wpQuiet_nil ?_
        intro w9 hw'
        obtain ⟨⟨_, hS9⟩, hw''⟩ := hw'
        subst hw''
        clear cS p0 p1 p2 p3 p4 q0 q1 q2 q3 q4 hst hne
        have HS : Hid _ := hS9
        clear hS hS9
        go_wp2
        go_roundw
        case rel => exact ⟨1, by decide, (by first | rfl | go_num), HS.out⟩
        case measure => first | decide | (simp [intOf]; done) | (simp [intOf]; omega)
      · replace hi : _ = Value.int .i64 1 := hi; subst hi
        have p0 : ∀ X : Fam (Sp w w2.heap.size w5.heap.size A3 A2 s3 s2 D'), X.W.cell? ⟨w2.heap.size, 5, none⟩ = some (.int .i64 (R 1).x0) := fun X => X.ok.b1.cell 5 _ (by rw [Hb1.out]; rfl)
        have p1 : ∀ X : Fam (Sp w w2.heap.size w5.heap.size A3 A2 s3 s2 D'), X.W.cell? ⟨w2.heap.size, 6, none⟩ = some (.int .i64 (R 1).y0) := fun X => X.ok.b1.cell 6 _ (by rw [Hb1.out]; rfl)
        have p2 : ∀ X : Fam (Sp w w2.heap.size w5.heap.size A3 A2 s3 s2 D'), X.W.cell? ⟨w2.heap.size, 7, none⟩ = some (.int .i64 (R 1).x1) := fun X => X.ok.b1.cell 7 _ (by rw [Hb1.out]; rfl)
        have p3 : ∀ X : Fam (Sp w w2.heap.size w5.heap.size A3 A2 s3 s2 D'), X.W.cell? ⟨w2.heap.size, 8, none⟩ = some (.int .i64 (R 1).y1) := fun X => X.ok.b1.cell 8 _ (by rw [Hb1.out]; rfl)
        have p4 : ∀ X : Fam (Sp w w2.heap.size w5.heap.size A3 A2 s3 s2 D'), X.W.cell? ⟨w2.heap.size, 9, none⟩ = some (.slice (s3 1) (D' 1).length (m3 1)) := fun X => X.ok.b1.cell 9 _ (by rw [Hb1.out]; rfl)
        have q0 : ∀ X : Fam (Sp w w2.heap.size w5.heap.size A3 A2 s3 s2 D'), X.W.cell? ⟨w5.heap.size, 5, none⟩ = some (.int .i64 (R 1).x0) := fun X => X.ok.b2.cell 5 _ (by rw [Hb2.out]; rfl)
        have q1 : ∀ X : Fam (Sp w w2.heap.size w5.heap.size A3 A2 s3 s2 D'), X.W.cell? ⟨w5.heap.size, 6, none⟩ = some (.int .i64 (R 1).y0) := fun X => X.ok.b2.cell 6 _ (by rw [Hb2.out]; rfl)
        have q2 : ∀ X : Fam (Sp w w2.heap.size w5.heap.size A3 A2 s3 s2 D'), X.W.cell? ⟨w5.heap.size, 7, none⟩ = some (.int .i64 (R 1).x1) := fun X => X.ok.b2.cell 7 _ (by rw [Hb2.out]; rfl)
        have q3 : ∀ X : Fam (Sp w w2.heap.size w5.heap.size A3 A2 s3 s2 D'), X.W.cell? ⟨w5.heap.size, 8, none⟩ = some (.int .i64 (R 1).y1) := fun X => X.ok.b2.cell 8 _ (by rw [Hb2.out]; rfl)
        have q4 : ∀ X : Fam (Sp w w2.heap.size w5.heap.size A3 A2 s3 s2 D'), X.W.cell? ⟨w5.heap.size, 9, none⟩ = some (.slice (s2 1) (D' 1).length (m2 1)) := fun X => X.ok.b2.cell 9 _ (by rw [Hb2.out]; rfl)
        have cS : ∀ X : Fam (Sp w w2.heap.size w5.heap.size A3 A2 s3 s2 D'), Calls Try.prog 19 #[.agg #[.int .i64 (R 1).x0, .int .i64 (R 1).y0, .int .i64 (R 1).x1, .int .i64 (R 1).y1, .slice (s3 1) (D' 1).length (m3 1)], .agg #[.int .i64 (R 1).x0, .int .i64 (R 1).y0, .int .i64 (R 1).x1, .int .i64 (R 1).y1, .slice (s2 1) (D' 1).length (m2 1)]] X.W fun e w' => e = .returned (.bool true) ∧ Below X.W.heap.size X.W w' := fun X => same5_eq (R 1).x0 (R 1).y0 (R 1).x1 (R 1).y1 (s3 1) (s2 1) (m3 1) (m2 1) (D' 1) X.W (hD 1 (by decide)) (X.ok.h1 1 (by decide)) (X.ok.h2 1 (by decide))
        go_upto_region 18 with fail
        refine wp_region_in (fun X : Fam (Sp w w2.heap.size w5.heap.size A3 A2 s3 s2 D') => X.W) (by kernel_rfl) (by kernel_rfl) ⟨⟨_, hS.step (Below.refl _ _).drew⟩, rfl⟩ ?_
        repeat (first | go_big_quiet_step ((first | (go_at_call 19; exact call_in (cS _) (hst _)))) | quiet_step ((first | (go_at_call 19; exact call_in (cS _) (hst _)))))
        refine wpQuiet_nil ?_
        intro w9 hw'
        obtain ⟨⟨_, hS9⟩, hw''⟩ := hw'
        subst hw''
        clear cS p0 p1 p2 p3 p4 q0 q1 q2 q3 q4 hst hne
        have HS : Hid _ := hS9
        clear hS hS9
        go_wp2
        go_roundw
        case rel => exact ⟨2, by decide, (by first | rfl | go_num), HS.out⟩
        case measure => first | decide | (simp [intOf]; done) | (simp [intOf]; omega)
      · replace hi : _ = Value.int .i64 2 := hi; subst hi
        have p0 : ∀ X : Fam (Sp w w2.heap.size w5.heap.size A3 A2 s3 s2 D'), X.W.cell? ⟨w2.heap.size, 10, none⟩ = some (.int .i64 (R 2).x0) := fun X => X.ok.b1.cell 10 _ (by rw [Hb1.out]; rfl)
        have p1 : ∀ X : Fam (Sp w w2.heap.size w5.heap.size A3 A2 s3 s2 D'), X.W.cell? ⟨w2.heap.size, 11, none⟩ = some (.int .i64 (R 2).y0) := fun X => X.ok.b1.cell 11 _ (by rw [Hb1.out]; rfl)
        have p2 : ∀ X : Fam (Sp w w2.heap.size w5.heap.size A3 A2 s3 s2 D'), X.W.cell? ⟨w2.heap.size, 12, none⟩ = some (.int .i64 (R 2).x1) := fun X => X.ok.b1.cell 12 _ (by rw [Hb1.out]; rfl)
        have p3 : ∀ X : Fam (Sp w w2.heap.size w5.heap.size A3 A2 s3 s2 D'), X.W.cell? ⟨w2.heap.size, 13, none⟩ = some (.int .i64 (R 2).y1) := fun X => X.ok.b1.cell 13 _ (by rw [Hb1.out]; rfl)
        have p4 : ∀ X : Fam (Sp w w2.heap.size w5.heap.size A3 A2 s3 s2 D'), X.W.cell? ⟨w2.heap.size, 14, none⟩ = some (.slice (s3 2) (D' 2).length (m3 2)) := fun X => X.ok.b1.cell 14 _ (by rw [Hb1.out]; rfl)
        have q0 : ∀ X : Fam (Sp w w2.heap.size w5.heap.size A3 A2 s3 s2 D'), X.W.cell? ⟨w5.heap.size, 10, none⟩ = some (.int .i64 (R 2).x0) := fun X => X.ok.b2.cell 10 _ (by rw [Hb2.out]; rfl)
        have q1 : ∀ X : Fam (Sp w w2.heap.size w5.heap.size A3 A2 s3 s2 D'), X.W.cell? ⟨w5.heap.size, 11, none⟩ = some (.int .i64 (R 2).y0) := fun X => X.ok.b2.cell 11 _ (by rw [Hb2.out]; rfl)
        have q2 : ∀ X : Fam (Sp w w2.heap.size w5.heap.size A3 A2 s3 s2 D'), X.W.cell? ⟨w5.heap.size, 12, none⟩ = some (.int .i64 (R 2).x1) := fun X => X.ok.b2.cell 12 _ (by rw [Hb2.out]; rfl)
        have q3 : ∀ X : Fam (Sp w w2.heap.size w5.heap.size A3 A2 s3 s2 D'), X.W.cell? ⟨w5.heap.size, 13, none⟩ = some (.int .i64 (R 2).y1) := fun X => X.ok.b2.cell 13 _ (by rw [Hb2.out]; rfl)
        have q4 : ∀ X : Fam (Sp w w2.heap.size w5.heap.size A3 A2 s3 s2 D'), X.W.cell? ⟨w5.heap.size, 14, none⟩ = some (.slice (s2 2) (D' 2).length (m2 2)) := fun X => X.ok.b2.cell 14 _ (by rw [Hb2.out]; rfl)
        have cS : ∀ X : Fam (Sp w w2.heap.size w5.heap.size A3 A2 s3 s2 D'), Calls Try.prog 19 #[.agg #[.int .i64 (R 2).x0, .int .i64 (R 2).y0, .int .i64 (R 2).x1, .int .i64 (R 2).y1, .slice (s3 2) (D' 2).length (m3 2)], .agg #[.int .i64 (R 2).x0, .int .i64 (R 2).y0, .int .i64 (R 2).x1, .int .i64 (R 2).y1, .slice (s2 2) (D' 2).length (m2 2)]] X.W fun e w' => e = .returned (.bool true) ∧ Below X.W.heap.size X.W w' := fun X => same5_eq (R 2).x0 (R 2).y0 (R 2).x1 (R 2).y1 (s3 2) (s2 2) (m3 2) (m2 2) (D' 2) X.W (hD 2 (by decide)) (X.ok.h1 2 (by decide)) (X.ok.h2 2 (by decide))
        go_upto_region 18 with fail
        refine wp_region_in (fun X : Fam (Sp w w2.heap.size w5.heap.size A3 A2 s3 s2 D') => X.W) (by kernel_rfl) (by kernel_rfl) ⟨⟨_, hS.step (Below.refl _ _).drew⟩, rfl⟩ ?_
        repeat (first | go_big_quiet_step ((first | (go_at_call 19; exact call_in (cS _) (hst _)))) | quiet_step ((first | (go_at_call 19; exact call_in (cS _) (hst _)))))
        refine wpQuiet_nil ?_
        intro w9 hw'
        obtain ⟨⟨_, hS9⟩, hw''⟩ := hw'
        subst hw''
        clear cS p0 p1 p2 p3 p4 q0 q1 q2 q3 q4 hst hne
        have HS : Hid _ := hS9
        clear hS hS9
        go_wp2
        go_roundw
        case rel => exact ⟨3, by decide, (by first | rfl | go_num), HS.out⟩
        case measure => first | decide | (simp [intOf]; done) | (simp [intOf]; omega)
      · replace hi : _ = Value.int .i64 3 := hi; subst hi
        have p0 : ∀ X : Fam (Sp w w2.heap.size w5.heap.size A3 A2 s3 s2 D'), X.W.cell? ⟨w2.heap.size, 15, none⟩ = some (.int .i64 (R 3).x0) := fun X => X.ok.b1.cell 15 _ (by rw [Hb1.out]; rfl)
        have p1 : ∀ X : Fam (Sp w w2.heap.size w5.heap.size A3 A2 s3 s2 D'), X.W.cell? ⟨w2.heap.size, 16, none⟩ = some (.int .i64 (R 3).y0) := fun X => X.ok.b1.cell 16 _ (by rw [Hb1.out]; rfl)
        have p2 : ∀ X : Fam (Sp w w2.heap.size w5.heap.size A3 A2 s3 s2 D'), X.W.cell? ⟨w2.heap.size, 17, none⟩ = some (.int .i64 (R 3).x1) := fun X => X.ok.b1.cell 17 _ (by rw [Hb1.out]; rfl)
        have p3 : ∀ X : Fam (Sp w w2.heap.size w5.heap.size A3 A2 s3 s2 D'), X.W.cell? ⟨w2.heap.size, 18, none⟩ = some (.int .i64 (R 3).y1) := fun X => X.ok.b1.cell 18 _ (by rw [Hb1.out]; rfl)
        have p4 : ∀ X : Fam (Sp w w2.heap.size w5.heap.size A3 A2 s3 s2 D'), X.W.cell? ⟨w2.heap.size, 19, none⟩ = some (.slice (s3 3) (D' 3).length (m3 3)) := fun X => X.ok.b1.cell 19 _ (by rw [Hb1.out]; rfl)
        have q0 : ∀ X : Fam (Sp w w2.heap.size w5.heap.size A3 A2 s3 s2 D'), X.W.cell? ⟨w5.heap.size, 15, none⟩ = some (.int .i64 (R 3).x0) := fun X => X.ok.b2.cell 15 _ (by rw [Hb2.out]; rfl)
        have q1 : ∀ X : Fam (Sp w w2.heap.size w5.heap.size A3 A2 s3 s2 D'), X.W.cell? ⟨w5.heap.size, 16, none⟩ = some (.int .i64 (R 3).y0) := fun X => X.ok.b2.cell 16 _ (by rw [Hb2.out]; rfl)
        have q2 : ∀ X : Fam (Sp w w2.heap.size w5.heap.size A3 A2 s3 s2 D'), X.W.cell? ⟨w5.heap.size, 17, none⟩ = some (.int .i64 (R 3).x1) := fun X => X.ok.b2.cell 17 _ (by rw [Hb2.out]; rfl)
        have q3 : ∀ X : Fam (Sp w w2.heap.size w5.heap.size A3 A2 s3 s2 D'), X.W.cell? ⟨w5.heap.size, 18, none⟩ = some (.int .i64 (R 3).y1) := fun X => X.ok.b2.cell 18 _ (by rw [Hb2.out]; rfl)
        have q4 : ∀ X : Fam (Sp w w2.heap.size w5.heap.size A3 A2 s3 s2 D'), X.W.cell? ⟨w5.heap.size, 19, none⟩ = some (.slice (s2 3) (D' 3).length (m2 3)) := fun X => X.ok.b2.cell 19 _ (by rw [Hb2.out]; rfl)
        have cS : ∀ X : Fam (Sp w w2.heap.size w5.heap.size A3 A2 s3 s2 D'), Calls Try.prog 19 #[.agg #[.int .i64 (R 3).x0, .int .i64 (R 3).y0, .int .i64 (R 3).x1, .int .i64 (R 3).y1, .slice (s3 3) (D' 3).length (m3 3)], .agg #[.int .i64 (R 3).x0, .int .i64 (R 3).y0, .int .i64 (R 3).x1, .int .i64 (R 3).y1, .slice (s2 3) (D' 3).length (m2 3)]] X.W fun e w' => e = .returned (.bool true) ∧ Below X.W.heap.size X.W w' := fun X => same5_eq (R 3).x0 (R 3).y0 (R 3).x1 (R 3).y1 (s3 3) (s2 3) (m3 3) (m2 3) (D' 3) X.W (hD 3 (by decide)) (X.ok.h1 3 (by decide)) (X.ok.h2 3 (by decide))
        go_upto_region 18 with fail
        refine wp_region_in (fun X : Fam (Sp w w2.heap.size w5.heap.size A3 A2 s3 s2 D') => X.W) (by kernel_rfl) (by kernel_rfl) ⟨⟨_, hS.step (Below.refl _ _).drew⟩, rfl⟩ ?_
        repeat (first | go_big_quiet_step ((first | (go_at_call 19; exact call_in (cS _) (hst _)))) | quiet_step ((first | (go_at_call 19; exact call_in (cS _) (hst _)))))
        refine wpQuiet_nil ?_
        intro w9 hw'
        obtain ⟨⟨_, hS9⟩, hw''⟩ := hw'
        subst hw''
        clear cS p0 p1 p2 p3 p4 q0 q1 q2 q3 q4 hst hne
        have HS : Hid _ := hS9
        clear hS hS9
        go_wp2
        go_roundw
        case rel => exact ⟨4, by decide, (by first | rfl | go_num), HS.out⟩
        case measure => first | decide | (simp [intOf]; done) | (simp [intOf]; omega)
    · obtain rfl : j = 4 := by omega
      replace hi : _ = Value.int .i64 4 := hi; subst hi
      have HB : Hid _ := hS.below
      clear hS
      go_wp2_with (first | (go_at_call 16; (with_reducible refine (awake_c _).mono ?_); rintro e w9 ⟨rfl, hb9⟩))
      go_ret
      exact ⟨rfl, below_call HB.out hb9⟩
set_option maxRecDepth 100000 in
set_option maxHeartbeats 8000000 in
theorem mainTTF (a b c d y kn : Int) (s : Option Addr) (l : List Int) (m : Nat) (w : World) (hm : l.length ≤ m) (hH : HoldsI w s l) (hf : l.length ≤ 4000) (hy0 : y ≤ 281474976710656) (hy : -281474976710656 ≤ y) (n h : Nat) (hp : pvB a b c d l.length = true) (hk : kB kn = true) (hfw : fewB l 35184372088832 = true) (hn : c - a = (n : Int)) (hh : d - b = (h : Int)) (hf2 : fewB (Ex.addL y l) 35184372088832 = true)
    (q1 : (c - a == 1) = true) (q1' : (a.tmod 2 == 1) = true) (q2 : (d - b == 1) = false) (ho : offB a b n h = 1) (hall : ∀ o, o < 4 → ∀ v ∈ (bandQ a b kn n (Ex.cutR n l h) o).flatten, IntKind.i64.wrap (v + y) = v + y) (hlen : ∀ o, o < 4 → (bandQ a b kn n (Ex.cutR n l h) o).flatten.length ≤ 1048576) (hl2 : l.length = h * n) (vb : 0 ≤ a ∧ a ≤ 4096 ∧ 0 ≤ b ∧ b ≤ 4096 ∧ 0 ≤ c ∧ c ≤ 4096 ∧ 0 ≤ d ∧ d ≤ 4096) : Calls Try.prog 4 #[.agg #[.int .i64 a, .int .i64 b, .int .i64 c, .int .i64 d, .slice s l.length m], .int .i64 y, .int .i64 kn] w fun e w' => e = .returned (.bool true) ∧ Below w.heap.size w w' := by
  have HL2 : Hid _ := hl2
  clear hl2
  have x0 := QBox.fresh w a b c d s l.length m 26
  have B0 := below_alloc (Below.refl _ w) (.cells #[.int .i64 a, .int .i64 b, .int .i64 c, .int .i64 d, .slice s l.length m] 26)
  go_enter Try.func4, Try.ntmps4
  go_wp2_with fail
  refine (few5_c ⟨a, b, c, d⟩ s l.length m _).mono ?_
  rintro e w1 ⟨rfl, hb⟩
  replace x0 := x0.below hb
  replace B0 := below_call B0 hb
  have H1 := hH.below B0 (Nat.le_refl _)
  clear hb hH
  have gf : decide (l.length ≤ 4000) = true := decide_eq_true hf
  rw [gf]
  obtain ⟨y0, y1, y2, y3, y4⟩ := x0.open
  have cS := fun w hH => splitc_yes a b c d kn l s m n h w hp hk hfw hm hH hn hh
  have hin : ∀ v ∈ l, IntKind.i64.wrap (v + y) = v + y := fun v hv => by
    have := few_iff.1 hfw v hv
    exact IntWalk.i64_in _ (by omega)
  have hl1 : l.length ≤ 1048576 := by omega
  clear gf
  go_wp2_with fail
  refine (cS _ H1).mono ?_
  clear cS
  rintro e w2 ⟨s1, m1, rfl, hh1, hb⟩
  replace x0 := x0.below hb
  replace B0 := below_call B0 hb
  replace H1 := H1.call hb
  obtain ⟨D, hD0⟩ : ∃ D : Nat → List Int, D = fun o => (bandQ a b kn n (Ex.cutR n l h) o).flatten := ⟨_, rfl⟩
  have HD0 : Hid _ := hD0
  obtain ⟨R, hR0⟩ : ∃ R : Nat → Pl.R, R = bnds ⟨a, b, c, d⟩ := ⟨_, rfl⟩
  have HR0 : Hid _ := hR0
  obtain ⟨A1, hA1⟩ : ∃ A1, A1 = arrP R (fun o => .slice (s1 o) (D o).length (m1 o)) := ⟨_, rfl⟩
  have hA1' := hA1
  rw [hD0, hR0] at hA1'
  rw [← hA1']
  replace hh1 : ∀ o, o < 4 → HoldsI w2 (s1 o) (D o) := fun o ho => by rw [hD0]; exact (hh1 o ho).1
  have HF1 : Hid (∀ o, o < 4 → HoldsI w2 (s1 o) (D o)) := hh1
  have Hb1 : Hid _ := hA1
  have H20 : Hid (20 = A1.size) := by rw [hA1]; rfl
  have HI : Hid ((Try.prog.info? 27).map (·.size) = some A1.size) := by rw [hA1]; exact info20
  have hAo : A1.all (·.oneCell') = true := by rw [hA1]; simp [arrP_get, Value.oneCell']
  clear hA1 hA1' hb y0 y1 y2 y3 y4 hD0 hR0
  go_upto_region 4 with (first | (refine wpList_store_row rfl 27 (.tmp 7) (.tmp 29) rfl w2.heap.size A1 rfl rfl 27 _ (Blk.fresh w2 27 #[.int .i64 0, .int .i64 0, .int .i64 0, .int .i64 0, .slice none 0 0, .int .i64 0, .int .i64 0, .int .i64 0, .int .i64 0, .slice none 0 0, .int .i64 0, .int .i64 0, .int .i64 0, .int .i64 0, .slice none 0 0, .int .i64 0, .int .i64 0, .int .i64 0, .int .i64 0, .slice none 0 0]) HI.out H20.out hAo ?_))
  obtain ⟨W3, hW3⟩ : ∃ W3, W3 = (w2.alloc (.cells #[.int .i64 0, .int .i64 0, .int .i64 0, .int .i64 0, .slice none 0 0, .int .i64 0, .int .i64 0, .int .i64 0, .int .i64 0, .slice none 0 0, .int .i64 0, .int .i64 0, .int .i64 0, .int .i64 0, .slice none 0 0, .int .i64 0, .int .i64 0, .int .i64 0, .int .i64 0, .slice none 0 0] 27)).setRow w2.heap.size A1 := ⟨_, rfl⟩
  have B3 : Below w.heap.size w W3 := by rw [hW3]; exact below_row (below_alloc B0 _) B0.size _
  have b3 : Blk W3 w2.heap.size 27 A1 := by rw [hW3]; exact (Blk.fresh w2 27 #[.int .i64 0, .int .i64 0, .int .i64 0, .int .i64 0, .slice none 0 0, .int .i64 0, .int .i64 0, .int .i64 0, .int .i64 0, .slice none 0 0, .int .i64 0, .int .i64 0, .int .i64 0, .int .i64 0, .slice none 0 0, .int .i64 0, .int .i64 0, .int .i64 0, .int .i64 0, .slice none 0 0]).row A1
  have x3 : QBox W3 w.heap.size ⟨a, b, c, d⟩ (.slice s l.length m) := by rw [hW3]; exact (x0.alloc _).but (But.setRow _) (Nat.ne_of_lt x0.lt)
  have H3 : HoldsI W3 s l := by rw [hW3]; exact holds_rowed H1 _ _
  have hh3 : ∀ o, o < 4 → HoldsI W3 (s1 o) (D o) := fun o ho => by rw [hW3]; exact holds_rowed (hh1 o ho) _ _
  have h20 : w.heap.size ≤ w2.heap.size := B0.size
  rw [← hW3]
  clear hW3 B0 hAo x0 H1 hh1 H20 HI
  obtain ⟨y0, y1, y2, y3, y4⟩ := x3.open
  go_wp2_with fail
  refine (mv5_c a b c d y s m l _ hl1 H3 hin).mono ?_
  rintro e w4 ⟨g, rfl, row, hb, hg⟩
  replace x3 := x3.below hb
  replace B3 := below_call B3 hb
  replace b3 := b3.below hb
  replace hh3 := fun o (ho : o < 4) => (hh3 o ho).call hb
  have HLn : Hid ((Ex.addL y l).length = l.length) := Ex.addL_len y l
  clear hb y0 y1 y2 y3 y4 H3 hin
  go_wp2_with fail
  refine (splitc_yes a b c d kn (Ex.addL y l) (some ⟨g, 0, none⟩) (Ex.addL y l).length n h _ (by rw [HLn.out]; exact hp) hk hf2 (Nat.le_refl _) row.holds hn hh).mono ?_
  rintro e w5 ⟨s2, m2, rfl, hh2, hb⟩
  have HF2 : Hid (∀ o, o < 4 → Fresh w4 (s2 o)) := fun o ho => (hh2 o ho).2.2.2
  have hlt24 : Hid (w2.heap.size < w4.heap.size) := b3.lt
  replace x3 := x3.below hb
  replace B3 := below_call B3 hb
  replace b3 := b3.below hb
  replace hh3 := fun o (ho : o < 4) => (hh3 o ho).call hb
  obtain ⟨D', hD1⟩ : ∃ D' : Nat → List Int, D' = fun o => (bandQ a b kn n (Ex.cutR n (Ex.addL y l) h) o).flatten := ⟨_, rfl⟩
  have HD1 : Hid (∀ o, o < 4 → D' o = if o = 1 then Ex.addL y (D o) else D o) := fun o hlt => by rw [hD1, HD0.out]; have := band_add (a := a) (b := b) (d := y) hk HL2.out o hlt; rw [ho] at this; exact this
  have hAll : Hid (∀ v ∈ D 1, IntKind.i64.wrap (v + y) = v + y) := by rw [HD0.out]; exact hall 1 (by decide)
  have hLen : Hid (∀ o, o < 4 → (D o).length ≤ 1048576) := by rw [HD0.out]; exact hlen
  obtain ⟨A2, hA2⟩ : ∃ A2, A2 = arrP R (fun o => .slice (s2 o) (D' o).length (m2 o)) := ⟨_, rfl⟩
  have hA2' := hA2
  rw [hD1, HR0.out] at hA2'
  rw [← hA2']
  replace hh2 : ∀ o, o < 4 → HoldsI w5 (s2 o) (D' o) := fun o ho => by rw [hD1]; exact (hh2 o ho).1
  have Hb2 : Hid _ := hA2
  have H20 : Hid (20 = A2.size) := by rw [hA2]; rfl
  have HI : Hid ((Try.prog.info? 27).map (·.size) = some A2.size) := by rw [hA2]; exact info20
  have hAo : A2.all (·.oneCell') = true := by rw [hA2]; simp [arrP_get, Value.oneCell']
  clear hA2 hA2' hb hD1 row hall hlen
  go_upto_region 7 with (first | (refine wpList_store_row rfl 27 (.tmp 9) (.tmp 40) rfl w5.heap.size A2 rfl rfl 27 _ (Blk.fresh w5 27 #[.int .i64 0, .int .i64 0, .int .i64 0, .int .i64 0, .slice none 0 0, .int .i64 0, .int .i64 0, .int .i64 0, .int .i64 0, .slice none 0 0, .int .i64 0, .int .i64 0, .int .i64 0, .int .i64 0, .slice none 0 0, .int .i64 0, .int .i64 0, .int .i64 0, .int .i64 0, .slice none 0 0]) HI.out H20.out hAo ?_))
  obtain ⟨W6, hW6⟩ : ∃ W6, W6 = (w5.alloc (.cells #[.int .i64 0, .int .i64 0, .int .i64 0, .int .i64 0, .slice none 0 0, .int .i64 0, .int .i64 0, .int .i64 0, .int .i64 0, .slice none 0 0, .int .i64 0, .int .i64 0, .int .i64 0, .int .i64 0, .slice none 0 0, .int .i64 0, .int .i64 0, .int .i64 0, .int .i64 0, .slice none 0 0] 27)).setRow w5.heap.size A2 := ⟨_, rfl⟩
  have B6 : Below w.heap.size w W6 := by rw [hW6]; exact below_row (below_alloc B3 _) B3.size _
  have b6 : Blk W6 w2.heap.size 27 A1 := by rw [hW6]; exact (b3.alloc _).but (But.setRow _) (Nat.ne_of_lt b3.lt)
  have c6 : Blk W6 w5.heap.size 27 A2 := by rw [hW6]; exact (Blk.fresh w5 27 #[.int .i64 0, .int .i64 0, .int .i64 0, .int .i64 0, .slice none 0 0, .int .i64 0, .int .i64 0, .int .i64 0, .int .i64 0, .slice none 0 0, .int .i64 0, .int .i64 0, .int .i64 0, .int .i64 0, .slice none 0 0, .int .i64 0, .int .i64 0, .int .i64 0, .int .i64 0, .slice none 0 0]).row A2
  have x6 : QBox W6 w.heap.size ⟨a, b, c, d⟩ (.slice s l.length m) := by rw [hW6]; exact (x3.alloc _).but (But.setRow _) (Nat.ne_of_lt x3.lt)
  have hh6 : ∀ o, o < 4 → HoldsI W6 (s1 o) (D o) := fun o ho => by rw [hW6]; exact holds_rowed (hh3 o ho) _ _
  have hk6 : ∀ o, o < 4 → HoldsI W6 (s2 o) (D' o) := fun o ho => by rw [hW6]; exact holds_rowed (hh2 o ho) _ _
  have hlt25 : Hid (w2.heap.size < w5.heap.size) := b3.lt
  rw [← hW6]
  clear hW6 B3 b3 hAo x3 hh3 hh2 H20 HI hn hh hp
  obtain ⟨y0, y1, y2, y3, y4⟩ := x6.open
  have u1 : IntKind.i64.wrap (c - a) = c - a := IntWalk.i64_in _ (by omega)
  have u2 : IntKind.i64.wrap (d - b) = d - b := IntWalk.i64_in _ (by omega)
  have u3 : IntKind.i64.wrap (a.tmod 2) = a.tmod 2 := IntWalk.i64_in _ (by rw [Int.tmod_eq_emod_of_nonneg vb.1]; omega)
  have u4 : IntKind.i64.wrap (b.tmod 2) = b.tmod 2 := IntWalk.i64_in _ (by rw [Int.tmod_eq_emod_of_nonneg vb.2.2.1]; omega)
  have a0 : W6.cell? ⟨w2.heap.size, 5, none⟩ = some (.int .i64 (R 1).x0) := b6.cell 5 _ (by rw [Hb1.out]; rfl)
  have a1 : W6.cell? ⟨w2.heap.size, 6, none⟩ = some (.int .i64 (R 1).y0) := b6.cell 6 _ (by rw [Hb1.out]; rfl)
  have a2 : W6.cell? ⟨w2.heap.size, 7, none⟩ = some (.int .i64 (R 1).x1) := b6.cell 7 _ (by rw [Hb1.out]; rfl)
  have a3 : W6.cell? ⟨w2.heap.size, 8, none⟩ = some (.int .i64 (R 1).y1) := b6.cell 8 _ (by rw [Hb1.out]; rfl)
  have a4 : W6.cell? ⟨w2.heap.size, 9, none⟩ = some (.slice (s1 1) (D 1).length (m1 1)) := b6.cell 9 _ (by rw [Hb1.out]; rfl)
  clear vb
  go_wp2_with fail
  refine (mv5_c (R 1).x0 (R 1).y0 (R 1).x1 (R 1).y1 y (s1 1) (m1 1) (D 1) _ (hLen.out 1 (by decide)) (hh6 1 (by decide)) hAll.out).mono ?_
  rintro e w7 ⟨g7, rfl, row7, hb, hg7⟩
  have b7 := b6.below hb
  have c7 := c6.below hb
  have hh7 := fun o (ho : o < 4) => (hh6 o ho).call hb
  have hk7 := fun o (ho : o < 4) => (hk6 o ho).call hb
  have B7 := below_call B6 hb
  have hg25 : Hid (w2.heap.size < g7) := by have := b6.lt; show _ < _; omega
  clear y0 y1 y2 y3 y4 a0 a1 a2 a3 a4 b6 c6 x6 hh6 hk6 B6 hb
  have a0 : w7.cell? ⟨w2.heap.size, 5, none⟩ = some (.int .i64 (R 1).x0) := b7.cell 5 _ (by rw [Hb1.out]; rfl)
  have a1 : w7.cell? ⟨w2.heap.size, 6, none⟩ = some (.int .i64 (R 1).y0) := b7.cell 6 _ (by rw [Hb1.out]; rfl)
  have a2 : w7.cell? ⟨w2.heap.size, 7, none⟩ = some (.int .i64 (R 1).x1) := b7.cell 7 _ (by rw [Hb1.out]; rfl)
  have a3 : w7.cell? ⟨w2.heap.size, 8, none⟩ = some (.int .i64 (R 1).y1) := b7.cell 8 _ (by rw [Hb1.out]; rfl)
  have a4 : w7.cell? ⟨w2.heap.size, 9, none⟩ = some (.slice (s1 1) (D 1).length (m1 1)) := b7.cell 9 _ (by rw [Hb1.out]; rfl)
  have gf : ∀ j, w7.frozen? ⟨w2.heap.size, j, none⟩ = false := b7.free
  go_upto_region 15 with fail
  obtain ⟨W8, hW8⟩ : ∃ W8, W8 = (((((w7.setCell ⟨w2.heap.size, 5, none⟩ (.int .i64 (R 1).x0)).setCell ⟨w2.heap.size, 6, none⟩ (.int .i64 (R 1).y0)).setCell ⟨w2.heap.size, 7, none⟩ (.int .i64 (R 1).x1)).setCell ⟨w2.heap.size, 8, none⟩ (.int .i64 (R 1).y1)).setCell ⟨w2.heap.size, 9, none⟩ (.slice (some ⟨g7, 0, none⟩) (Ex.addL y (D 1)).length (Ex.addL y (D 1)).length)) := ⟨_, rfl⟩
  obtain ⟨s3, hs3⟩ : ∃ s3 : Nat → Option Addr, s3 = fun i => if i = 1 then some ⟨g7, 0, none⟩ else s1 i := ⟨_, rfl⟩
  obtain ⟨m3, hm3⟩ : ∃ m3 : Nat → Nat, m3 = fun i => if i = 1 then (Ex.addL y (D 1)).length else m1 i := ⟨_, rfl⟩
  obtain ⟨A3, hA3⟩ : ∃ A3, A3 = arrP R (fun i => .slice (s3 i) (D' i).length (m3 i)) := ⟨_, rfl⟩
  have b8 : Blk W8 w2.heap.size 27 A3 := by
    rw [hW8, hA3]
    have h := b7
    rw [Hb1.out] at h
    have h2 := blkP_all h 1 (by decide) (.slice (some ⟨g7, 0, none⟩) (Ex.addL y (D 1)).length (Ex.addL y (D 1)).length)
    rw [arrP_cong (V' := fun i => .slice (s3 i) (D' i).length (m3 i))] at h2
    · exact h2
    · intro i hi
      show (if i = 1 then _ else _) = _
      rw [HD1.out i hi, hs3, hm3]
      by_cases hq : i = 1
      · subst hq; simp
      · simp [hq]
  have c8 : Blk W8 w5.heap.size 27 A2 := by
    have hn : w5.heap.size ≠ w2.heap.size := Nat.ne_of_gt hlt25.out
    rw [hW8]
    exact ((((c7.far _ _ hn).far _ _ hn).far _ _ hn).far _ _ hn).far _ _ hn
  have hh8 : ∀ o, o < 4 → HoldsI W8 (s3 o) (D' o) := fun i hi => by
    rw [HD1.out i hi, hs3, hW8]
    by_cases hq : i = 1
    · subst hq
      have hn : g7 ≠ w2.heap.size := Nat.ne_of_gt hg25.out
      simp only [if_pos]
      exact (((((row7.far _ _ hn).far _ _ hn).far _ _ hn).far _ _ hn).far _ _ hn).holds
    · simp only [if_neg hq]
      have h0 := HF1.out i hi
      exact holds_cellW (holds_cellW (holds_cellW (holds_cellW (holds_cellW (hh7 i hi) h0 _ _) h0 _ _) h0 _ _) h0 _ _) h0 _ _
  have hk8 : ∀ o, o < 4 → HoldsI W8 (s2 o) (D' o) := fun i hi => by
    have h0 := HF2.out i hi
    have hB := hlt24.out
    rw [hW8]
    exact (((((hk7 i hi).farW h0 hB _).farW h0 hB _).farW h0 hB _).farW h0 hB _).farW h0 hB _
  have hw2 : w.heap.size ≤ w2.heap.size := h20
  have B8 : Below w.heap.size w W8 := by
    rw [hW8]
    exact ((((B7.setCell hw2 _).setCell hw2 _).setCell hw2 _).setCell hw2 _).setCell hw2 _
  have S8 : Sp w w2.heap.size w5.heap.size A3 A2 s3 s2 D' W8 := ⟨B8, b8, c8, hh8, hk8⟩
  have hD : ∀ j, j < 4 → (D' j).length ≤ 140737488351232 := fun j hj => by
    have := hLen.out j hj
    rw [HD1.out j hj]
    split
    · rename_i hq; subst hq; rw [Ex.addL_len]; omega
    · omega
  clear Hb1
  have Hb1 : Hid _ := hA3
  rw [← hW8]
  clear hW8 hA3 hs3 hm3 b8 c8 hh8 hk8 B8 b7 c7 hh7 hk7 B7 row7 hg7 hg25 hlt25 hlt24 HF1 HF2 a0 a1 a2 a3 a4 gf HD1 HD0 hAll hLen u1 u2 u3 u4 q1 q2 q1'
  go_upto_region 16 with fail
  go_loopw [88] (fun i wr => ∃ j : Nat, j ≤ 4 ∧ i = .int .i64 (j : Int) ∧ Sp w w2.heap.size w5.heap.size A3 A2 s3 s2 D' wr) (fun i _ => 4 - (intOf i).toNat)
  case atStart => exact ⟨0, by decide, rfl, S8⟩
  case round =>
    obtain ⟨j, hj, hi, hS⟩ := hrel
    clear S8
    by_cases hlt : j < 4
    · have hst := Fam.next (I := Sp w w2.heap.size w5.heap.size A3 A2 s3 s2 D') (fun _ _ p q => p.step q)
      have hne : Nonempty (Fam (Sp w w2.heap.size w5.heap.size A3 A2 s3 s2 D')) := ⟨⟨_, hS⟩⟩
      rcases lt4 hlt with rfl | rfl | rfl | rfl
      · replace hi : _ = Value.int .i64 0 := hi; subst hi
        have p0 : ∀ X : Fam (Sp w w2.heap.size w5.heap.size A3 A2 s3 s2 D'), X.W.cell? ⟨w2.heap.size, 0, none⟩ = some (.int .i64 (R 0).x0) := fun X => X.ok.b1.cell 0 _ (by rw [Hb1.out]; rfl)
        have p1 : ∀ X : Fam (Sp w w2.heap.size w5.heap.size A3 A2 s3 s2 D'), X.W.cell? ⟨w2.heap.size, 1, none⟩ = some (.int .i64 (R 0).y0) := fun X => X.ok.b1.cell 1 _ (by rw [Hb1.out]; rfl)
        have p2 : ∀ X : Fam (Sp w w2.heap.size w5.heap.size A3 A2 s3 s2 D'), X.W.cell? ⟨w2.heap.size, 2, none⟩ = some (.int .i64 (R 0).x1) := fun X => X.ok.b1.cell 2 _ (by rw [Hb1.out]; rfl)
        have p3 : ∀ X : Fam (Sp w w2.heap.size w5.heap.size A3 A2 s3 s2 D'), X.W.cell? ⟨w2.heap.size, 3, none⟩ = some (.int .i64 (R 0).y1) := fun X => X.ok.b1.cell 3 _ (by rw [Hb1.out]; rfl)
        have p4 : ∀ X : Fam (Sp w w2.heap.size w5.heap.size A3 A2 s3 s2 D'), X.W.cell? ⟨w2.heap.size, 4, none⟩ = some (.slice (s3 0) (D' 0).length (m3 0)) := fun X => X.ok.b1.cell 4 _ (by rw [Hb1.out]; rfl)
        have q0 : ∀ X : Fam (Sp w w2.heap.size w5.heap.size A3 A2 s3 s2 D'), X.W.cell? ⟨w5.heap.size, 0, none⟩ = some (.int .i64 (R 0).x0) := fun X => X.ok.b2.cell 0 _ (by rw [Hb2.out]; rfl)
        have q1 : ∀ X : Fam (Sp w w2.heap.size w5.heap.size A3 A2 s3 s2 D'), X.W.cell? ⟨w5.heap.size, 1, none⟩ = some (.int .i64 (R 0).y0) := fun X => X.ok.b2.cell 1 _ (by rw [Hb2.out]; rfl)
        have q2 : ∀ X : Fam (Sp w w2.heap.size w5.heap.size A3 A2 s3 s2 D'), X.W.cell? ⟨w5.heap.size, 2, none⟩ = some (.int .i64 (R 0).x1) := fun X => X.ok.b2.cell 2 _ (by rw [Hb2.out]; rfl)
        have q3 : ∀ X : Fam (Sp w w2.heap.size w5.heap.size A3 A2 s3 s2 D'), X.W.cell? ⟨w5.heap.size, 3, none⟩ = some (.int .i64 (R 0).y1) := fun X => X.ok.b2.cell 3 _ (by rw [Hb2.out]; rfl)
        have q4 : ∀ X : Fam (Sp w w2.heap.size w5.heap.size A3 A2 s3 s2 D'), X.W.cell? ⟨w5.heap.size, 4, none⟩ = some (.slice (s2 0) (D' 0).length (m2 0)) := fun X => X.ok.b2.cell 4 _ (by rw [Hb2.out]; rfl)
        have cS : ∀ X : Fam (Sp w w2.heap.size w5.heap.size A3 A2 s3 s2 D'), Calls Try.prog 19 #[.agg #[.int .i64 (R 0).x0, .int .i64 (R 0).y0, .int .i64 (R 0).x1, .int .i64 (R 0).y1, .slice (s3 0) (D' 0).length (m3 0)], .agg #[.int .i64 (R 0).x0, .int .i64 (R 0).y0, .int .i64 (R 0).x1, .int .i64 (R 0).y1, .slice (s2 0) (D' 0).length (m2 0)]] X.W fun e w' => e = .returned (.bool true) ∧ Below X.W.heap.size X.W w' := fun X => same5_eq (R 0).x0 (R 0).y0 (R 0).x1 (R 0).y1 (s3 0) (s2 0) (m3 0) (m2 0) (D' 0) X.W (hD 0 (by decide)) (X.ok.h1 0 (by decide)) (X.ok.h2 0 (by decide))
        go_upto_region 18 with fail
        refine wp_region_in (fun X : Fam (Sp w w2.heap.size w5.heap.size A3 A2 s3 s2 D') => X.W) (by kernel_rfl) (by kernel_rfl) ⟨⟨_, hS.step (Below.refl _ _).drew⟩, rfl⟩ ?_
        repeat (first | go_big_quiet_step ((first | (go_at_call 19; exact call_in (cS _) (hst _)))) | quiet_step ((first | (go_at_call 19; exact call_in (cS _) (hst _)))))
        refine wpQuiet_nil ?_
        intro w9 hw'
        obtain ⟨⟨_, hS9⟩, hw''⟩ := hw'
        subst hw''
        clear cS p0 p1 p2 p3 p4 q0 q1 q2 q3 q4 hst hne
        have HS : Hid _ := hS9
        clear hS hS9
        go_wp2
        go_roundw
        case rel => exact ⟨1, by decide, (by first | rfl | go_num), HS.out⟩
        case measure => first | decide | (simp [intOf]; done) | (simp [intOf]; omega)
      · replace hi : _ = Value.int .i64 1 := hi; subst hi
        have p0 : ∀ X : Fam (Sp w w2.heap.size w5.heap.size A3 A2 s3 s2 D'), X.W.cell? ⟨w2.heap.size, 5, none⟩ = some (.int .i64 (R 1).x0) := fun X => X.ok.b1.cell 5 _ (by rw [Hb1.out]; rfl)
        have p1 : ∀ X : Fam (Sp w w2.heap.size w5.heap.size A3 A2 s3 s2 D'), X.W.cell? ⟨w2.heap.size, 6, none⟩ = some (.int .i64 (R 1).y0) := fun X => X.ok.b1.cell 6 _ (by rw [Hb1.out]; rfl)
        have p2 : ∀ X : Fam (Sp w w2.heap.size w5.heap.size A3 A2 s3 s2 D'), X.W.cell? ⟨w2.heap.size, 7, none⟩ = some (.int .i64 (R 1).x1) := fun X => X.ok.b1.cell 7 _ (by rw [Hb1.out]; rfl)
        have p3 : ∀ X : Fam (Sp w w2.heap.size w5.heap.size A3 A2 s3 s2 D'), X.W.cell? ⟨w2.heap.size, 8, none⟩ = some (.int .i64 (R 1).y1) := fun X => X.ok.b1.cell 8 _ (by rw [Hb1.out]; rfl)
        have p4 : ∀ X : Fam (Sp w w2.heap.size w5.heap.size A3 A2 s3 s2 D'), X.W.cell? ⟨w2.heap.size, 9, none⟩ = some (.slice (s3 1) (D' 1).length (m3 1)) := fun X => X.ok.b1.cell 9 _ (by rw [Hb1.out]; rfl)
        have q0 : ∀ X : Fam (Sp w w2.heap.size w5.heap.size A3 A2 s3 s2 D'), X.W.cell? ⟨w5.heap.size, 5, none⟩ = some (.int .i64 (R 1).x0) := fun X => X.ok.b2.cell 5 _ (by rw [Hb2.out]; rfl)
        have q1 : ∀ X : Fam (Sp w w2.heap.size w5.heap.size A3 A2 s3 s2 D'), X.W.cell? ⟨w5.heap.size, 6, none⟩ = some (.int .i64 (R 1).y0) := fun X => X.ok.b2.cell 6 _ (by rw [Hb2.out]; rfl)
        have q2 : ∀ X : Fam (Sp w w2.heap.size w5.heap.size A3 A2 s3 s2 D'), X.W.cell? ⟨w5.heap.size, 7, none⟩ = some (.int .i64 (R 1).x1) := fun X => X.ok.b2.cell 7 _ (by rw [Hb2.out]; rfl)
        have q3 : ∀ X : Fam (Sp w w2.heap.size w5.heap.size A3 A2 s3 s2 D'), X.W.cell? ⟨w5.heap.size, 8, none⟩ = some (.int .i64 (R 1).y1) := fun X => X.ok.b2.cell 8 _ (by rw [Hb2.out]; rfl)
        have q4 : ∀ X : Fam (Sp w w2.heap.size w5.heap.size A3 A2 s3 s2 D'), X.W.cell? ⟨w5.heap.size, 9, none⟩ = some (.slice (s2 1) (D' 1).length (m2 1)) := fun X => X.ok.b2.cell 9 _ (by rw [Hb2.out]; rfl)
        have cS : ∀ X : Fam (Sp w w2.heap.size w5.heap.size A3 A2 s3 s2 D'), Calls Try.prog 19 #[.agg #[.int .i64 (R 1).x0, .int .i64 (R 1).y0, .int .i64 (R 1).x1, .int .i64 (R 1).y1, .slice (s3 1) (D' 1).length (m3 1)], .agg #[.int .i64 (R 1).x0, .int .i64 (R 1).y0, .int .i64 (R 1).x1, .int .i64 (R 1).y1, .slice (s2 1) (D' 1).length (m2 1)]] X.W fun e w' => e = .returned (.bool true) ∧ Below X.W.heap.size X.W w' := fun X => same5_eq (R 1).x0 (R 1).y0 (R 1).x1 (R 1).y1 (s3 1) (s2 1) (m3 1) (m2 1) (D' 1) X.W (hD 1 (by decide)) (X.ok.h1 1 (by decide)) (X.ok.h2 1 (by decide))
        go_upto_region 18 with fail
        refine wp_region_in (fun X : Fam (Sp w w2.heap.size w5.heap.size A3 A2 s3 s2 D') => X.W) (by kernel_rfl) (by kernel_rfl) ⟨⟨_, hS.step (Below.refl _ _).drew⟩, rfl⟩ ?_
        repeat (first | go_big_quiet_step ((first | (go_at_call 19; exact call_in (cS _) (hst _)))) | quiet_step ((first | (go_at_call 19; exact call_in (cS _) (hst _)))))
        refine wpQuiet_nil ?_
        intro w9 hw'
        obtain ⟨⟨_, hS9⟩, hw''⟩ := hw'
        subst hw''
        clear cS p0 p1 p2 p3 p4 q0 q1 q2 q3 q4 hst hne
        have HS : Hid _ := hS9
        clear hS hS9
        go_wp2
        go_roundw
        case rel => exact ⟨2, by decide, (by first | rfl | go_num), HS.out⟩
        case measure => first | decide | (simp [intOf]; done) | (simp [intOf]; omega)
      · replace hi : _ = Value.int .i64 2 := hi; subst hi
        have p0 : ∀ X : Fam (Sp w w2.heap.size w5.heap.size A3 A2 s3 s2 D'), X.W.cell? ⟨w2.heap.size, 10, none⟩ = some (.int .i64 (R 2).x0) := fun X => X.ok.b1.cell 10 _ (by rw [Hb1.out]; rfl)
        have p1 : ∀ X : Fam (Sp w w2.heap.size w5.heap.size A3 A2 s3 s2 D'), X.W.cell? ⟨w2.heap.size, 11, none⟩ = some (.int .i64 (R 2).y0) := fun X => X.ok.b1.cell 11 _ (by rw [Hb1.out]; rfl)
        have p2 : ∀ X : Fam (Sp w w2.heap.size w5.heap.size A3 A2 s3 s2 D'), X.W.cell? ⟨w2.heap.size, 12, none⟩ = some (.int .i64 (R 2).x1) := fun X => X.ok.b1.cell 12 _ (by rw [Hb1.out]; rfl)
        have p3 : ∀ X : Fam (Sp w w2.heap.size w5.heap.size A3 A2 s3 s2 D'), X.W.cell? ⟨w2.heap.size, 13, none⟩ = some (.int .i64 (R 2).y1) := fun X => X.ok.b1.cell 13 _ (by rw [Hb1.out]; rfl)
        have p4 : ∀ X : Fam (Sp w w2.heap.size w5.heap.size A3 A2 s3 s2 D'), X.W.cell? ⟨w2.heap.size, 14, none⟩ = some (.slice (s3 2) (D' 2).length (m3 2)) := fun X => X.ok.b1.cell 14 _ (by rw [Hb1.out]; rfl)
        have q0 : ∀ X : Fam (Sp w w2.heap.size w5.heap.size A3 A2 s3 s2 D'), X.W.cell? ⟨w5.heap.size, 10, none⟩ = some (.int .i64 (R 2).x0) := fun X => X.ok.b2.cell 10 _ (by rw [Hb2.out]; rfl)
        have q1 : ∀ X : Fam (Sp w w2.heap.size w5.heap.size A3 A2 s3 s2 D'), X.W.cell? ⟨w5.heap.size, 11, none⟩ = some (.int .i64 (R 2).y0) := fun X => X.ok.b2.cell 11 _ (by rw [Hb2.out]; rfl)
        have q2 : ∀ X : Fam (Sp w w2.heap.size w5.heap.size A3 A2 s3 s2 D'), X.W.cell? ⟨w5.heap.size, 12, none⟩ = some (.int .i64 (R 2).x1) := fun X => X.ok.b2.cell 12 _ (by rw [Hb2.out]; rfl)
        have q3 : ∀ X : Fam (Sp w w2.heap.size w5.heap.size A3 A2 s3 s2 D'), X.W.cell? ⟨w5.heap.size, 13, none⟩ = some (.int .i64 (R 2).y1) := fun X => X.ok.b2.cell 13 _ (by rw [Hb2.out]; rfl)
        have q4 : ∀ X : Fam (Sp w w2.heap.size w5.heap.size A3 A2 s3 s2 D'), X.W.cell? ⟨w5.heap.size, 14, none⟩ = some (.slice (s2 2) (D' 2).length (m2 2)) := fun X => X.ok.b2.cell 14 _ (by rw [Hb2.out]; rfl)
        have cS : ∀ X : Fam (Sp w w2.heap.size w5.heap.size A3 A2 s3 s2 D'), Calls Try.prog 19 #[.agg #[.int .i64 (R 2).x0, .int .i64 (R 2).y0, .int .i64 (R 2).x1, .int .i64 (R 2).y1, .slice (s3 2) (D' 2).length (m3 2)], .agg #[.int .i64 (R 2).x0, .int .i64 (R 2).y0, .int .i64 (R 2).x1, .int .i64 (R 2).y1, .slice (s2 2) (D' 2).length (m2 2)]] X.W fun e w' => e = .returned (.bool true) ∧ Below X.W.heap.size X.W w' := fun X => same5_eq (R 2).x0 (R 2).y0 (R 2).x1 (R 2).y1 (s3 2) (s2 2) (m3 2) (m2 2) (D' 2) X.W (hD 2 (by decide)) (X.ok.h1 2 (by decide)) (X.ok.h2 2 (by decide))
        go_upto_region 18 with fail
        refine wp_region_in (fun X : Fam (Sp w w2.heap.size w5.heap.size A3 A2 s3 s2 D') => X.W) (by kernel_rfl) (by kernel_rfl) ⟨⟨_, hS.step (Below.refl _ _).drew⟩, rfl⟩ ?_
        repeat (first | go_big_quiet_step ((first | (go_at_call 19; exact call_in (cS _) (hst _)))) | quiet_step ((first | (go_at_call 19; exact call_in (cS _) (hst _)))))
        refine wpQuiet_nil ?_
        intro w9 hw'
        obtain ⟨⟨_, hS9⟩, hw''⟩ := hw'
        subst hw''
        clear cS p0 p1 p2 p3 p4 q0 q1 q2 q3 q4 hst hne
        have HS : Hid _ := hS9
        clear hS hS9
        go_wp2
        go_roundw
        case rel => exact ⟨3, by decide, (by first | rfl | go_num), HS.out⟩
        case measure => first | decide | (simp [intOf]; done) | (simp [intOf]; omega)
      · replace hi : _ = Value.int .i64 3 := hi; subst hi
        have p0 : ∀ X : Fam (Sp w w2.heap.size w5.heap.size A3 A2 s3 s2 D'), X.W.cell? ⟨w2.heap.size, 15, none⟩ = some (.int .i64 (R 3).x0) := fun X => X.ok.b1.cell 15 _ (by rw [Hb1.out]; rfl)
        have p1 : ∀ X : Fam (Sp w w2.heap.size w5.heap.size A3 A2 s3 s2 D'), X.W.cell? ⟨w2.heap.size, 16, none⟩ = some (.int .i64 (R 3).y0) := fun X => X.ok.b1.cell 16 _ (by rw [Hb1.out]; rfl)
        have p2 : ∀ X : Fam (Sp w w2.heap.size w5.heap.size A3 A2 s3 s2 D'), X.W.cell? ⟨w2.heap.size, 17, none⟩ = some (.int .i64 (R 3).x1) := fun X => X.ok.b1.cell 17 _ (by rw [Hb1.out]; rfl)
        have p3 : ∀ X : Fam (Sp w w2.heap.size w5.heap.size A3 A2 s3 s2 D'), X.W.cell? ⟨w2.heap.size, 18, none⟩ = some (.int .i64 (R 3).y1) := fun X => X.ok.b1.cell 18 _ (by rw [Hb1.out]; rfl)
        have p4 : ∀ X : Fam (Sp w w2.heap.size w5.heap.size A3 A2 s3 s2 D'), X.W.cell? ⟨w2.heap.size, 19, none⟩ = some (.slice (s3 3) (D' 3).length (m3 3)) := fun X => X.ok.b1.cell 19 _ (by rw [Hb1.out]; rfl)
        have q0 : ∀ X : Fam (Sp w w2.heap.size w5.heap.size A3 A2 s3 s2 D'), X.W.cell? ⟨w5.heap.size, 15, none⟩ = some (.int .i64 (R 3).x0) := fun X => X.ok.b2.cell 15 _ (by rw [Hb2.out]; rfl)
        have q1 : ∀ X : Fam (Sp w w2.heap.size w5.heap.size A3 A2 s3 s2 D'), X.W.cell? ⟨w5.heap.size, 16, none⟩ = some (.int .i64 (R 3).y0) := fun X => X.ok.b2.cell 16 _ (by rw [Hb2.out]; rfl)
        have q2 : ∀ X : Fam (Sp w w2.heap.size w5.heap.size A3 A2 s3 s2 D'), X.W.cell? ⟨w5.heap.size, 17, none⟩ = some (.int .i64 (R 3).x1) := fun X => X.ok.b2.cell 17 _ (by rw [Hb2.out]; rfl)
        have q3 : ∀ X : Fam (Sp w w2.heap.size w5.heap.size A3 A2 s3 s2 D'), X.W.cell? ⟨w5.heap.size, 18, none⟩ = some (.int .i64 (R 3).y1) := fun X => X.ok.b2.cell 18 _ (by rw [Hb2.out]; rfl)
        have q4 : ∀ X : Fam (Sp w w2.heap.size w5.heap.size A3 A2 s3 s2 D'), X.W.cell? ⟨w5.heap.size, 19, none⟩ = some (.slice (s2 3) (D' 3).length (m2 3)) := fun X => X.ok.b2.cell 19 _ (by rw [Hb2.out]; rfl)
        have cS : ∀ X : Fam (Sp w w2.heap.size w5.heap.size A3 A2 s3 s2 D'), Calls Try.prog 19 #[.agg #[.int .i64 (R 3).x0, .int .i64 (R 3).y0, .int .i64 (R 3).x1, .int .i64 (R 3).y1, .slice (s3 3) (D' 3).length (m3 3)], .agg #[.int .i64 (R 3).x0, .int .i64 (R 3).y0, .int .i64 (R 3).x1, .int .i64 (R 3).y1, .slice (s2 3) (D' 3).length (m2 3)]] X.W fun e w' => e = .returned (.bool true) ∧ Below X.W.heap.size X.W w' := fun X => same5_eq (R 3).x0 (R 3).y0 (R 3).x1 (R 3).y1 (s3 3) (s2 3) (m3 3) (m2 3) (D' 3) X.W (hD 3 (by decide)) (X.ok.h1 3 (by decide)) (X.ok.h2 3 (by decide))
        go_upto_region 18 with fail
        refine wp_region_in (fun X : Fam (Sp w w2.heap.size w5.heap.size A3 A2 s3 s2 D') => X.W) (by kernel_rfl) (by kernel_rfl) ⟨⟨_, hS.step (Below.refl _ _).drew⟩, rfl⟩ ?_
        repeat (first | go_big_quiet_step ((first | (go_at_call 19; exact call_in (cS _) (hst _)))) | quiet_step ((first | (go_at_call 19; exact call_in (cS _) (hst _)))))
        refine wpQuiet_nil ?_
        intro w9 hw'
        obtain ⟨⟨_, hS9⟩, hw''⟩ := hw'
        subst hw''
        clear cS p0 p1 p2 p3 p4 q0 q1 q2 q3 q4 hst hne
        have HS : Hid _ := hS9
        clear hS hS9
        go_wp2
        go_roundw
        case rel => exact ⟨4, by decide, (by first | rfl | go_num), HS.out⟩
        case measure => first | decide | (simp [intOf]; done) | (simp [intOf]; omega)
    · obtain rfl : j = 4 := by omega
      replace hi : _ = Value.int .i64 4 := hi; subst hi
      have HB : Hid _ := hS.below
      clear hS
      go_wp2_with (first | (go_at_call 16; (with_reducible refine (awake_c _).mono ?_); rintro e w9 ⟨rfl, hb9⟩))
      go_ret
      exact ⟨rfl, below_call HB.out hb9⟩
set_option maxRecDepth 100000 in
set_option maxHeartbeats 8000000 in
theorem mainTTTF (a b c d y kn : Int) (s : Option Addr) (l : List Int) (m : Nat) (w : World) (hm : l.length ≤ m) (hH : HoldsI w s l) (hf : l.length ≤ 4000) (hy0 : y ≤ 281474976710656) (hy : -281474976710656 ≤ y) (n h : Nat) (hp : pvB a b c d l.length = true) (hk : kB kn = true) (hfw : fewB l 35184372088832 = true) (hn : c - a = (n : Int)) (hh : d - b = (h : Int)) (hf2 : fewB (Ex.addL y l) 35184372088832 = true)
    (q1 : (c - a == 1) = true) (q1' : (a.tmod 2 == 1) = true) (q2 : (d - b == 1) = true) (q2' : (b.tmod 2 == 1) = false) (ho : offB a b n h = 1) (hall : ∀ o, o < 4 → ∀ v ∈ (bandQ a b kn n (Ex.cutR n l h) o).flatten, IntKind.i64.wrap (v + y) = v + y) (hlen : ∀ o, o < 4 → (bandQ a b kn n (Ex.cutR n l h) o).flatten.length ≤ 1048576) (hl2 : l.length = h * n) (vb : 0 ≤ a ∧ a ≤ 4096 ∧ 0 ≤ b ∧ b ≤ 4096 ∧ 0 ≤ c ∧ c ≤ 4096 ∧ 0 ≤ d ∧ d ≤ 4096) : Calls Try.prog 4 #[.agg #[.int .i64 a, .int .i64 b, .int .i64 c, .int .i64 d, .slice s l.length m], .int .i64 y, .int .i64 kn] w fun e w' => e = .returned (.bool true) ∧ Below w.heap.size w w' := by
  have HL2 : Hid _ := hl2
  clear hl2
  have x0 := QBox.fresh w a b c d s l.length m 26
  have B0 := below_alloc (Below.refl _ w) (.cells #[.int .i64 a, .int .i64 b, .int .i64 c, .int .i64 d, .slice s l.length m] 26)
  go_enter Try.func4, Try.ntmps4
  go_wp2_with fail
  refine (few5_c ⟨a, b, c, d⟩ s l.length m _).mono ?_
  rintro e w1 ⟨rfl, hb⟩
  replace x0 := x0.below hb
  replace B0 := below_call B0 hb
  have H1 := hH.below B0 (Nat.le_refl _)
  clear hb hH
  have gf : decide (l.length ≤ 4000) = true := decide_eq_true hf
  rw [gf]
  obtain ⟨y0, y1, y2, y3, y4⟩ := x0.open
  have cS := fun w hH => splitc_yes a b c d kn l s m n h w hp hk hfw hm hH hn hh
  have hin : ∀ v ∈ l, IntKind.i64.wrap (v + y) = v + y := fun v hv => by
    have := few_iff.1 hfw v hv
    exact IntWalk.i64_in _ (by omega)
  have hl1 : l.length ≤ 1048576 := by omega
  clear gf
  go_wp2_with fail
  refine (cS _ H1).mono ?_
  clear cS
  rintro e w2 ⟨s1, m1, rfl, hh1, hb⟩
  replace x0 := x0.below hb
  replace B0 := below_call B0 hb
  replace H1 := H1.call hb
  obtain ⟨D, hD0⟩ : ∃ D : Nat → List Int, D = fun o => (bandQ a b kn n (Ex.cutR n l h) o).flatten := ⟨_, rfl⟩
  have HD0 : Hid _ := hD0
  obtain ⟨R, hR0⟩ : ∃ R : Nat → Pl.R, R = bnds ⟨a, b, c, d⟩ := ⟨_, rfl⟩
  have HR0 : Hid _ := hR0
  obtain ⟨A1, hA1⟩ : ∃ A1, A1 = arrP R (fun o => .slice (s1 o) (D o).length (m1 o)) := ⟨_, rfl⟩
  have hA1' := hA1
  rw [hD0, hR0] at hA1'
  rw [← hA1']
  replace hh1 : ∀ o, o < 4 → HoldsI w2 (s1 o) (D o) := fun o ho => by rw [hD0]; exact (hh1 o ho).1
  have HF1 : Hid (∀ o, o < 4 → HoldsI w2 (s1 o) (D o)) := hh1
  have Hb1 : Hid _ := hA1
  have H20 : Hid (20 = A1.size) := by rw [hA1]; rfl
  have HI : Hid ((Try.prog.info? 27).map (·.size) = some A1.size) := by rw [hA1]; exact info20
  have hAo : A1.all (·.oneCell') = true := by rw [hA1]; simp [arrP_get, Value.oneCell']
  clear hA1 hA1' hb y0 y1 y2 y3 y4 hD0 hR0
  go_upto_region 4 with (first | (refine wpList_store_row rfl 27 (.tmp 7) (.tmp 29) rfl w2.heap.size A1 rfl rfl 27 _ (Blk.fresh w2 27 #[.int .i64 0, .int .i64 0, .int .i64 0, .int .i64 0, .slice none 0 0, .int .i64 0, .int .i64 0, .int .i64 0, .int .i64 0, .slice none 0 0, .int .i64 0, .int .i64 0, .int .i64 0, .int .i64 0, .slice none 0 0, .int .i64 0, .int .i64 0, .int .i64 0, .int .i64 0, .slice none 0 0]) HI.out H20.out hAo ?_))
  obtain ⟨W3, hW3⟩ : ∃ W3, W3 = (w2.alloc (.cells #[.int .i64 0, .int .i64 0, .int .i64 0, .int .i64 0, .slice none 0 0, .int .i64 0, .int .i64 0, .int .i64 0, .int .i64 0, .slice none 0 0, .int .i64 0, .int .i64 0, .int .i64 0, .int .i64 0, .slice none 0 0, .int .i64 0, .int .i64 0, .int .i64 0, .int .i64 0, .slice none 0 0] 27)).setRow w2.heap.size A1 := ⟨_, rfl⟩
  have B3 : Below w.heap.size w W3 := by rw [hW3]; exact below_row (below_alloc B0 _) B0.size _
  have b3 : Blk W3 w2.heap.size 27 A1 := by rw [hW3]; exact (Blk.fresh w2 27 #[.int .i64 0, .int .i64 0, .int .i64 0, .int .i64 0, .slice none 0 0, .int .i64 0, .int .i64 0, .int .i64 0, .int .i64 0, .slice none 0 0, .int .i64 0, .int .i64 0, .int .i64 0, .int .i64 0, .slice none 0 0, .int .i64 0, .int .i64 0, .int .i64 0, .int .i64 0, .slice none 0 0]).row A1
  have x3 : QBox W3 w.heap.size ⟨a, b, c, d⟩ (.slice s l.length m) := by rw [hW3]; exact (x0.alloc _).but (But.setRow _) (Nat.ne_of_lt x0.lt)
  have H3 : HoldsI W3 s l := by rw [hW3]; exact holds_rowed H1 _ _
  have hh3 : ∀ o, o < 4 → HoldsI W3 (s1 o) (D o) := fun o ho => by rw [hW3]; exact holds_rowed (hh1 o ho) _ _
  have h20 : w.heap.size ≤ w2.heap.size := B0.size
  rw [← hW3]
  clear hW3 B0 hAo x0 H1 hh1 H20 HI
  obtain ⟨y0, y1, y2, y3, y4⟩ := x3.open
  go_wp2_with fail
  refine (mv5_c a b c d y s m l _ hl1 H3 hin).mono ?_
  rintro e w4 ⟨g, rfl, row, hb, hg⟩
  replace x3 := x3.below hb
  replace B3 := below_call B3 hb
  replace b3 := b3.below hb
  replace hh3 := fun o (ho : o < 4) => (hh3 o ho).call hb
  have HLn : Hid ((Ex.addL y l).length = l.length) := Ex.addL_len y l
  clear hb y0 y1 y2 y3 y4 H3 hin
  go_wp2_with fail
  refine (splitc_yes a b c d kn (Ex.addL y l) (some ⟨g, 0, none⟩) (Ex.addL y l).length n h _ (by rw [HLn.out]; exact hp) hk hf2 (Nat.le_refl _) row.holds hn hh).mono ?_
  rintro e w5 ⟨s2, m2, rfl, hh2, hb⟩
  have HF2 : Hid (∀ o, o < 4 → Fresh w4 (s2 o)) := fun o ho => (hh2 o ho).2.2.2
  have hlt24 : Hid (w2.heap.size < w4.heap.size) := b3.lt
  replace x3 := x3.below hb
  replace B3 := below_call B3 hb
  replace b3 := b3.below hb
  replace hh3 := fun o (ho : o < 4) => (hh3 o ho).call hb
  obtain ⟨D', hD1⟩ : ∃ D' : Nat → List Int, D' = fun o => (bandQ a b kn n (Ex.cutR n (Ex.addL y l) h) o).flatten := ⟨_, rfl⟩
  have HD1 : Hid (∀ o, o < 4 → D' o = if o = 1 then Ex.addL y (D o) else D o) := fun o hlt => by rw [hD1, HD0.out]; have := band_add (a := a) (b := b) (d := y) hk HL2.out o hlt; rw [ho] at this; exact this
  have hAll : Hid (∀ v ∈ D 1, IntKind.i64.wrap (v + y) = v + y) := by rw [HD0.out]; exact hall 1 (by decide)
  have hLen : Hid (∀ o, o < 4 → (D o).length ≤ 1048576) := by rw [HD0.out]; exact hlen
  obtain ⟨A2, hA2⟩ : ∃ A2, A2 = arrP R (fun o => .slice (s2 o) (D' o).length (m2 o)) := ⟨_, rfl⟩
  have hA2' := hA2
  rw [hD1, HR0.out] at hA2'
  rw [← hA2']
  replace hh2 : ∀ o, o < 4 → HoldsI w5 (s2 o) (D' o) := fun o ho => by rw [hD1]; exact (hh2 o ho).1
  have Hb2 : Hid _ := hA2
  have H20 : Hid (20 = A2.size) := by rw [hA2]; rfl
  have HI : Hid ((Try.prog.info? 27).map (·.size) = some A2.size) := by rw [hA2]; exact info20
  have hAo : A2.all (·.oneCell') = true := by rw [hA2]; simp [arrP_get, Value.oneCell']
  clear hA2 hA2' hb hD1 row hall hlen
  go_upto_region 7 with (first | (refine wpList_store_row rfl 27 (.tmp 9) (.tmp 40) rfl w5.heap.size A2 rfl rfl 27 _ (Blk.fresh w5 27 #[.int .i64 0, .int .i64 0, .int .i64 0, .int .i64 0, .slice none 0 0, .int .i64 0, .int .i64 0, .int .i64 0, .int .i64 0, .slice none 0 0, .int .i64 0, .int .i64 0, .int .i64 0, .int .i64 0, .slice none 0 0, .int .i64 0, .int .i64 0, .int .i64 0, .int .i64 0, .slice none 0 0]) HI.out H20.out hAo ?_))
  obtain ⟨W6, hW6⟩ : ∃ W6, W6 = (w5.alloc (.cells #[.int .i64 0, .int .i64 0, .int .i64 0, .int .i64 0, .slice none 0 0, .int .i64 0, .int .i64 0, .int .i64 0, .int .i64 0, .slice none 0 0, .int .i64 0, .int .i64 0, .int .i64 0, .int .i64 0, .slice none 0 0, .int .i64 0, .int .i64 0, .int .i64 0, .int .i64 0, .slice none 0 0] 27)).setRow w5.heap.size A2 := ⟨_, rfl⟩
  have B6 : Below w.heap.size w W6 := by rw [hW6]; exact below_row (below_alloc B3 _) B3.size _
  have b6 : Blk W6 w2.heap.size 27 A1 := by rw [hW6]; exact (b3.alloc _).but (But.setRow _) (Nat.ne_of_lt b3.lt)
  have c6 : Blk W6 w5.heap.size 27 A2 := by rw [hW6]; exact (Blk.fresh w5 27 #[.int .i64 0, .int .i64 0, .int .i64 0, .int .i64 0, .slice none 0 0, .int .i64 0, .int .i64 0, .int .i64 0, .int .i64 0, .slice none 0 0, .int .i64 0, .int .i64 0, .int .i64 0, .int .i64 0, .slice none 0 0, .int .i64 0, .int .i64 0, .int .i64 0, .int .i64 0, .slice none 0 0]).row A2
  have x6 : QBox W6 w.heap.size ⟨a, b, c, d⟩ (.slice s l.length m) := by rw [hW6]; exact (x3.alloc _).but (But.setRow _) (Nat.ne_of_lt x3.lt)
  have hh6 : ∀ o, o < 4 → HoldsI W6 (s1 o) (D o) := fun o ho => by rw [hW6]; exact holds_rowed (hh3 o ho) _ _
  have hk6 : ∀ o, o < 4 → HoldsI W6 (s2 o) (D' o) := fun o ho => by rw [hW6]; exact holds_rowed (hh2 o ho) _ _
  have hlt25 : Hid (w2.heap.size < w5.heap.size) := b3.lt
  rw [← hW6]
  clear hW6 B3 b3 hAo x3 hh3 hh2 H20 HI hn hh hp
  obtain ⟨y0, y1, y2, y3, y4⟩ := x6.open
  have u1 : IntKind.i64.wrap (c - a) = c - a := IntWalk.i64_in _ (by omega)
  have u2 : IntKind.i64.wrap (d - b) = d - b := IntWalk.i64_in _ (by omega)
  have u3 : IntKind.i64.wrap (a.tmod 2) = a.tmod 2 := IntWalk.i64_in _ (by rw [Int.tmod_eq_emod_of_nonneg vb.1]; omega)
  have u4 : IntKind.i64.wrap (b.tmod 2) = b.tmod 2 := IntWalk.i64_in _ (by rw [Int.tmod_eq_emod_of_nonneg vb.2.2.1]; omega)
  have a0 : W6.cell? ⟨w2.heap.size, 5, none⟩ = some (.int .i64 (R 1).x0) := b6.cell 5 _ (by rw [Hb1.out]; rfl)
  have a1 : W6.cell? ⟨w2.heap.size, 6, none⟩ = some (.int .i64 (R 1).y0) := b6.cell 6 _ (by rw [Hb1.out]; rfl)
  have a2 : W6.cell? ⟨w2.heap.size, 7, none⟩ = some (.int .i64 (R 1).x1) := b6.cell 7 _ (by rw [Hb1.out]; rfl)
  have a3 : W6.cell? ⟨w2.heap.size, 8, none⟩ = some (.int .i64 (R 1).y1) := b6.cell 8 _ (by rw [Hb1.out]; rfl)
  have a4 : W6.cell? ⟨w2.heap.size, 9, none⟩ = some (.slice (s1 1) (D 1).length (m1 1)) := b6.cell 9 _ (by rw [Hb1.out]; rfl)
  clear vb
  go_wp2_with fail
  refine (mv5_c (R 1).x0 (R 1).y0 (R 1).x1 (R 1).y1 y (s1 1) (m1 1) (D 1) _ (hLen.out 1 (by decide)) (hh6 1 (by decide)) hAll.out).mono ?_
  rintro e w7 ⟨g7, rfl, row7, hb, hg7⟩
  have b7 := b6.below hb
  have c7 := c6.below hb
  have hh7 := fun o (ho : o < 4) => (hh6 o ho).call hb
  have hk7 := fun o (ho : o < 4) => (hk6 o ho).call hb
  have B7 := below_call B6 hb
  have hg25 : Hid (w2.heap.size < g7) := by have := b6.lt; show _ < _; omega
  clear y0 y1 y2 y3 y4 a0 a1 a2 a3 a4 b6 c6 x6 hh6 hk6 B6 hb
  have a0 : w7.cell? ⟨w2.heap.size, 5, none⟩ = some (.int .i64 (R 1).x0) := b7.cell 5 _ (by rw [Hb1.out]; rfl)
  have a1 : w7.cell? ⟨w2.heap.size, 6, none⟩ = some (.int .i64 (R 1).y0) := b7.cell 6 _ (by rw [Hb1.out]; rfl)
  have a2 : w7.cell? ⟨w2.heap.size, 7, none⟩ = some (.int .i64 (R 1).x1) := b7.cell 7 _ (by rw [Hb1.out]; rfl)
  have a3 : w7.cell? ⟨w2.heap.size, 8, none⟩ = some (.int .i64 (R 1).y1) := b7.cell 8 _ (by rw [Hb1.out]; rfl)
  have a4 : w7.cell? ⟨w2.heap.size, 9, none⟩ = some (.slice (s1 1) (D 1).length (m1 1)) := b7.cell 9 _ (by rw [Hb1.out]; rfl)
  have gf : ∀ j, w7.frozen? ⟨w2.heap.size, j, none⟩ = false := b7.free
  go_upto_region 15 with fail
  obtain ⟨W8, hW8⟩ : ∃ W8, W8 = (((((w7.setCell ⟨w2.heap.size, 5, none⟩ (.int .i64 (R 1).x0)).setCell ⟨w2.heap.size, 6, none⟩ (.int .i64 (R 1).y0)).setCell ⟨w2.heap.size, 7, none⟩ (.int .i64 (R 1).x1)).setCell ⟨w2.heap.size, 8, none⟩ (.int .i64 (R 1).y1)).setCell ⟨w2.heap.size, 9, none⟩ (.slice (some ⟨g7, 0, none⟩) (Ex.addL y (D 1)).length (Ex.addL y (D 1)).length)) := ⟨_, rfl⟩
  obtain ⟨s3, hs3⟩ : ∃ s3 : Nat → Option Addr, s3 = fun i => if i = 1 then some ⟨g7, 0, none⟩ else s1 i := ⟨_, rfl⟩
  obtain ⟨m3, hm3⟩ : ∃ m3 : Nat → Nat, m3 = fun i => if i = 1 then (Ex.addL y (D 1)).length else m1 i := ⟨_, rfl⟩
  obtain ⟨A3, hA3⟩ : ∃ A3, A3 = arrP R (fun i => .slice (s3 i) (D' i).length (m3 i)) := ⟨_, rfl⟩
  have b8 : Blk W8 w2.heap.size 27 A3 := by
    rw [hW8, hA3]
    have h := b7
    rw [Hb1.out] at h
    have h2 := blkP_all h 1 (by decide) (.slice (some ⟨g7, 0, none⟩) (Ex.addL y (D 1)).length (Ex.addL y (D 1)).length)
    rw [arrP_cong (V' := fun i => .slice (s3 i) (D' i).length (m3 i))] at h2
    · exact h2
    · intro i hi
      show (if i = 1 then _ else _) = _
      rw [HD1.out i hi, hs3, hm3]
      by_cases hq : i = 1
      · subst hq; simp
      · simp [hq]
  have c8 : Blk W8 w5.heap.size 27 A2 := by
    have hn : w5.heap.size ≠ w2.heap.size := Nat.ne_of_gt hlt25.out
    rw [hW8]
    exact ((((c7.far _ _ hn).far _ _ hn).far _ _ hn).far _ _ hn).far _ _ hn
  have hh8 : ∀ o, o < 4 → HoldsI W8 (s3 o) (D' o) := fun i hi => by
    rw [HD1.out i hi, hs3, hW8]
    by_cases hq : i = 1
    · subst hq
      have hn : g7 ≠ w2.heap.size := Nat.ne_of_gt hg25.out
      simp only [if_pos]
      exact (((((row7.far _ _ hn).far _ _ hn).far _ _ hn).far _ _ hn).far _ _ hn).holds
    · simp only [if_neg hq]
      have h0 := HF1.out i hi
      exact holds_cellW (holds_cellW (holds_cellW (holds_cellW (holds_cellW (hh7 i hi) h0 _ _) h0 _ _) h0 _ _) h0 _ _) h0 _ _
  have hk8 : ∀ o, o < 4 → HoldsI W8 (s2 o) (D' o) := fun i hi => by
    have h0 := HF2.out i hi
    have hB := hlt24.out
    rw [hW8]
    exact (((((hk7 i hi).farW h0 hB _).farW h0 hB _).farW h0 hB _).farW h0 hB _).farW h0 hB _
  have hw2 : w.heap.size ≤ w2.heap.size := h20
  have B8 : Below w.heap.size w W8 := by
    rw [hW8]
    exact ((((B7.setCell hw2 _).setCell hw2 _).setCell hw2 _).setCell hw2 _).setCell hw2 _
  have S8 : Sp w w2.heap.size w5.heap.size A3 A2 s3 s2 D' W8 := ⟨B8, b8, c8, hh8, hk8⟩
  have hD : ∀ j, j < 4 → (D' j).length ≤ 140737488351232 := fun j hj => by
    have := hLen.out j hj
    rw [HD1.out j hj]
    split
    · rename_i hq; subst hq; rw [Ex.addL_len]; omega
    · omega
  clear Hb1
  have Hb1 : Hid _ := hA3
  rw [← hW8]
  clear hW8 hA3 hs3 hm3 b8 c8 hh8 hk8 B8 b7 c7 hh7 hk7 B7 row7 hg7 hg25 hlt25 hlt24 HF1 HF2 a0 a1 a2 a3 a4 gf HD1 HD0 hAll hLen u1 u2 u3 u4 q1 q2 q1' q2'
  go_upto_region 16 with fail
  go_loopw [88] (fun i wr => ∃ j : Nat, j ≤ 4 ∧ i = .int .i64 (j : Int) ∧ Sp w w2.heap.size w5.heap.size A3 A2 s3 s2 D' wr) (fun i _ => 4 - (intOf i).toNat)
  case atStart => exact ⟨0, by decide, rfl, S8⟩
  case round =>
    obtain ⟨j, hj, hi, hS⟩ := hrel
    clear S8
    by_cases hlt : j < 4
    · have hst := Fam.next (I := Sp w w2.heap.size w5.heap.size A3 A2 s3 s2 D') (fun _ _ p q => p.step q)
      have hne : Nonempty (Fam (Sp w w2.heap.size w5.heap.size A3 A2 s3 s2 D')) := ⟨⟨_, hS⟩⟩
      rcases lt4 hlt with rfl | rfl | rfl | rfl
      · replace hi : _ = Value.int .i64 0 := hi; subst hi
        have p0 : ∀ X : Fam (Sp w w2.heap.size w5.heap.size A3 A2 s3 s2 D'), X.W.cell? ⟨w2.heap.size, 0, none⟩ = some (.int .i64 (R 0).x0) := fun X => X.ok.b1.cell 0 _ (by rw [Hb1.out]; rfl)
        have p1 : ∀ X : Fam (Sp w w2.heap.size w5.heap.size A3 A2 s3 s2 D'), X.W.cell? ⟨w2.heap.size, 1, none⟩ = some (.int .i64 (R 0).y0) := fun X => X.ok.b1.cell 1 _ (by rw [Hb1.out]; rfl)
        have p2 : ∀ X : Fam (Sp w w2.heap.size w5.heap.size A3 A2 s3 s2 D'), X.W.cell? ⟨w2.heap.size, 2, none⟩ = some (.int .i64 (R 0).x1) := fun X => X.ok.b1.cell 2 _ (by rw [Hb1.out]; rfl)
        have p3 : ∀ X : Fam (Sp w w2.heap.size w5.heap.size A3 A2 s3 s2 D'), X.W.cell? ⟨w2.heap.size, 3, none⟩ = some (.int .i64 (R 0).y1) := fun X => X.ok.b1.cell 3 _ (by rw [Hb1.out]; rfl)
        have p4 : ∀ X : Fam (Sp w w2.heap.size w5.heap.size A3 A2 s3 s2 D'), X.W.cell? ⟨w2.heap.size, 4, none⟩ = some (.slice (s3 0) (D' 0).length (m3 0)) := fun X => X.ok.b1.cell 4 _ (by rw [Hb1.out]; rfl)
        have q0 : ∀ X : Fam (Sp w w2.heap.size w5.heap.size A3 A2 s3 s2 D'), X.W.cell? ⟨w5.heap.size, 0, none⟩ = some (.int .i64 (R 0).x0) := fun X => X.ok.b2.cell 0 _ (by rw [Hb2.out]; rfl)
        have q1 : ∀ X : Fam (Sp w w2.heap.size w5.heap.size A3 A2 s3 s2 D'), X.W.cell? ⟨w5.heap.size, 1, none⟩ = some (.int .i64 (R 0).y0) := fun X => X.ok.b2.cell 1 _ (by rw [Hb2.out]; rfl)
        have q2 : ∀ X : Fam (Sp w w2.heap.size w5.heap.size A3 A2 s3 s2 D'), X.W.cell? ⟨w5.heap.size, 2, none⟩ = some (.int .i64 (R 0).x1) := fun X => X.ok.b2.cell 2 _ (by rw [Hb2.out]; rfl)
        have q3 : ∀ X : Fam (Sp w w2.heap.size w5.heap.size A3 A2 s3 s2 D'), X.W.cell? ⟨w5.heap.size, 3, none⟩ = some (.int .i64 (R 0).y1) := fun X => X.ok.b2.cell 3 _ (by rw [Hb2.out]; rfl)
        have q4 : ∀ X : Fam (Sp w w2.heap.size w5.heap.size A3 A2 s3 s2 D'), X.W.cell? ⟨w5.heap.size, 4, none⟩ = some (.slice (s2 0) (D' 0).length (m2 0)) := fun X => X.ok.b2.cell 4 _ (by rw [Hb2.out]; rfl)
        have cS : ∀ X : Fam (Sp w w2.heap.size w5.heap.size A3 A2 s3 s2 D'), Calls Try.prog 19 #[.agg #[.int .i64 (R 0).x0, .int .i64 (R 0).y0, .int .i64 (R 0).x1, .int .i64 (R 0).y1, .slice (s3 0) (D' 0).length (m3 0)], .agg #[.int .i64 (R 0).x0, .int .i64 (R 0).y0, .int .i64 (R 0).x1, .int .i64 (R 0).y1, .slice (s2 0) (D' 0).length (m2 0)]] X.W fun e w' => e = .returned (.bool true) ∧ Below X.W.heap.size X.W w' := fun X => same5_eq (R 0).x0 (R 0).y0 (R 0).x1 (R 0).y1 (s3 0) (s2 0) (m3 0) (m2 0) (D' 0) X.W (hD 0 (by decide)) (X.ok.h1 0 (by decide)) (X.ok.h2 0 (by decide))
        go_upto_region 18 with fail
        refine wp_region_in (fun X : Fam (Sp w w2.heap.size w5.heap.size A3 A2 s3 s2 D') => X.W) (by kernel_rfl) (by kernel_rfl) ⟨⟨_, hS.step (Below.refl _ _).drew⟩, rfl⟩ ?_
        repeat (first | go_big_quiet_step ((first | (go_at_call 19; exact call_in (cS _) (hst _)))) | quiet_step ((first | (go_at_call 19; exact call_in (cS _) (hst _)))))
        refine wpQuiet_nil ?_
        intro w9 hw'
        obtain ⟨⟨_, hS9⟩, hw''⟩ := hw'
        subst hw''
        clear cS p0 p1 p2 p3 p4 q0 q1 q2 q3 q4 hst hne
        have HS : Hid _ := hS9
        clear hS hS9
        go_wp2
        go_roundw
        case rel => exact ⟨1, by decide, (by first | rfl | go_num), HS.out⟩
        case measure => first | decide | (simp [intOf]; done) | (simp [intOf]; omega)
      · replace hi : _ = Value.int .i64 1 := hi; subst hi
        have p0 : ∀ X : Fam (Sp w w2.heap.size w5.heap.size A3 A2 s3 s2 D'), X.W.cell? ⟨w2.heap.size, 5, none⟩ = some (.int .i64 (R 1).x0) := fun X => X.ok.b1.cell 5 _ (by rw [Hb1.out]; rfl)
        have p1 : ∀ X : Fam (Sp w w2.heap.size w5.heap.size A3 A2 s3 s2 D'), X.W.cell? ⟨w2.heap.size, 6, none⟩ = some (.int .i64 (R 1).y0) := fun X => X.ok.b1.cell 6 _ (by rw [Hb1.out]; rfl)
        have p2 : ∀ X : Fam (Sp w w2.heap.size w5.heap.size A3 A2 s3 s2 D'), X.W.cell? ⟨w2.heap.size, 7, none⟩ = some (.int .i64 (R 1).x1) := fun X => X.ok.b1.cell 7 _ (by rw [Hb1.out]; rfl)
        have p3 : ∀ X : Fam (Sp w w2.heap.size w5.heap.size A3 A2 s3 s2 D'), X.W.cell? ⟨w2.heap.size, 8, none⟩ = some (.int .i64 (R 1).y1) := fun X => X.ok.b1.cell 8 _ (by rw [Hb1.out]; rfl)
        have p4 : ∀ X : Fam (Sp w w2.heap.size w5.heap.size A3 A2 s3 s2 D'), X.W.cell? ⟨w2.heap.size, 9, none⟩ = some (.slice (s3 1) (D' 1).length (m3 1)) := fun X => X.ok.b1.cell 9 _ (by rw [Hb1.out]; rfl)
        have q0 : ∀ X : Fam (Sp w w2.heap.size w5.heap.size A3 A2 s3 s2 D'), X.W.cell? ⟨w5.heap.size, 5, none⟩ = some (.int .i64 (R 1).x0) := fun X => X.ok.b2.cell 5 _ (by rw [Hb2.out]; rfl)
        have q1 : ∀ X : Fam (Sp w w2.heap.size w5.heap.size A3 A2 s3 s2 D'), X.W.cell? ⟨w5.heap.size, 6, none⟩ = some (.int .i64 (R 1).y0) := fun X => X.ok.b2.cell 6 _ (by rw [Hb2.out]; rfl)
        have q2 : ∀ X : Fam (Sp w w2.heap.size w5.heap.size A3 A2 s3 s2 D'), X.W.cell? ⟨w5.heap.size, 7, none⟩ = some (.int .i64 (R 1).x1) := fun X => X.ok.b2.cell 7 _ (by rw [Hb2.out]; rfl)
        have q3 : ∀ X : Fam (Sp w w2.heap.size w5.heap.size A3 A2 s3 s2 D'), X.W.cell? ⟨w5.heap.size, 8, none⟩ = some (.int .i64 (R 1).y1) := fun X => X.ok.b2.cell 8 _ (by rw [Hb2.out]; rfl)
        have q4 : ∀ X : Fam (Sp w w2.heap.size w5.heap.size A3 A2 s3 s2 D'), X.W.cell? ⟨w5.heap.size, 9, none⟩ = some (.slice (s2 1) (D' 1).length (m2 1)) := fun X => X.ok.b2.cell 9 _ (by rw [Hb2.out]; rfl)
        have cS : ∀ X : Fam (Sp w w2.heap.size w5.heap.size A3 A2 s3 s2 D'), Calls Try.prog 19 #[.agg #[.int .i64 (R 1).x0, .int .i64 (R 1).y0, .int .i64 (R 1).x1, .int .i64 (R 1).y1, .slice (s3 1) (D' 1).length (m3 1)], .agg #[.int .i64 (R 1).x0, .int .i64 (R 1).y0, .int .i64 (R 1).x1, .int .i64 (R 1).y1, .slice (s2 1) (D' 1).length (m2 1)]] X.W fun e w' => e = .returned (.bool true) ∧ Below X.W.heap.size X.W w' := fun X => same5_eq (R 1).x0 (R 1).y0 (R 1).x1 (R 1).y1 (s3 1) (s2 1) (m3 1) (m2 1) (D' 1) X.W (hD 1 (by decide)) (X.ok.h1 1 (by decide)) (X.ok.h2 1 (by decide))
        go_upto_region 18 with fail
        refine wp_region_in (fun X : Fam (Sp w w2.heap.size w5.heap.size A3 A2 s3 s2 D') => X.W) (by kernel_rfl) (by kernel_rfl) ⟨⟨_, hS.step (Below.refl _ _).drew⟩, rfl⟩ ?_
        repeat (first | go_big_quiet_step ((first | (go_at_call 19; exact call_in (cS _) (hst _)))) | quiet_step ((first | (go_at_call 19; exact call_in (cS _) (hst _)))))
        refine wpQuiet_nil ?_
        intro w9 hw'
        obtain ⟨⟨_, hS9⟩, hw''⟩ := hw'
        subst hw''
        clear cS p0 p1 p2 p3 p4 q0 q1 q2 q3 q4 hst hne
        have HS : Hid _ := hS9
        clear hS hS9
        go_wp2
        go_roundw
        case rel => exact ⟨2, by decide, (by first | rfl | go_num), HS.out⟩
        case measure => first | decide | (simp [intOf]; done) | (simp [intOf]; omega)
      · replace hi : _ = Value.int .i64 2 := hi; subst hi
        have p0 : ∀ X : Fam (Sp w w2.heap.size w5.heap.size A3 A2 s3 s2 D'), X.W.cell? ⟨w2.heap.size, 10, none⟩ = some (.int .i64 (R 2).x0) := fun X => X.ok.b1.cell 10 _ (by rw [Hb1.out]; rfl)
        have p1 : ∀ X : Fam (Sp w w2.heap.size w5.heap.size A3 A2 s3 s2 D'), X.W.cell? ⟨w2.heap.size, 11, none⟩ = some (.int .i64 (R 2).y0) := fun X => X.ok.b1.cell 11 _ (by rw [Hb1.out]; rfl)
        have p2 : ∀ X : Fam (Sp w w2.heap.size w5.heap.size A3 A2 s3 s2 D'), X.W.cell? ⟨w2.heap.size, 12, none⟩ = some (.int .i64 (R 2).x1) := fun X => X.ok.b1.cell 12 _ (by rw [Hb1.out]; rfl)
        have p3 : ∀ X : Fam (Sp w w2.heap.size w5.heap.size A3 A2 s3 s2 D'), X.W.cell? ⟨w2.heap.size, 13, none⟩ = some (.int .i64 (R 2).y1) := fun X => X.ok.b1.cell 13 _ (by rw [Hb1.out]; rfl)
        have p4 : ∀ X : Fam (Sp w w2.heap.size w5.heap.size A3 A2 s3 s2 D'), X.W.cell? ⟨w2.heap.size, 14, none⟩ = some (.slice (s3 2) (D' 2).length (m3 2)) := fun X => X.ok.b1.cell 14 _ (by rw [Hb1.out]; rfl)
        have q0 : ∀ X : Fam (Sp w w2.heap.size w5.heap.size A3 A2 s3 s2 D'), X.W.cell? ⟨w5.heap.size, 10, none⟩ = some (.int .i64 (R 2).x0) := fun X => X.ok.b2.cell 10 _ (by rw [Hb2.out]; rfl)
        have q1 : ∀ X : Fam (Sp w w2.heap.size w5.heap.size A3 A2 s3 s2 D'), X.W.cell? ⟨w5.heap.size, 11, none⟩ = some (.int .i64 (R 2).y0) := fun X => X.ok.b2.cell 11 _ (by rw [Hb2.out]; rfl)
        have q2 : ∀ X : Fam (Sp w w2.heap.size w5.heap.size A3 A2 s3 s2 D'), X.W.cell? ⟨w5.heap.size, 12, none⟩ = some (.int .i64 (R 2).x1) := fun X => X.ok.b2.cell 12 _ (by rw [Hb2.out]; rfl)
        have q3 : ∀ X : Fam (Sp w w2.heap.size w5.heap.size A3 A2 s3 s2 D'), X.W.cell? ⟨w5.heap.size, 13, none⟩ = some (.int .i64 (R 2).y1) := fun X => X.ok.b2.cell 13 _ (by rw [Hb2.out]; rfl)
        have q4 : ∀ X : Fam (Sp w w2.heap.size w5.heap.size A3 A2 s3 s2 D'), X.W.cell? ⟨w5.heap.size, 14, none⟩ = some (.slice (s2 2) (D' 2).length (m2 2)) := fun X => X.ok.b2.cell 14 _ (by rw [Hb2.out]; rfl)
        have cS : ∀ X : Fam (Sp w w2.heap.size w5.heap.size A3 A2 s3 s2 D'), Calls Try.prog 19 #[.agg #[.int .i64 (R 2).x0, .int .i64 (R 2).y0, .int .i64 (R 2).x1, .int .i64 (R 2).y1, .slice (s3 2) (D' 2).length (m3 2)], .agg #[.int .i64 (R 2).x0, .int .i64 (R 2).y0, .int .i64 (R 2).x1, .int .i64 (R 2).y1, .slice (s2 2) (D' 2).length (m2 2)]] X.W fun e w' => e = .returned (.bool true) ∧ Below X.W.heap.size X.W w' := fun X => same5_eq (R 2).x0 (R 2).y0 (R 2).x1 (R 2).y1 (s3 2) (s2 2) (m3 2) (m2 2) (D' 2) X.W (hD 2 (by decide)) (X.ok.h1 2 (by decide)) (X.ok.h2 2 (by decide))
        go_upto_region 18 with fail
        refine wp_region_in (fun X : Fam (Sp w w2.heap.size w5.heap.size A3 A2 s3 s2 D') => X.W) (by kernel_rfl) (by kernel_rfl) ⟨⟨_, hS.step (Below.refl _ _).drew⟩, rfl⟩ ?_
        repeat (first | go_big_quiet_step ((first | (go_at_call 19; exact call_in (cS _) (hst _)))) | quiet_step ((first | (go_at_call 19; exact call_in (cS _) (hst _)))))
        refine wpQuiet_nil ?_
        intro w9 hw'
        obtain ⟨⟨_, hS9⟩, hw''⟩ := hw'
        subst hw''
        clear cS p0 p1 p2 p3 p4 q0 q1 q2 q3 q4 hst hne
        have HS : Hid _ := hS9
        clear hS hS9
        go_wp2
        go_roundw
        case rel => exact ⟨3, by decide, (by first | rfl | go_num), HS.out⟩
        case measure => first | decide | (simp [intOf]; done) | (simp [intOf]; omega)
      · replace hi : _ = Value.int .i64 3 := hi; subst hi
        have p0 : ∀ X : Fam (Sp w w2.heap.size w5.heap.size A3 A2 s3 s2 D'), X.W.cell? ⟨w2.heap.size, 15, none⟩ = some (.int .i64 (R 3).x0) := fun X => X.ok.b1.cell 15 _ (by rw [Hb1.out]; rfl)
        have p1 : ∀ X : Fam (Sp w w2.heap.size w5.heap.size A3 A2 s3 s2 D'), X.W.cell? ⟨w2.heap.size, 16, none⟩ = some (.int .i64 (R 3).y0) := fun X => X.ok.b1.cell 16 _ (by rw [Hb1.out]; rfl)
        have p2 : ∀ X : Fam (Sp w w2.heap.size w5.heap.size A3 A2 s3 s2 D'), X.W.cell? ⟨w2.heap.size, 17, none⟩ = some (.int .i64 (R 3).x1) := fun X => X.ok.b1.cell 17 _ (by rw [Hb1.out]; rfl)
        have p3 : ∀ X : Fam (Sp w w2.heap.size w5.heap.size A3 A2 s3 s2 D'), X.W.cell? ⟨w2.heap.size, 18, none⟩ = some (.int .i64 (R 3).y1) := fun X => X.ok.b1.cell 18 _ (by rw [Hb1.out]; rfl)
        have p4 : ∀ X : Fam (Sp w w2.heap.size w5.heap.size A3 A2 s3 s2 D'), X.W.cell? ⟨w2.heap.size, 19, none⟩ = some (.slice (s3 3) (D' 3).length (m3 3)) := fun X => X.ok.b1.cell 19 _ (by rw [Hb1.out]; rfl)
        have q0 : ∀ X : Fam (Sp w w2.heap.size w5.heap.size A3 A2 s3 s2 D'), X.W.cell? ⟨w5.heap.size, 15, none⟩ = some (.int .i64 (R 3).x0) := fun X => X.ok.b2.cell 15 _ (by rw [Hb2.out]; rfl)
        have q1 : ∀ X : Fam (Sp w w2.heap.size w5.heap.size A3 A2 s3 s2 D'), X.W.cell? ⟨w5.heap.size, 16, none⟩ = some (.int .i64 (R 3).y0) := fun X => X.ok.b2.cell 16 _ (by rw [Hb2.out]; rfl)
        have q2 : ∀ X : Fam (Sp w w2.heap.size w5.heap.size A3 A2 s3 s2 D'), X.W.cell? ⟨w5.heap.size, 17, none⟩ = some (.int .i64 (R 3).x1) := fun X => X.ok.b2.cell 17 _ (by rw [Hb2.out]; rfl)
        have q3 : ∀ X : Fam (Sp w w2.heap.size w5.heap.size A3 A2 s3 s2 D'), X.W.cell? ⟨w5.heap.size, 18, none⟩ = some (.int .i64 (R 3).y1) := fun X => X.ok.b2.cell 18 _ (by rw [Hb2.out]; rfl)
        have q4 : ∀ X : Fam (Sp w w2.heap.size w5.heap.size A3 A2 s3 s2 D'), X.W.cell? ⟨w5.heap.size, 19, none⟩ = some (.slice (s2 3) (D' 3).length (m2 3)) := fun X => X.ok.b2.cell 19 _ (by rw [Hb2.out]; rfl)
        have cS : ∀ X : Fam (Sp w w2.heap.size w5.heap.size A3 A2 s3 s2 D'), Calls Try.prog 19 #[.agg #[.int .i64 (R 3).x0, .int .i64 (R 3).y0, .int .i64 (R 3).x1, .int .i64 (R 3).y1, .slice (s3 3) (D' 3).length (m3 3)], .agg #[.int .i64 (R 3).x0, .int .i64 (R 3).y0, .int .i64 (R 3).x1, .int .i64 (R 3).y1, .slice (s2 3) (D' 3).length (m2 3)]] X.W fun e w' => e = .returned (.bool true) ∧ Below X.W.heap.size X.W w' := fun X => same5_eq (R 3).x0 (R 3).y0 (R 3).x1 (R 3).y1 (s3 3) (s2 3) (m3 3) (m2 3) (D' 3) X.W (hD 3 (by decide)) (X.ok.h1 3 (by decide)) (X.ok.h2 3 (by decide))
        go_upto_region 18 with fail
        refine wp_region_in (fun X : Fam (Sp w w2.heap.size w5.heap.size A3 A2 s3 s2 D') => X.W) (by kernel_rfl) (by kernel_rfl) ⟨⟨_, hS.step (Below.refl _ _).drew⟩, rfl⟩ ?_
        repeat (first | go_big_quiet_step ((first | (go_at_call 19; exact call_in (cS _) (hst _)))) | quiet_step ((first | (go_at_call 19; exact call_in (cS _) (hst _)))))
        refine wpQuiet_nil ?_
        intro w9 hw'
        obtain ⟨⟨_, hS9⟩, hw''⟩ := hw'
        subst hw''
        clear cS p0 p1 p2 p3 p4 q0 q1 q2 q3 q4 hst hne
        have HS : Hid _ := hS9
        clear hS hS9
        go_wp2
        go_roundw
        case rel => exact ⟨4, by decide, (by first | rfl | go_num), HS.out⟩
        case measure => first | decide | (simp [intOf]; done) | (simp [intOf]; omega)
    · obtain rfl : j = 4 := by omega
      replace hi : _ = Value.int .i64 4 := hi; subst hi
      have HB : Hid _ := hS.below
      clear hS
      go_wp2_with (first | (go_at_call 16; (with_reducible refine (awake_c _).mono ?_); rintro e w9 ⟨rfl, hb9⟩))
      go_ret
      exact ⟨rfl, below_call HB.out hb9⟩
set_option maxRecDepth 100000 in
set_option maxHeartbeats 8000000 in
theorem mainTTTT (a b c d y kn : Int) (s : Option Addr) (l : List Int) (m : Nat) (w : World) (hm : l.length ≤ m) (hH : HoldsI w s l) (hf : l.length ≤ 4000) (hy0 : y ≤ 281474976710656) (hy : -281474976710656 ≤ y) (n h : Nat) (hp : pvB a b c d l.length = true) (hk : kB kn = true) (hfw : fewB l 35184372088832 = true) (hn : c - a = (n : Int)) (hh : d - b = (h : Int)) (hf2 : fewB (Ex.addL y l) 35184372088832 = true)
    (q1 : (c - a == 1) = true) (q1' : (a.tmod 2 == 1) = true) (q2 : (d - b == 1) = true) (q2' : (b.tmod 2 == 1) = true) (ho : offB a b n h = 3) (hall : ∀ o, o < 4 → ∀ v ∈ (bandQ a b kn n (Ex.cutR n l h) o).flatten, IntKind.i64.wrap (v + y) = v + y) (hlen : ∀ o, o < 4 → (bandQ a b kn n (Ex.cutR n l h) o).flatten.length ≤ 1048576) (hl2 : l.length = h * n) (vb : 0 ≤ a ∧ a ≤ 4096 ∧ 0 ≤ b ∧ b ≤ 4096 ∧ 0 ≤ c ∧ c ≤ 4096 ∧ 0 ≤ d ∧ d ≤ 4096) : Calls Try.prog 4 #[.agg #[.int .i64 a, .int .i64 b, .int .i64 c, .int .i64 d, .slice s l.length m], .int .i64 y, .int .i64 kn] w fun e w' => e = .returned (.bool true) ∧ Below w.heap.size w w' := by
  have HL2 : Hid _ := hl2
  clear hl2
  have x0 := QBox.fresh w a b c d s l.length m 26
  have B0 := below_alloc (Below.refl _ w) (.cells #[.int .i64 a, .int .i64 b, .int .i64 c, .int .i64 d, .slice s l.length m] 26)
  go_enter Try.func4, Try.ntmps4
  go_wp2_with fail
  refine (few5_c ⟨a, b, c, d⟩ s l.length m _).mono ?_
  rintro e w1 ⟨rfl, hb⟩
  replace x0 := x0.below hb
  replace B0 := below_call B0 hb
  have H1 := hH.below B0 (Nat.le_refl _)
  clear hb hH
  have gf : decide (l.length ≤ 4000) = true := decide_eq_true hf
  rw [gf]
  obtain ⟨y0, y1, y2, y3, y4⟩ := x0.open
  have cS := fun w hH => splitc_yes a b c d kn l s m n h w hp hk hfw hm hH hn hh
  have hin : ∀ v ∈ l, IntKind.i64.wrap (v + y) = v + y := fun v hv => by
    have := few_iff.1 hfw v hv
    exact IntWalk.i64_in _ (by omega)
  have hl1 : l.length ≤ 1048576 := by omega
  clear gf
  go_wp2_with fail
  refine (cS _ H1).mono ?_
  clear cS
  rintro e w2 ⟨s1, m1, rfl, hh1, hb⟩
  replace x0 := x0.below hb
  replace B0 := below_call B0 hb
  replace H1 := H1.call hb
  obtain ⟨D, hD0⟩ : ∃ D : Nat → List Int, D = fun o => (bandQ a b kn n (Ex.cutR n l h) o).flatten := ⟨_, rfl⟩
  have HD0 : Hid _ := hD0
  obtain ⟨R, hR0⟩ : ∃ R : Nat → Pl.R, R = bnds ⟨a, b, c, d⟩ := ⟨_, rfl⟩
  have HR0 : Hid _ := hR0
  obtain ⟨A1, hA1⟩ : ∃ A1, A1 = arrP R (fun o => .slice (s1 o) (D o).length (m1 o)) := ⟨_, rfl⟩
  have hA1' := hA1
  rw [hD0, hR0] at hA1'
  rw [← hA1']
  replace hh1 : ∀ o, o < 4 → HoldsI w2 (s1 o) (D o) := fun o ho => by rw [hD0]; exact (hh1 o ho).1
  have HF1 : Hid (∀ o, o < 4 → HoldsI w2 (s1 o) (D o)) := hh1
  have Hb1 : Hid _ := hA1
  have H20 : Hid (20 = A1.size) := by rw [hA1]; rfl
  have HI : Hid ((Try.prog.info? 27).map (·.size) = some A1.size) := by rw [hA1]; exact info20
  have hAo : A1.all (·.oneCell') = true := by rw [hA1]; simp [arrP_get, Value.oneCell']
  clear hA1 hA1' hb y0 y1 y2 y3 y4 hD0 hR0
  go_upto_region 4 with (first | (refine wpList_store_row rfl 27 (.tmp 7) (.tmp 29) rfl w2.heap.size A1 rfl rfl 27 _ (Blk.fresh w2 27 #[.int .i64 0, .int .i64 0, .int .i64 0, .int .i64 0, .slice none 0 0, .int .i64 0, .int .i64 0, .int .i64 0, .int .i64 0, .slice none 0 0, .int .i64 0, .int .i64 0, .int .i64 0, .int .i64 0, .slice none 0 0, .int .i64 0, .int .i64 0, .int .i64 0, .int .i64 0, .slice none 0 0]) HI.out H20.out hAo ?_))
  obtain ⟨W3, hW3⟩ : ∃ W3, W3 = (w2.alloc (.cells #[.int .i64 0, .int .i64 0, .int .i64 0, .int .i64 0, .slice none 0 0, .int .i64 0, .int .i64 0, .int .i64 0, .int .i64 0, .slice none 0 0, .int .i64 0, .int .i64 0, .int .i64 0, .int .i64 0, .slice none 0 0, .int .i64 0, .int .i64 0, .int .i64 0, .int .i64 0, .slice none 0 0] 27)).setRow w2.heap.size A1 := ⟨_, rfl⟩
  have B3 : Below w.heap.size w W3 := by rw [hW3]; exact below_row (below_alloc B0 _) B0.size _
  have b3 : Blk W3 w2.heap.size 27 A1 := by rw [hW3]; exact (Blk.fresh w2 27 #[.int .i64 0, .int .i64 0, .int .i64 0, .int .i64 0, .slice none 0 0, .int .i64 0, .int .i64 0, .int .i64 0, .int .i64 0, .slice none 0 0, .int .i64 0, .int .i64 0, .int .i64 0, .int .i64 0, .slice none 0 0, .int .i64 0, .int .i64 0, .int .i64 0, .int .i64 0, .slice none 0 0]).row A1
  have x3 : QBox W3 w.heap.size ⟨a, b, c, d⟩ (.slice s l.length m) := by rw [hW3]; exact (x0.alloc _).but (But.setRow _) (Nat.ne_of_lt x0.lt)
  have H3 : HoldsI W3 s l := by rw [hW3]; exact holds_rowed H1 _ _
  have hh3 : ∀ o, o < 4 → HoldsI W3 (s1 o) (D o) := fun o ho => by rw [hW3]; exact holds_rowed (hh1 o ho) _ _
  have h20 : w.heap.size ≤ w2.heap.size := B0.size
  rw [← hW3]
  clear hW3 B0 hAo x0 H1 hh1 H20 HI
  obtain ⟨y0, y1, y2, y3, y4⟩ := x3.open
  go_wp2_with fail
  refine (mv5_c a b c d y s m l _ hl1 H3 hin).mono ?_
  rintro e w4 ⟨g, rfl, row, hb, hg⟩
  replace x3 := x3.below hb
  replace B3 := below_call B3 hb
  replace b3 := b3.below hb
  replace hh3 := fun o (ho : o < 4) => (hh3 o ho).call hb
  have HLn : Hid ((Ex.addL y l).length = l.length) := Ex.addL_len y l
  clear hb y0 y1 y2 y3 y4 H3 hin
  go_wp2_with fail
  refine (splitc_yes a b c d kn (Ex.addL y l) (some ⟨g, 0, none⟩) (Ex.addL y l).length n h _ (by rw [HLn.out]; exact hp) hk hf2 (Nat.le_refl _) row.holds hn hh).mono ?_
  rintro e w5 ⟨s2, m2, rfl, hh2, hb⟩
  have HF2 : Hid (∀ o, o < 4 → Fresh w4 (s2 o)) := fun o ho => (hh2 o ho).2.2.2
  have hlt24 : Hid (w2.heap.size < w4.heap.size) := b3.lt
  replace x3 := x3.below hb
  replace B3 := below_call B3 hb
  replace b3 := b3.below hb
  replace hh3 := fun o (ho : o < 4) => (hh3 o ho).call hb
  obtain ⟨D', hD1⟩ : ∃ D' : Nat → List Int, D' = fun o => (bandQ a b kn n (Ex.cutR n (Ex.addL y l) h) o).flatten := ⟨_, rfl⟩
  have HD1 : Hid (∀ o, o < 4 → D' o = if o = 3 then Ex.addL y (D o) else D o) := fun o hlt => by rw [hD1, HD0.out]; have := band_add (a := a) (b := b) (d := y) hk HL2.out o hlt; rw [ho] at this; exact this
  have hAll : Hid (∀ v ∈ D 3, IntKind.i64.wrap (v + y) = v + y) := by rw [HD0.out]; exact hall 3 (by decide)
  have hLen : Hid (∀ o, o < 4 → (D o).length ≤ 1048576) := by rw [HD0.out]; exact hlen
  obtain ⟨A2, hA2⟩ : ∃ A2, A2 = arrP R (fun o => .slice (s2 o) (D' o).length (m2 o)) := ⟨_, rfl⟩
  have hA2' := hA2
  rw [hD1, HR0.out] at hA2'
  rw [← hA2']
  replace hh2 : ∀ o, o < 4 → HoldsI w5 (s2 o) (D' o) := fun o ho => by rw [hD1]; exact (hh2 o ho).1
  have Hb2 : Hid _ := hA2
  have H20 : Hid (20 = A2.size) := by rw [hA2]; rfl
  have HI : Hid ((Try.prog.info? 27).map (·.size) = some A2.size) := by rw [hA2]; exact info20
  have hAo : A2.all (·.oneCell') = true := by rw [hA2]; simp [arrP_get, Value.oneCell']
  clear hA2 hA2' hb hD1 row hall hlen
  go_upto_region 7 with (first | (refine wpList_store_row rfl 27 (.tmp 9) (.tmp 40) rfl w5.heap.size A2 rfl rfl 27 _ (Blk.fresh w5 27 #[.int .i64 0, .int .i64 0, .int .i64 0, .int .i64 0, .slice none 0 0, .int .i64 0, .int .i64 0, .int .i64 0, .int .i64 0, .slice none 0 0, .int .i64 0, .int .i64 0, .int .i64 0, .int .i64 0, .slice none 0 0, .int .i64 0, .int .i64 0, .int .i64 0, .int .i64 0, .slice none 0 0]) HI.out H20.out hAo ?_))
  obtain ⟨W6, hW6⟩ : ∃ W6, W6 = (w5.alloc (.cells #[.int .i64 0, .int .i64 0, .int .i64 0, .int .i64 0, .slice none 0 0, .int .i64 0, .int .i64 0, .int .i64 0, .int .i64 0, .slice none 0 0, .int .i64 0, .int .i64 0, .int .i64 0, .int .i64 0, .slice none 0 0, .int .i64 0, .int .i64 0, .int .i64 0, .int .i64 0, .slice none 0 0] 27)).setRow w5.heap.size A2 := ⟨_, rfl⟩
  have B6 : Below w.heap.size w W6 := by rw [hW6]; exact below_row (below_alloc B3 _) B3.size _
  have b6 : Blk W6 w2.heap.size 27 A1 := by rw [hW6]; exact (b3.alloc _).but (But.setRow _) (Nat.ne_of_lt b3.lt)
  have c6 : Blk W6 w5.heap.size 27 A2 := by rw [hW6]; exact (Blk.fresh w5 27 #[.int .i64 0, .int .i64 0, .int .i64 0, .int .i64 0, .slice none 0 0, .int .i64 0, .int .i64 0, .int .i64 0, .int .i64 0, .slice none 0 0, .int .i64 0, .int .i64 0, .int .i64 0, .int .i64 0, .slice none 0 0, .int .i64 0, .int .i64 0, .int .i64 0, .int .i64 0, .slice none 0 0]).row A2
  have x6 : QBox W6 w.heap.size ⟨a, b, c, d⟩ (.slice s l.length m) := by rw [hW6]; exact (x3.alloc _).but (But.setRow _) (Nat.ne_of_lt x3.lt)
  have hh6 : ∀ o, o < 4 → HoldsI W6 (s1 o) (D o) := fun o ho => by rw [hW6]; exact holds_rowed (hh3 o ho) _ _
  have hk6 : ∀ o, o < 4 → HoldsI W6 (s2 o) (D' o) := fun o ho => by rw [hW6]; exact holds_rowed (hh2 o ho) _ _
  have hlt25 : Hid (w2.heap.size < w5.heap.size) := b3.lt
  rw [← hW6]
  clear hW6 B3 b3 hAo x3 hh3 hh2 H20 HI hn hh hp
  obtain ⟨y0, y1, y2, y3, y4⟩ := x6.open
  have u1 : IntKind.i64.wrap (c - a) = c - a := IntWalk.i64_in _ (by omega)
  have u2 : IntKind.i64.wrap (d - b) = d - b := IntWalk.i64_in _ (by omega)
  have u3 : IntKind.i64.wrap (a.tmod 2) = a.tmod 2 := IntWalk.i64_in _ (by rw [Int.tmod_eq_emod_of_nonneg vb.1]; omega)
  have u4 : IntKind.i64.wrap (b.tmod 2) = b.tmod 2 := IntWalk.i64_in _ (by rw [Int.tmod_eq_emod_of_nonneg vb.2.2.1]; omega)
  have a0 : W6.cell? ⟨w2.heap.size, 15, none⟩ = some (.int .i64 (R 3).x0) := b6.cell 15 _ (by rw [Hb1.out]; rfl)
  have a1 : W6.cell? ⟨w2.heap.size, 16, none⟩ = some (.int .i64 (R 3).y0) := b6.cell 16 _ (by rw [Hb1.out]; rfl)
  have a2 : W6.cell? ⟨w2.heap.size, 17, none⟩ = some (.int .i64 (R 3).x1) := b6.cell 17 _ (by rw [Hb1.out]; rfl)
  have a3 : W6.cell? ⟨w2.heap.size, 18, none⟩ = some (.int .i64 (R 3).y1) := b6.cell 18 _ (by rw [Hb1.out]; rfl)
  have a4 : W6.cell? ⟨w2.heap.size, 19, none⟩ = some (.slice (s1 3) (D 3).length (m1 3)) := b6.cell 19 _ (by rw [Hb1.out]; rfl)
  clear vb
  go_wp2_with fail
  refine (mv5_c (R 3).x0 (R 3).y0 (R 3).x1 (R 3).y1 y (s1 3) (m1 3) (D 3) _ (hLen.out 3 (by decide)) (hh6 3 (by decide)) hAll.out).mono ?_
  rintro e w7 ⟨g7, rfl, row7, hb, hg7⟩
  have b7 := b6.below hb
  have c7 := c6.below hb
  have hh7 := fun o (ho : o < 4) => (hh6 o ho).call hb
  have hk7 := fun o (ho : o < 4) => (hk6 o ho).call hb
  have B7 := below_call B6 hb
  have hg25 : Hid (w2.heap.size < g7) := by have := b6.lt; show _ < _; omega
  clear y0 y1 y2 y3 y4 a0 a1 a2 a3 a4 b6 c6 x6 hh6 hk6 B6 hb
  have a0 : w7.cell? ⟨w2.heap.size, 15, none⟩ = some (.int .i64 (R 3).x0) := b7.cell 15 _ (by rw [Hb1.out]; rfl)
  have a1 : w7.cell? ⟨w2.heap.size, 16, none⟩ = some (.int .i64 (R 3).y0) := b7.cell 16 _ (by rw [Hb1.out]; rfl)
  have a2 : w7.cell? ⟨w2.heap.size, 17, none⟩ = some (.int .i64 (R 3).x1) := b7.cell 17 _ (by rw [Hb1.out]; rfl)
  have a3 : w7.cell? ⟨w2.heap.size, 18, none⟩ = some (.int .i64 (R 3).y1) := b7.cell 18 _ (by rw [Hb1.out]; rfl)
  have a4 : w7.cell? ⟨w2.heap.size, 19, none⟩ = some (.slice (s1 3) (D 3).length (m1 3)) := b7.cell 19 _ (by rw [Hb1.out]; rfl)
  have gf : ∀ j, w7.frozen? ⟨w2.heap.size, j, none⟩ = false := b7.free
  go_upto_region 15 with fail
  obtain ⟨W8, hW8⟩ : ∃ W8, W8 = (((((w7.setCell ⟨w2.heap.size, 15, none⟩ (.int .i64 (R 3).x0)).setCell ⟨w2.heap.size, 16, none⟩ (.int .i64 (R 3).y0)).setCell ⟨w2.heap.size, 17, none⟩ (.int .i64 (R 3).x1)).setCell ⟨w2.heap.size, 18, none⟩ (.int .i64 (R 3).y1)).setCell ⟨w2.heap.size, 19, none⟩ (.slice (some ⟨g7, 0, none⟩) (Ex.addL y (D 3)).length (Ex.addL y (D 3)).length)) := ⟨_, rfl⟩
  obtain ⟨s3, hs3⟩ : ∃ s3 : Nat → Option Addr, s3 = fun i => if i = 3 then some ⟨g7, 0, none⟩ else s1 i := ⟨_, rfl⟩
  obtain ⟨m3, hm3⟩ : ∃ m3 : Nat → Nat, m3 = fun i => if i = 3 then (Ex.addL y (D 3)).length else m1 i := ⟨_, rfl⟩
  obtain ⟨A3, hA3⟩ : ∃ A3, A3 = arrP R (fun i => .slice (s3 i) (D' i).length (m3 i)) := ⟨_, rfl⟩
  have b8 : Blk W8 w2.heap.size 27 A3 := by
    rw [hW8, hA3]
    have h := b7
    rw [Hb1.out] at h
    have h2 := blkP_all h 3 (by decide) (.slice (some ⟨g7, 0, none⟩) (Ex.addL y (D 3)).length (Ex.addL y (D 3)).length)
    rw [arrP_cong (V' := fun i => .slice (s3 i) (D' i).length (m3 i))] at h2
    · exact h2
    · intro i hi
      show (if i = 3 then _ else _) = _
      rw [HD1.out i hi, hs3, hm3]
      by_cases hq : i = 3
      · subst hq; simp
      · simp [hq]
  have c8 : Blk W8 w5.heap.size 27 A2 := by
    have hn : w5.heap.size ≠ w2.heap.size := Nat.ne_of_gt hlt25.out
    rw [hW8]
    exact ((((c7.far _ _ hn).far _ _ hn).far _ _ hn).far _ _ hn).far _ _ hn
  have hh8 : ∀ o, o < 4 → HoldsI W8 (s3 o) (D' o) := fun i hi => by
    rw [HD1.out i hi, hs3, hW8]
    by_cases hq : i = 3
    · subst hq
      have hn : g7 ≠ w2.heap.size := Nat.ne_of_gt hg25.out
      simp only [if_pos]
      exact (((((row7.far _ _ hn).far _ _ hn).far _ _ hn).far _ _ hn).far _ _ hn).holds
    · simp only [if_neg hq]
      have h0 := HF1.out i hi
      exact holds_cellW (holds_cellW (holds_cellW (holds_cellW (holds_cellW (hh7 i hi) h0 _ _) h0 _ _) h0 _ _) h0 _ _) h0 _ _
  have hk8 : ∀ o, o < 4 → HoldsI W8 (s2 o) (D' o) := fun i hi => by
    have h0 := HF2.out i hi
    have hB := hlt24.out
    rw [hW8]
    exact (((((hk7 i hi).farW h0 hB _).farW h0 hB _).farW h0 hB _).farW h0 hB _).farW h0 hB _
  have hw2 : w.heap.size ≤ w2.heap.size := h20
  have B8 : Below w.heap.size w W8 := by
    rw [hW8]
    exact ((((B7.setCell hw2 _).setCell hw2 _).setCell hw2 _).setCell hw2 _).setCell hw2 _
  have S8 : Sp w w2.heap.size w5.heap.size A3 A2 s3 s2 D' W8 := ⟨B8, b8, c8, hh8, hk8⟩
  have hD : ∀ j, j < 4 → (D' j).length ≤ 140737488351232 := fun j hj => by
    have := hLen.out j hj
    rw [HD1.out j hj]
    split
    · rename_i hq; subst hq; rw [Ex.addL_len]; omega
    · omega
  clear Hb1
  have Hb1 : Hid _ := hA3
  rw [← hW8]
  clear hW8 hA3 hs3 hm3 b8 c8 hh8 hk8 B8 b7 c7 hh7 hk7 B7 row7 hg7 hg25 hlt25 hlt24 HF1 HF2 a0 a1 a2 a3 a4 gf HD1 HD0 hAll hLen u1 u2 u3 u4 q1 q2 q1' q2'
  go_upto_region 16 with fail
  go_loopw [88] (fun i wr => ∃ j : Nat, j ≤ 4 ∧ i = .int .i64 (j : Int) ∧ Sp w w2.heap.size w5.heap.size A3 A2 s3 s2 D' wr) (fun i _ => 4 - (intOf i).toNat)
  case atStart => exact ⟨0, by decide, rfl, S8⟩
  case round =>
    obtain ⟨j, hj, hi, hS⟩ := hrel
    clear S8
    by_cases hlt : j < 4
    · have hst := Fam.next (I := Sp w w2.heap.size w5.heap.size A3 A2 s3 s2 D') (fun _ _ p q => p.step q)
      have hne : Nonempty (Fam (Sp w w2.heap.size w5.heap.size A3 A2 s3 s2 D')) := ⟨⟨_, hS⟩⟩
      rcases lt4 hlt with rfl | rfl | rfl | rfl
      · replace hi : _ = Value.int .i64 0 := hi; subst hi
        have p0 : ∀ X : Fam (Sp w w2.heap.size w5.heap.size A3 A2 s3 s2 D'), X.W.cell? ⟨w2.heap.size, 0, none⟩ = some (.int .i64 (R 0).x0) := fun X => X.ok.b1.cell 0 _ (by rw [Hb1.out]; rfl)
        have p1 : ∀ X : Fam (Sp w w2.heap.size w5.heap.size A3 A2 s3 s2 D'), X.W.cell? ⟨w2.heap.size, 1, none⟩ = some (.int .i64 (R 0).y0) := fun X => X.ok.b1.cell 1 _ (by rw [Hb1.out]; rfl)
        have p2 : ∀ X : Fam (Sp w w2.heap.size w5.heap.size A3 A2 s3 s2 D'), X.W.cell? ⟨w2.heap.size, 2, none⟩ = some (.int .i64 (R 0).x1) := fun X => X.ok.b1.cell 2 _ (by rw [Hb1.out]; rfl)
        have p3 : ∀ X : Fam (Sp w w2.heap.size w5.heap.size A3 A2 s3 s2 D'), X.W.cell? ⟨w2.heap.size, 3, none⟩ = some (.int .i64 (R 0).y1) := fun X => X.ok.b1.cell 3 _ (by rw [Hb1.out]; rfl)
        have p4 : ∀ X : Fam (Sp w w2.heap.size w5.heap.size A3 A2 s3 s2 D'), X.W.cell? ⟨w2.heap.size, 4, none⟩ = some (.slice (s3 0) (D' 0).length (m3 0)) := fun X => X.ok.b1.cell 4 _ (by rw [Hb1.out]; rfl)
        have q0 : ∀ X : Fam (Sp w w2.heap.size w5.heap.size A3 A2 s3 s2 D'), X.W.cell? ⟨w5.heap.size, 0, none⟩ = some (.int .i64 (R 0).x0) := fun X => X.ok.b2.cell 0 _ (by rw [Hb2.out]; rfl)
        have q1 : ∀ X : Fam (Sp w w2.heap.size w5.heap.size A3 A2 s3 s2 D'), X.W.cell? ⟨w5.heap.size, 1, none⟩ = some (.int .i64 (R 0).y0) := fun X => X.ok.b2.cell 1 _ (by rw [Hb2.out]; rfl)
        have q2 : ∀ X : Fam (Sp w w2.heap.size w5.heap.size A3 A2 s3 s2 D'), X.W.cell? ⟨w5.heap.size, 2, none⟩ = some (.int .i64 (R 0).x1) := fun X => X.ok.b2.cell 2 _ (by rw [Hb2.out]; rfl)
        have q3 : ∀ X : Fam (Sp w w2.heap.size w5.heap.size A3 A2 s3 s2 D'), X.W.cell? ⟨w5.heap.size, 3, none⟩ = some (.int .i64 (R 0).y1) := fun X => X.ok.b2.cell 3 _ (by rw [Hb2.out]; rfl)
        have q4 : ∀ X : Fam (Sp w w2.heap.size w5.heap.size A3 A2 s3 s2 D'), X.W.cell? ⟨w5.heap.size, 4, none⟩ = some (.slice (s2 0) (D' 0).length (m2 0)) := fun X => X.ok.b2.cell 4 _ (by rw [Hb2.out]; rfl)
        have cS : ∀ X : Fam (Sp w w2.heap.size w5.heap.size A3 A2 s3 s2 D'), Calls Try.prog 19 #[.agg #[.int .i64 (R 0).x0, .int .i64 (R 0).y0, .int .i64 (R 0).x1, .int .i64 (R 0).y1, .slice (s3 0) (D' 0).length (m3 0)], .agg #[.int .i64 (R 0).x0, .int .i64 (R 0).y0, .int .i64 (R 0).x1, .int .i64 (R 0).y1, .slice (s2 0) (D' 0).length (m2 0)]] X.W fun e w' => e = .returned (.bool true) ∧ Below X.W.heap.size X.W w' := fun X => same5_eq (R 0).x0 (R 0).y0 (R 0).x1 (R 0).y1 (s3 0) (s2 0) (m3 0) (m2 0) (D' 0) X.W (hD 0 (by decide)) (X.ok.h1 0 (by decide)) (X.ok.h2 0 (by decide))
        go_upto_region 18 with fail
        refine wp_region_in (fun X : Fam (Sp w w2.heap.size w5.heap.size A3 A2 s3 s2 D') => X.W) (by kernel_rfl) (by kernel_rfl) ⟨⟨_, hS.step (Below.refl _ _).drew⟩, rfl⟩ ?_
        repeat (first | go_big_quiet_step ((first | (go_at_call 19; exact call_in (cS _) (hst _)))) | quiet_step ((first | (go_at_call 19; exact call_in (cS _) (hst _)))))
        refine wpQuiet_nil ?_
        intro w9 hw'
        obtain ⟨⟨_, hS9⟩, hw''⟩ := hw'
        subst hw''
        clear cS p0 p1 p2 p3 p4 q0 q1 q2 q3 q4 hst hne
        have HS : Hid _ := hS9
        clear hS hS9
        go_wp2
        go_roundw
        case rel => exact ⟨1, by decide, (by first | rfl | go_num), HS.out⟩
        case measure => first | decide | (simp [intOf]; done) | (simp [intOf]; omega)
      · replace hi : _ = Value.int .i64 1 := hi; subst hi
        have p0 : ∀ X : Fam (Sp w w2.heap.size w5.heap.size A3 A2 s3 s2 D'), X.W.cell? ⟨w2.heap.size, 5, none⟩ = some (.int .i64 (R 1).x0) := fun X => X.ok.b1.cell 5 _ (by rw [Hb1.out]; rfl)
        have p1 : ∀ X : Fam (Sp w w2.heap.size w5.heap.size A3 A2 s3 s2 D'), X.W.cell? ⟨w2.heap.size, 6, none⟩ = some (.int .i64 (R 1).y0) := fun X => X.ok.b1.cell 6 _ (by rw [Hb1.out]; rfl)
        have p2 : ∀ X : Fam (Sp w w2.heap.size w5.heap.size A3 A2 s3 s2 D'), X.W.cell? ⟨w2.heap.size, 7, none⟩ = some (.int .i64 (R 1).x1) := fun X => X.ok.b1.cell 7 _ (by rw [Hb1.out]; rfl)
        have p3 : ∀ X : Fam (Sp w w2.heap.size w5.heap.size A3 A2 s3 s2 D'), X.W.cell? ⟨w2.heap.size, 8, none⟩ = some (.int .i64 (R 1).y1) := fun X => X.ok.b1.cell 8 _ (by rw [Hb1.out]; rfl)
        have p4 : ∀ X : Fam (Sp w w2.heap.size w5.heap.size A3 A2 s3 s2 D'), X.W.cell? ⟨w2.heap.size, 9, none⟩ = some (.slice (s3 1) (D' 1).length (m3 1)) := fun X => X.ok.b1.cell 9 _ (by rw [Hb1.out]; rfl)
        have q0 : ∀ X : Fam (Sp w w2.heap.size w5.heap.size A3 A2 s3 s2 D'), X.W.cell? ⟨w5.heap.size, 5, none⟩ = some (.int .i64 (R 1).x0) := fun X => X.ok.b2.cell 5 _ (by rw [Hb2.out]; rfl)
        have q1 : ∀ X : Fam (Sp w w2.heap.size w5.heap.size A3 A2 s3 s2 D'), X.W.cell? ⟨w5.heap.size, 6, none⟩ = some (.int .i64 (R 1).y0) := fun X => X.ok.b2.cell 6 _ (by rw [Hb2.out]; rfl)
        have q2 : ∀ X : Fam (Sp w w2.heap.size w5.heap.size A3 A2 s3 s2 D'), X.W.cell? ⟨w5.heap.size, 7, none⟩ = some (.int .i64 (R 1).x1) := fun X => X.ok.b2.cell 7 _ (by rw [Hb2.out]; rfl)
        have q3 : ∀ X : Fam (Sp w w2.heap.size w5.heap.size A3 A2 s3 s2 D'), X.W.cell? ⟨w5.heap.size, 8, none⟩ = some (.int .i64 (R 1).y1) := fun X => X.ok.b2.cell 8 _ (by rw [Hb2.out]; rfl)
        have q4 : ∀ X : Fam (Sp w w2.heap.size w5.heap.size A3 A2 s3 s2 D'), X.W.cell? ⟨w5.heap.size, 9, none⟩ = some (.slice (s2 1) (D' 1).length (m2 1)) := fun X => X.ok.b2.cell 9 _ (by rw [Hb2.out]; rfl)
        have cS : ∀ X : Fam (Sp w w2.heap.size w5.heap.size A3 A2 s3 s2 D'), Calls Try.prog 19 #[.agg #[.int .i64 (R 1).x0, .int .i64 (R 1).y0, .int .i64 (R 1).x1, .int .i64 (R 1).y1, .slice (s3 1) (D' 1).length (m3 1)], .agg #[.int .i64 (R 1).x0, .int .i64 (R 1).y0, .int .i64 (R 1).x1, .int .i64 (R 1).y1, .slice (s2 1) (D' 1).length (m2 1)]] X.W fun e w' => e = .returned (.bool true) ∧ Below X.W.heap.size X.W w' := fun X => same5_eq (R 1).x0 (R 1).y0 (R 1).x1 (R 1).y1 (s3 1) (s2 1) (m3 1) (m2 1) (D' 1) X.W (hD 1 (by decide)) (X.ok.h1 1 (by decide)) (X.ok.h2 1 (by decide))
        go_upto_region 18 with fail
        refine wp_region_in (fun X : Fam (Sp w w2.heap.size w5.heap.size A3 A2 s3 s2 D') => X.W) (by kernel_rfl) (by kernel_rfl) ⟨⟨_, hS.step (Below.refl _ _).drew⟩, rfl⟩ ?_
        repeat (first | go_big_quiet_step ((first | (go_at_call 19; exact call_in (cS _) (hst _)))) | quiet_step ((first | (go_at_call 19; exact call_in (cS _) (hst _)))))
        refine wpQuiet_nil ?_
        intro w9 hw'
        obtain ⟨⟨_, hS9⟩, hw''⟩ := hw'
        subst hw''
        clear cS p0 p1 p2 p3 p4 q0 q1 q2 q3 q4 hst hne
        have HS : Hid _ := hS9
        clear hS hS9
        go_wp2
        go_roundw
        case rel => exact ⟨2, by decide, (by first | rfl | go_num), HS.out⟩
        case measure => first | decide | (simp [intOf]; done) | (simp [intOf]; omega)
      · replace hi : _ = Value.int .i64 2 := hi; subst hi
        have p0 : ∀ X : Fam (Sp w w2.heap.size w5.heap.size A3 A2 s3 s2 D'), X.W.cell? ⟨w2.heap.size, 10, none⟩ = some (.int .i64 (R 2).x0) := fun X => X.ok.b1.cell 10 _ (by rw [Hb1.out]; rfl)
        have p1 : ∀ X : Fam (Sp w w2.heap.size w5.heap.size A3 A2 s3 s2 D'), X.W.cell? ⟨w2.heap.size, 11, none⟩ = some (.int .i64 (R 2).y0) := fun X => X.ok.b1.cell 11 _ (by rw [Hb1.out]; rfl)
        have p2 : ∀ X : Fam (Sp w w2.heap.size w5.heap.size A3 A2 s3 s2 D'), X.W.cell? ⟨w2.heap.size, 12, none⟩ = some (.int .i64 (R 2).x1) := fun X => X.ok.b1.cell 12 _ (by rw [Hb1.out]; rfl)
        have p3 : ∀ X : Fam (Sp w w2.heap.size w5.heap.size A3 A2 s3 s2 D'), X.W.cell? ⟨w2.heap.size, 13, none⟩ = some (.int .i64 (R 2).y1) := fun X => X.ok.b1.cell 13 _ (by rw [Hb1.out]; rfl)
        have p4 : ∀ X : Fam (Sp w w2.heap.size w5.heap.size A3 A2 s3 s2 D'), X.W.cell? ⟨w2.heap.size, 14, none⟩ = some (.slice (s3 2) (D' 2).length (m3 2)) := fun X => X.ok.b1.cell 14 _ (by rw [Hb1.out]; rfl)
        have q0 : ∀ X : Fam (Sp w w2.heap.size w5.heap.size A3 A2 s3 s2 D'), X.W.cell? ⟨w5.heap.size, 10, none⟩ = some (.int .i64 (R 2).x0) := fun X => X.ok.b2.cell 10 _ (by rw [Hb2.out]; rfl)
        have q1 : ∀ X : Fam (Sp w w2.heap.size w5.heap.size A3 A2 s3 s2 D'), X.W.cell? ⟨w5.heap.size, 11, none⟩ = some (.int .i64 (R 2).y0) := fun X => X.ok.b2.cell 11 _ (by rw [Hb2.out]; rfl)
        have q2 : ∀ X : Fam (Sp w w2.heap.size w5.heap.size A3 A2 s3 s2 D'), X.W.cell? ⟨w5.heap.size, 12, none⟩ = some (.int .i64 (R 2).x1) := fun X => X.ok.b2.cell 12 _ (by rw [Hb2.out]; rfl)
        have q3 : ∀ X : Fam (Sp w w2.heap.size w5.heap.size A3 A2 s3 s2 D'), X.W.cell? ⟨w5.heap.size, 13, none⟩ = some (.int .i64 (R 2).y1) := fun X => X.ok.b2.cell 13 _ (by rw [Hb2.out]; rfl)
        have q4 : ∀ X : Fam (Sp w w2.heap.size w5.heap.size A3 A2 s3 s2 D'), X.W.cell? ⟨w5.heap.size, 14, none⟩ = some (.slice (s2 2) (D' 2).length (m2 2)) := fun X => X.ok.b2.cell 14 _ (by rw [Hb2.out]; rfl)
        have cS : ∀ X : Fam (Sp w w2.heap.size w5.heap.size A3 A2 s3 s2 D'), Calls Try.prog 19 #[.agg #[.int .i64 (R 2).x0, .int .i64 (R 2).y0, .int .i64 (R 2).x1, .int .i64 (R 2).y1, .slice (s3 2) (D' 2).length (m3 2)], .agg #[.int .i64 (R 2).x0, .int .i64 (R 2).y0, .int .i64 (R 2).x1, .int .i64 (R 2).y1, .slice (s2 2) (D' 2).length (m2 2)]] X.W fun e w' => e = .returned (.bool true) ∧ Below X.W.heap.size X.W w' := fun X => same5_eq (R 2).x0 (R 2).y0 (R 2).x1 (R 2).y1 (s3 2) (s2 2) (m3 2) (m2 2) (D' 2) X.W (hD 2 (by decide)) (X.ok.h1 2 (by decide)) (X.ok.h2 2 (by decide))
        go_upto_region 18 with fail
        refine wp_region_in (fun X : Fam (Sp w w2.heap.size w5.heap.size A3 A2 s3 s2 D') => X.W) (by kernel_rfl) (by kernel_rfl) ⟨⟨_, hS.step (Below.refl _ _).drew⟩, rfl⟩ ?_
        repeat (first | go_big_quiet_step ((first | (go_at_call 19; exact call_in (cS _) (hst _)))) | quiet_step ((first | (go_at_call 19; exact call_in (cS _) (hst _)))))
        refine wpQuiet_nil ?_
        intro w9 hw'
        obtain ⟨⟨_, hS9⟩, hw''⟩ := hw'
        subst hw''
        clear cS p0 p1 p2 p3 p4 q0 q1 q2 q3 q4 hst hne
        have HS : Hid _ := hS9
        clear hS hS9
        go_wp2
        go_roundw
        case rel => exact ⟨3, by decide, (by first | rfl | go_num), HS.out⟩
        case measure => first | decide | (simp [intOf]; done) | (simp [intOf]; omega)
      · replace hi : _ = Value.int .i64 3 := hi; subst hi
        have p0 : ∀ X : Fam (Sp w w2.heap.size w5.heap.size A3 A2 s3 s2 D'), X.W.cell? ⟨w2.heap.size, 15, none⟩ = some (.int .i64 (R 3).x0) := fun X => X.ok.b1.cell 15 _ (by rw [Hb1.out]; rfl)
        have p1 : ∀ X : Fam (Sp w w2.heap.size w5.heap.size A3 A2 s3 s2 D'), X.W.cell? ⟨w2.heap.size, 16, none⟩ = some (.int .i64 (R 3).y0) := fun X => X.ok.b1.cell 16 _ (by rw [Hb1.out]; rfl)
        have p2 : ∀ X : Fam (Sp w w2.heap.size w5.heap.size A3 A2 s3 s2 D'), X.W.cell? ⟨w2.heap.size, 17, none⟩ = some (.int .i64 (R 3).x1) := fun X => X.ok.b1.cell 17 _ (by rw [Hb1.out]; rfl)
        have p3 : ∀ X : Fam (Sp w w2.heap.size w5.heap.size A3 A2 s3 s2 D'), X.W.cell? ⟨w2.heap.size, 18, none⟩ = some (.int .i64 (R 3).y1) := fun X => X.ok.b1.cell 18 _ (by rw [Hb1.out]; rfl)
        have p4 : ∀ X : Fam (Sp w w2.heap.size w5.heap.size A3 A2 s3 s2 D'), X.W.cell? ⟨w2.heap.size, 19, none⟩ = some (.slice (s3 3) (D' 3).length (m3 3)) := fun X => X.ok.b1.cell 19 _ (by rw [Hb1.out]; rfl)
        have q0 : ∀ X : Fam (Sp w w2.heap.size w5.heap.size A3 A2 s3 s2 D'), X.W.cell? ⟨w5.heap.size, 15, none⟩ = some (.int .i64 (R 3).x0) := fun X => X.ok.b2.cell 15 _ (by rw [Hb2.out]; rfl)
        have q1 : ∀ X : Fam (Sp w w2.heap.size w5.heap.size A3 A2 s3 s2 D'), X.W.cell? ⟨w5.heap.size, 16, none⟩ = some (.int .i64 (R 3).y0) := fun X => X.ok.b2.cell 16 _ (by rw [Hb2.out]; rfl)
        have q2 : ∀ X : Fam (Sp w w2.heap.size w5.heap.size A3 A2 s3 s2 D'), X.W.cell? ⟨w5.heap.size, 17, none⟩ = some (.int .i64 (R 3).x1) := fun X => X.ok.b2.cell 17 _ (by rw [Hb2.out]; rfl)
        have q3 : ∀ X : Fam (Sp w w2.heap.size w5.heap.size A3 A2 s3 s2 D'), X.W.cell? ⟨w5.heap.size, 18, none⟩ = some (.int .i64 (R 3).y1) := fun X => X.ok.b2.cell 18 _ (by rw [Hb2.out]; rfl)
        have q4 : ∀ X : Fam (Sp w w2.heap.size w5.heap.size A3 A2 s3 s2 D'), X.W.cell? ⟨w5.heap.size, 19, none⟩ = some (.slice (s2 3) (D' 3).length (m2 3)) := fun X => X.ok.b2.cell 19 _ (by rw [Hb2.out]; rfl)
        have cS : ∀ X : Fam (Sp w w2.heap.size w5.heap.size A3 A2 s3 s2 D'), Calls Try.prog 19 #[.agg #[.int .i64 (R 3).x0, .int .i64 (R 3).y0, .int .i64 (R 3).x1, .int .i64 (R 3).y1, .slice (s3 3) (D' 3).length (m3 3)], .agg #[.int .i64 (R 3).x0, .int .i64 (R 3).y0, .int .i64 (R 3).x1, .int .i64 (R 3).y1, .slice (s2 3) (D' 3).length (m2 3)]] X.W fun e w' => e = .returned (.bool true) ∧ Below X.W.heap.size X.W w' := fun X => same5_eq (R 3).x0 (R 3).y0 (R 3).x1 (R 3).y1 (s3 3) (s2 3) (m3 3) (m2 3) (D' 3) X.W (hD 3 (by decide)) (X.ok.h1 3 (by decide)) (X.ok.h2 3 (by decide))
        go_upto_region 18 with fail
        refine wp_region_in (fun X : Fam (Sp w w2.heap.size w5.heap.size A3 A2 s3 s2 D') => X.W) (by kernel_rfl) (by kernel_rfl) ⟨⟨_, hS.step (Below.refl _ _).drew⟩, rfl⟩ ?_
        repeat (first | go_big_quiet_step ((first | (go_at_call 19; exact call_in (cS _) (hst _)))) | quiet_step ((first | (go_at_call 19; exact call_in (cS _) (hst _)))))
        refine wpQuiet_nil ?_
        intro w9 hw'
        obtain ⟨⟨_, hS9⟩, hw''⟩ := hw'
        subst hw''
        clear cS p0 p1 p2 p3 p4 q0 q1 q2 q3 q4 hst hne
        have HS : Hid _ := hS9
        clear hS hS9
        go_wp2
        go_roundw
        case rel => exact ⟨4, by decide, (by first | rfl | go_num), HS.out⟩
        case measure => first | decide | (simp [intOf]; done) | (simp [intOf]; omega)
    · obtain rfl : j = 4 := by omega
      replace hi : _ = Value.int .i64 4 := hi; subst hi
      have HB : Hid _ := hS.below
      clear hS
      go_wp2_with (first | (go_at_call 16; (with_reducible refine (awake_c _).mono ?_); rintro e w9 ⟨rfl, hb9⟩))
      go_ret
      exact ⟨rfl, below_call HB.out hb9⟩
theorem wrap_in {y v : Int} (h1 : -711918454407168 ≤ v ∧ v ≤ 711918454407168) (h2 : y ≤ 281474976710656) (h3 : -281474976710656 ≤ y) : IntKind.i64.wrap (v + y) = v + y := IntWalk.i64_in _ (by omega)
theorem walk (a b c d y kn : Int) (s : Option Addr) (l : List Int) (m : Nat) (w : World) (hm : l.length ≤ m) (hH : HoldsI w s l) : Calls Try.prog 4 #[.agg #[.int .i64 a, .int .i64 b, .int .i64 c, .int .i64 d, .slice s l.length m], .int .i64 y, .int .i64 kn] w fun e w' => e = .returned (.bool true) ∧ Below w.heap.size w w' := by
  by_cases hf : l.length ≤ 4000
  · by_cases hy1 : 281474976710656 < y
    · exact no2 a b c d y kn s l m w hm hH hf hy1
    · by_cases hy2 : y < -281474976710656
      · exact no3 a b c d y kn s l m w hm hH hf (by omega) hy2
      · have hy0 : y ≤ 281474976710656 := by omega
        have hy : -281474976710656 ≤ y := by omega
        rcases splitc_cases a b c d kn l s m hm (by omega) with ⟨E, hE, cS⟩ | ⟨n, h, hp, hk, hfw, hn, hh, _⟩
        · exact bad1 a b c d y kn s l m w hm hH hf hy0 hy E (by rcases hE with rfl | rfl | rfl <;> decide) cS
        · cases hf2 : fewB (Ex.addL y l) 35184372088832 with
          | false => exact bad2 a b c d y kn s l m w hm hH hf hy0 hy n h hp hk hfw hn hh hf2
          | true =>
            obtain ⟨n', h', e1, e2, n4, h4, hlen, v1, v2, v3, v4, v5, v6, v7, v8, _⟩ := pv_facts hp
            have en : n' = n := by omega
            have eh : h' = h := by omega
            subst en eh
            have vb : 0 ≤ a ∧ a ≤ 4096 ∧ 0 ≤ b ∧ b ≤ 4096 ∧ 0 ≤ c ∧ c ≤ 4096 ∧ 0 ≤ d ∧ d ≤ 4096 := ⟨v1, v2, v3, v4, v5, v6, v7, v8⟩
            have hwl : Ex.within 35184372088832 (Ex.cutR n' l h').flatten := by rw [Ex.cutR_flat hlen]; exact few_iff.1 hfw
            have hall : ∀ o, o < 4 → ∀ v ∈ (bandQ a b kn n' (Ex.cutR n' l h') o).flatten, IntKind.i64.wrap (v + y) = v + y := fun o ho v hv => by
              have := band_fine hk (show (0 : Int) ≤ 35184372088832 by decide) hwl o ho v hv
              have e : fn (fn 35184372088832) ≤ 711918454407168 := by decide
              exact wrap_in (by omega) hy0 hy
            have hlb : ∀ o, o < 4 → (bandQ a b kn n' (Ex.cutR n' l h') o).flatten.length ≤ 1048576 := fun o ho => by
              rw [band_len (a := a) (b := b) (kn := kn) (Ex.cutR_wide hlen) (Ex.cutR_len _ _ _) o ho]
              have q1 : htO b h' o ≤ h' := by unfold htO; split <;> first | exact Ex.cnt_le.2 | exact Ex.cnt_le.1
              have q2 : wdO a n' o ≤ n' := by unfold wdO; split <;> first | exact Ex.cnt_le.2 | exact Ex.cnt_le.1
              exact Nat.le_trans (Nat.mul_le_mul q1 q2) (by rw [← hlen]; omega)
            have ta : a.tmod 2 = a % 2 := Int.tmod_eq_emod_of_nonneg v1
            have tb : b.tmod 2 = b % 2 := Int.tmod_eq_emod_of_nonneg v3
            cases q1 : (c - a == 1) with
            | false =>
              have g1 : ¬ (n' = 1 ∧ a % 2 ≠ 0) := fun hq => by simp at q1; omega
              cases q2 : (d - b == 1) with
              | false =>
                have g2 : ¬ (h' = 1 ∧ b % 2 ≠ 0) := fun hq => by simp at q2; omega
                exact mainFF a b c d y kn s l m w hm hH hf hy0 hy n' h' hp hk hfw hn hh hf2 q1 q2 (by unfold offB; rw [if_neg g1, if_neg g2]) hall hlb hlen vb
              | true =>
                cases q2' : (b.tmod 2 == 1) with
                | false =>
                  have g2 : ¬ (h' = 1 ∧ b % 2 ≠ 0) := fun hq => by simp at q2'; omega
                  exact mainFTF a b c d y kn s l m w hm hH hf hy0 hy n' h' hp hk hfw hn hh hf2 q1 q2 q2' (by unfold offB; rw [if_neg g1, if_neg g2]) hall hlb hlen vb
                | true =>
                  have g2 : h' = 1 ∧ b % 2 ≠ 0 := by simp at q2 q2'; omega
                  exact mainFTT a b c d y kn s l m w hm hH hf hy0 hy n' h' hp hk hfw hn hh hf2 q1 q2 q2' (by unfold offB; rw [if_neg g1, if_pos g2]) hall hlb hlen vb
            | true =>
              cases q1' : (a.tmod 2 == 1) with
              | false =>
                have g1 : ¬ (n' = 1 ∧ a % 2 ≠ 0) := fun hq => by simp at q1'; omega
                cases q2 : (d - b == 1) with
                | false =>
                  have g2 : ¬ (h' = 1 ∧ b % 2 ≠ 0) := fun hq => by simp at q2; omega
                  exact mainTFF a b c d y kn s l m w hm hH hf hy0 hy n' h' hp hk hfw hn hh hf2 q1 q1' q2 (by unfold offB; rw [if_neg g1, if_neg g2]) hall hlb hlen vb
                | true =>
                  cases q2' : (b.tmod 2 == 1) with
                  | false =>
                    have g2 : ¬ (h' = 1 ∧ b % 2 ≠ 0) := fun hq => by simp at q2'; omega
                    exact mainTFTF a b c d y kn s l m w hm hH hf hy0 hy n' h' hp hk hfw hn hh hf2 q1 q1' q2 q2' (by unfold offB; rw [if_neg g1, if_neg g2]) hall hlb hlen vb
                  | true =>
                    have g2 : h' = 1 ∧ b % 2 ≠ 0 := by simp at q2 q2'; omega
                    exact mainTFTT a b c d y kn s l m w hm hH hf hy0 hy n' h' hp hk hfw hn hh hf2 q1 q1' q2 q2' (by unfold offB; rw [if_neg g1, if_pos g2]) hall hlb hlen vb
              | true =>
                have g1 : n' = 1 ∧ a % 2 ≠ 0 := by simp at q1 q1'; omega
                cases q2 : (d - b == 1) with
                | false =>
                  have g2 : ¬ (h' = 1 ∧ b % 2 ≠ 0) := fun hq => by simp at q2; omega
                  exact mainTTF a b c d y kn s l m w hm hH hf hy0 hy n' h' hp hk hfw hn hh hf2 q1 q1' q2 (by unfold offB; rw [if_pos g1, if_neg g2]) hall hlb hlen vb
                | true =>
                  cases q2' : (b.tmod 2 == 1) with
                  | false =>
                    have g2 : ¬ (h' = 1 ∧ b % 2 ≠ 0) := fun hq => by simp at q2'; omega
                    exact mainTTTF a b c d y kn s l m w hm hH hf hy0 hy n' h' hp hk hfw hn hh hf2 q1 q1' q2 q2' (by unfold offB; rw [if_pos g1, if_neg g2]) hall hlb hlen vb
                  | true =>
                    have g2 : h' = 1 ∧ b % 2 ≠ 0 := by simp at q2 q2'; omega
                    exact mainTTTT a b c d y kn s l m w hm hH hf hy0 hy n' h' hp hk hfw hn hh hf2 q1 q1' q2 q2' (by unfold offB; rw [if_pos g1, if_pos g2]) hall hlb hlen vb
  · exact no1 a b c d y kn s l m w hm hH hf

set_option maxRecDepth 100000 in
theorem lifted (os : Os) (started : os.Started) (H : Type) (enc : TypeId × Value → H) :
    ReturnsInHanded {} Try.checked os 4 .any (Rows.dwtOffsetsSpec.pre6 enc Try.prog Try.f4 Rows.dwtOffsetsRow.domain false) (Rows.dwtOffsetsSpec.post enc Try.prog Try.f4 false true false false) := by
  refine returnsInHanded_of_change (C := Try.checked) own started (by kernel_rfl) Try.func4
    (ChangeSpec.witness6 (enc := enc) (C := Try.checked) false ⟨#[], #[.agg #[.int .i64 0, .int .i64 0, .int .i64 0, .int .i64 0, .slice none 0 0], .int .i64 0, .int .i64 0], []⟩ 8 (by kernel_rfl) (by kernel_rfl) (by kernel_rfl) (by kernel_rfl)) ?_
  intro W base args ds gs before hval0 hW _ _
  have hval : ∀ (j : Nat) t v, Try.f4.params[j]? = some t → args[j]? = some v → Value.okWide Try.prog W .any base t v := hval0
  have hW' := hW
  obtain ⟨p, q, hA0, hV, rfl, _, _⟩ := hW
  have hA : DataW.TrodAll enc Try.prog W 0 (fun _ => true) true Try.f4.params.toList args.toList ds p := hA0
  rw [Try.params4] at hA hval
  obtain ⟨v0, vs0, d0, ds0, p0, q0, hargs, rfl, rfl, h0, r0⟩ := trodAll_cons hA
  obtain ⟨v1, vs1, d1, ds1, p1, q1, rfl, rfl, rfl, h1, r1⟩ := trodAll_cons r0
  obtain ⟨v2, vs2, d2, ds2, p2, q2, rfl, rfl, rfl, h2, r2⟩ := trodAll_cons r1
  obtain ⟨rfl, rfl, rfl⟩ := trodAll_nil r2
  obtain rfl : args = #[v0, v1, v2] := by cases args; simp_all
  obtain ⟨rfl, rfl⟩ := trodVars_none hV
  clear hA0 hval0
  simp only [List.append_nil] at hW'
  have l0 : ∀ x ∈ p0, x.block < W.heap.size := fun x hx => hW'.lt x (by simp [hx])
  have l1 : ∀ x ∈ p1, x.block < W.heap.size := fun x hx => hW'.lt x (by simp [hx])
  have l2 : ∀ x ∈ p2, x.block < W.heap.size := fun x hx => hW'.lt x (by simp [hx])
  obtain ⟨a, b, c, d, s, l, m, rfl, hH0, hm0, hx0, hn0⟩ := open_plane (hval 0 26 v0 rfl rfl) h0
  obtain ⟨y, rfl, _, _, w1⟩ := open_int Try.underlying3 (hval 1 3 v1 rfl rfl) h1
  obtain ⟨kn, rfl, _, _, w2⟩ := open_int Try.underlying28 (hval 2 28 v2 rfl rfl) h2
  refine (walk a b c d y kn s l m W hm0 hH0).mono fun e W' ⟨he, hb⟩ => ?_
  subst he
  exact ⟨_, rfl, post_low (pa := p0 ++ (p1 ++ (p2 ++ ([])))) (pv := []) hW' (fun _ _ _ => (trodAll_cons_mk (shut_bool Try.underlying4 _) trodAll_mk0)) (fun sp hsp => (trodAll_cons_mk (trod_low laidOut (by kernel_rfl) (of_decide_eq_true (by kernel_rfl)) h0 hb l0 (fun x hx => hsp x (by simp [hx]))) (trodAll_cons_mk (trod_low laidOut (by kernel_rfl) (of_decide_eq_true (by kernel_rfl)) h1 hb l1 (fun x hx => hsp x (by simp [hx]))) (trodAll_cons_mk (trod_low laidOut (by kernel_rfl) (of_decide_eq_true (by kernel_rfl)) h2 hb l2 (fun x hx => hsp x (by simp [hx]))) trodAll_mk0)))) (fun _ _ => rfl) (by simp) hb (ok_one (by kernel_rfl) rfl (okWide_bool_mk Try.underlying4 _))⟩

theorem over : Rows.dwtOffsetsRow.holds Try.pinned (OpenSpec.ofChange Rows.dwtOffsetsSpec) :=
  OpenClaim.holds_of_wide 4 Try.f4 rfl rfl rfl rfl rfl rfl rfl ⟨rfl, rfl, rfl, rfl, rfl⟩ rfl rfl rfl rfl rfl (by kernel_rfl) Try.func4 (by kernel_rfl)
    (of_decide_eq_true (by kernel_rfl)) (by unfold Func.isWrapper; first | (rw [if_pos (by decide +kernel)]; kernel_rfl) | (rw [if_neg (by decide +kernel)]; exact ⟨rfl, rfl⟩))
    (fun os started H enc _ => lifted os started H enc)

theorem proved : Rows.DwtOffsetsSaid :=
  over
#print axioms proved
end Go.Proofs.Ytoplgnckdmkaoaa.dwtOffsets
