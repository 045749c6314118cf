/-
  For all planes p and kernels k the statement DwtSplits returns true, and its arguments read afterwards as before.
  Conditions: none beyond those of the given statement.
-/
import Derived.Test.YtnfnidgabgdphaaFrame
import Derived.Test.YtnfnidgabgdphaaOpenP
import Derived.Test.YtnfnidgabgdphaaAwk
import Derived.Test.YtnfnidgabgdphaaLawB5
set_option maxRecDepth 100000
namespace Go.Proofs.Ytnfnidgabgdphaa.dwtSplits
open Go.ChangeShapes Go.WideShapes Go.ChangeAt Go.RowKit Go.Joins Go.Deep

structure Sp (w : World) (B1 B2 : Nat) (A1 A2 : Array Value) (s1 s2 : Nat → Option Addr) (D : Nat → List Int) (W : World) : Prop where
  below : Below w.heap.size w W
  b1 : Blk W B1 33 A1
  b2 : Blk W B2 33 A2
  h1 : ∀ o, o < 4 → HoldsI W (s1 o) (D o)
  h2 : ∀ o, o < 4 → HoldsI W (s2 o) (D o)
theorem Sp.step {w W W1 : World} {B1 B2 : Nat} {A1 A2 : Array Value} {s1 s2 : Nat → Option Addr} {D : Nat → List Int} (h : Sp w B1 B2 A1 A2 s1 s2 D W) (hb : Below W.heap.size W W1) : Sp w B1 B2 A1 A2 s1 s2 D W1 :=
  ⟨below_call h.below hb, h.b1.below hb, h.b2.below hb, fun o ho => (h.h1 o ho).call hb, fun o ho => (h.h2 o ho).call hb⟩
/-- Split of the code and Split of the reference give the same planes and error. -/
theorem split_both (a b c d kn : Int) (l : List Int) (s : Option Addr) (m : Nat) (hm : l.length ≤ m) (hl : l.length ≤ 4000) (hs : s = none → l.length = 0 ∧ m = 0) : ∃ (R : Nat → Pl.R) (D : Nat → List Int) (E : Int), (∀ o, o < 4 → (D o).length ≤ 140737488351232) ∧
    (∀ w, HoldsI w s l → Calls Try.prog 21 #[.agg #[.int .i64 a, .int .i64 b, .int .i64 c, .int .i64 d, .slice s l.length m], .int .i64 kn] w (GivesP4 R D E w)) ∧
    (∀ w, HoldsI w s l → Calls Try.prog 22 #[.agg #[.int .i64 a, .int .i64 b, .int .i64 c, .int .i64 d, .slice s l.length m], .int .i64 kn] w (GivesP4 R D E w)) := by
  cases hp : pvB a b c d l.length with
  | false => exact ⟨_, _, _, fun _ _ => Nat.zero_le _, fun w _ => splitc_no1 a b c d kn l s m w hp, fun w _ => split5_no1 a b c d kn l s m w hp⟩
  | true =>
    cases hk : kB kn with
    | false => exact ⟨_, _, _, fun _ _ => Nat.zero_le _, fun w _ => splitc_no2 a b c d kn l s m w hp hk, fun w _ => split5_no2 a b c d kn l s m w hp hk⟩
    | true =>
      cases hf : fewB l 35184372088832 with
      | false => exact ⟨_, _, _, fun _ _ => Nat.zero_le _, fun w hH => splitc_no3 a b c d kn l s m w hp hk hf hH, fun w hH => split5_no3 a b c d kn l s m w hp hk hf (by omega) hH⟩
      | true =>
        obtain ⟨n, h, e1, e2, n4, h4, hlen, _, _, _, _, _, _, _, _, _⟩ := pv_facts hp
        refine ⟨_, _, _, fun o ho => ?_, fun w hH => splitc_yes a b c d kn l s m n h w hp hk hf hm hH e1 e2, fun w hH => split5_yes a b c d kn l s m n h w hp hk hf hs hm hH e1 e2⟩
        rw [band_len (a := a) (b := b) (kn := kn) (Ex.cutR_wide hlen) (Ex.cutR_len _ _ _) o ho]
        have q1 : htO b h o ≤ h := by unfold htO; split <;> first | exact Ex.cnt_le.2 | exact Ex.cnt_le.1
        have q2 : wdO a n o ≤ n := by unfold wdO; split <;> first | exact Ex.cnt_le.2 | exact Ex.cnt_le.1
        exact Nat.le_trans (Nat.mul_le_mul q1 q2) (by rw [← hlen]; omega)
set_option maxRecDepth 100000 in
set_option maxHeartbeats 8000000 in
theorem walk (a b c d kn : Int) (s : Option Addr) (l : List Int) (m : Nat) (w : World) (hm : l.length ≤ m) (hs : s = none → l.length = 0 ∧ m = 0) (hH : HoldsI w s l) : Calls Try.prog 4 #[.agg #[.int .i64 a, .int .i64 b, .int .i64 c, .int .i64 d, .slice s l.length m], .int .i64 kn] w fun e w' => e = .returned (.bool true) ∧ Below w.heap.size w w' := by
  have x0 := QBox.fresh w a b c d s l.length m 30
  have B0 := below_alloc (Below.refl _ w) (.cells #[.int .i64 a, .int .i64 b, .int .i64 c, .int .i64 d, .slice s l.length m] 30)
  go_enter Try.func4, Try.ntmps4
  go_wp2_with fail
  refine (few5_c ⟨a, b, c, d⟩ s l.length m _).mono ?_
  rintro e w1 ⟨rfl, hb⟩
  replace x0 := x0.below hb
  replace B0 := below_call B0 hb
  have H1 := hH.below B0 (Nat.le_refl _)
  clear hb hH
  by_cases hfw : l.length ≤ 4000
  · have gf : decide (l.length ≤ 4000) = true := decide_eq_true hfw
    rw [gf]
    obtain ⟨y0, y1, y2, y3, y4⟩ := x0.open
    obtain ⟨R, D, E, hD, cC, cR⟩ := split_both a b c d kn l s m hm hfw hs
    clear gf hfw hs hm
    go_wp2_with fail
    refine (cC _ H1).mono ?_
    rintro e w2 ⟨s1, m1, rfl, hh1, hb⟩
    replace x0 := x0.below hb
    replace B0 := below_call B0 hb
    replace H1 := H1.call hb
    obtain ⟨A1, hA1⟩ : ∃ A1, A1 = arrP R (fun o => .slice (s1 o) (D o).length (m1 o)) := ⟨_, rfl⟩
    rw [← hA1]
    have Hb1 : Hid _ := hA1
    have H20 : Hid (20 = A1.size) := by rw [hA1]; rfl
    have HI : Hid ((Try.prog.info? 33).map (·.size) = some A1.size) := by rw [hA1]; exact info20
    have hAo : A1.all (·.oneCell') = true := by rw [hA1]; simp [arrP_get, Value.oneCell']
    clear hA1 hb y0 y1 y2 y3 y4 cC
    go_upto_region 4 with (first | (refine wpList_store_row rfl 33 (.tmp 5) (.tmp 18) rfl w2.heap.size A1 rfl rfl 33 _ (Blk.fresh w2 33 #[.int .i64 0, .int .i64 0, .int .i64 0, .int .i64 0, .slice none 0 0, .int .i64 0, .int .i64 0, .int .i64 0, .int .i64 0, .slice none 0 0, .int .i64 0, .int .i64 0, .int .i64 0, .int .i64 0, .slice none 0 0, .int .i64 0, .int .i64 0, .int .i64 0, .int .i64 0, .slice none 0 0]) HI.out H20.out hAo ?_))
    obtain ⟨W3, hW3⟩ : ∃ W3, W3 = (w2.alloc (.cells #[.int .i64 0, .int .i64 0, .int .i64 0, .int .i64 0, .slice none 0 0, .int .i64 0, .int .i64 0, .int .i64 0, .int .i64 0, .slice none 0 0, .int .i64 0, .int .i64 0, .int .i64 0, .int .i64 0, .slice none 0 0, .int .i64 0, .int .i64 0, .int .i64 0, .int .i64 0, .slice none 0 0] 33)).setRow w2.heap.size A1 := ⟨_, rfl⟩
    have B3 : Below w.heap.size w W3 := by rw [hW3]; exact below_row (below_alloc B0 _) B0.size _
    have b3 : Blk W3 w2.heap.size 33 A1 := by rw [hW3]; exact (Blk.fresh w2 33 #[.int .i64 0, .int .i64 0, .int .i64 0, .int .i64 0, .slice none 0 0, .int .i64 0, .int .i64 0, .int .i64 0, .int .i64 0, .slice none 0 0, .int .i64 0, .int .i64 0, .int .i64 0, .int .i64 0, .slice none 0 0, .int .i64 0, .int .i64 0, .int .i64 0, .int .i64 0, .slice none 0 0]).row A1
    have x3 : QBox W3 w.heap.size ⟨a, b, c, d⟩ (.slice s l.length m) := by rw [hW3]; exact (x0.alloc _).but (But.setRow _) (Nat.ne_of_lt x0.lt)
    have H3 : HoldsI W3 s l := by rw [hW3]; exact holds_rowed H1 _ _
    have hh3 : ∀ o, o < 4 → HoldsI W3 (s1 o) (D o) := fun o ho => by rw [hW3]; exact holds_rowed (hh1 o ho).1 _ _
    rw [← hW3]
    clear hW3 B0 hAo x0 H1 hh1 H20 HI
    obtain ⟨y0, y1, y2, y3, y4⟩ := x3.open
    go_wp2_with fail
    refine (cR _ H3).mono ?_
    rintro e w4 ⟨s2, m2, rfl, hh2, hb⟩
    replace B3 := below_call B3 hb
    replace b3 := b3.below hb
    replace hh3 := fun o (ho : o < 4) => (hh3 o ho).call hb
    obtain ⟨A2, hA2⟩ : ∃ A2, A2 = arrP R (fun o => .slice (s2 o) (D o).length (m2 o)) := ⟨_, rfl⟩
    rw [← hA2]
    have Hb2 : Hid _ := hA2
    have H20 : Hid (20 = A2.size) := by rw [hA2]; rfl
    have HI : Hid ((Try.prog.info? 33).map (·.size) = some A2.size) := by rw [hA2]; exact info20
    have hAo : A2.all (·.oneCell') = true := by rw [hA2]; simp [arrP_get, Value.oneCell']
    clear hA2 hb y0 y1 y2 y3 y4 cR x3 H3
    go_upto_region 6 with (first | (refine wpList_store_row rfl 33 (.tmp 7) (.tmp 24) rfl w4.heap.size A2 rfl rfl 33 _ (Blk.fresh w4 33 #[.int .i64 0, .int .i64 0, .int .i64 0, .int .i64 0, .slice none 0 0, .int .i64 0, .int .i64 0, .int .i64 0, .int .i64 0, .slice none 0 0, .int .i64 0, .int .i64 0, .int .i64 0, .int .i64 0, .slice none 0 0, .int .i64 0, .int .i64 0, .int .i64 0, .int .i64 0, .slice none 0 0]) HI.out H20.out hAo ?_))
    obtain ⟨W5, hW5⟩ : ∃ W5, W5 = (w4.alloc (.cells #[.int .i64 0, .int .i64 0, .int .i64 0, .int .i64 0, .slice none 0 0, .int .i64 0, .int .i64 0, .int .i64 0, .int .i64 0, .slice none 0 0, .int .i64 0, .int .i64 0, .int .i64 0, .int .i64 0, .slice none 0 0, .int .i64 0, .int .i64 0, .int .i64 0, .int .i64 0, .slice none 0 0] 33)).setRow w4.heap.size A2 := ⟨_, rfl⟩
    have S5 : Sp w w2.heap.size w4.heap.size A1 A2 s1 s2 D W5 := by
      rw [hW5]
      exact ⟨below_row (below_alloc B3 _) B3.size _, (b3.alloc _).but (But.setRow _) (Nat.ne_of_lt b3.lt), (Blk.fresh w4 33 #[.int .i64 0, .int .i64 0, .int .i64 0, .int .i64 0, .slice none 0 0, .int .i64 0, .int .i64 0, .int .i64 0, .int .i64 0, .slice none 0 0, .int .i64 0, .int .i64 0, .int .i64 0, .int .i64 0, .slice none 0 0, .int .i64 0, .int .i64 0, .int .i64 0, .int .i64 0, .slice none 0 0]).row A2, fun o ho => holds_rowed (hh3 o ho) _ _, fun o ho => holds_rowed (hh2 o ho).1 _ _⟩
    rw [← hW5]
    clear hW5 B3 b3 hh3 hh2 hAo H20 HI
    have f1 : (E == E) = true := by simp
    have f2 : decide (E = E) = true := by simp
    go_loopw [26] (fun i wr => ∃ j : Nat, j ≤ 4 ∧ i = .int .i64 (j : Int) ∧ Sp w w2.heap.size w4.heap.size A1 A2 s1 s2 D wr) (fun i _ => 4 - (intOf i).toNat)
    case atStart => exact ⟨0, by decide, rfl, S5⟩
    case round =>
      obtain ⟨j, hj, hi, hS⟩ := hrel
      clear S5
      by_cases hlt : j < 4
      · have hst := Fam.next (I := Sp w w2.heap.size w4.heap.size A1 A2 s1 s2 D) (fun _ _ p q => p.step q)
        have hne : Nonempty (Fam (Sp w w2.heap.size w4.heap.size A1 A2 s1 s2 D)) := ⟨⟨_, hS⟩⟩
        rcases lt4 hlt with rfl | rfl | rfl | rfl
        · replace hi : _ = Value.int .i64 0 := hi; subst hi
          have p0 : ∀ X : Fam (Sp w w2.heap.size w4.heap.size A1 A2 s1 s2 D), X.W.cell? ⟨w2.heap.size, 0, none⟩ = some (.int .i64 (R 0).x0) := fun X => X.ok.b1.cell 0 _ (by rw [Hb1.out]; rfl)
          have p1 : ∀ X : Fam (Sp w w2.heap.size w4.heap.size A1 A2 s1 s2 D), X.W.cell? ⟨w2.heap.size, 1, none⟩ = some (.int .i64 (R 0).y0) := fun X => X.ok.b1.cell 1 _ (by rw [Hb1.out]; rfl)
          have p2 : ∀ X : Fam (Sp w w2.heap.size w4.heap.size A1 A2 s1 s2 D), X.W.cell? ⟨w2.heap.size, 2, none⟩ = some (.int .i64 (R 0).x1) := fun X => X.ok.b1.cell 2 _ (by rw [Hb1.out]; rfl)
          have p3 : ∀ X : Fam (Sp w w2.heap.size w4.heap.size A1 A2 s1 s2 D), X.W.cell? ⟨w2.heap.size, 3, none⟩ = some (.int .i64 (R 0).y1) := fun X => X.ok.b1.cell 3 _ (by rw [Hb1.out]; rfl)
          have p4 : ∀ X : Fam (Sp w w2.heap.size w4.heap.size A1 A2 s1 s2 D), X.W.cell? ⟨w2.heap.size, 4, none⟩ = some (.slice (s1 0) (D 0).length (m1 0)) := fun X => X.ok.b1.cell 4 _ (by rw [Hb1.out]; rfl)
          have q0 : ∀ X : Fam (Sp w w2.heap.size w4.heap.size A1 A2 s1 s2 D), X.W.cell? ⟨w4.heap.size, 0, none⟩ = some (.int .i64 (R 0).x0) := fun X => X.ok.b2.cell 0 _ (by rw [Hb2.out]; rfl)
          have q1 : ∀ X : Fam (Sp w w2.heap.size w4.heap.size A1 A2 s1 s2 D), X.W.cell? ⟨w4.heap.size, 1, none⟩ = some (.int .i64 (R 0).y0) := fun X => X.ok.b2.cell 1 _ (by rw [Hb2.out]; rfl)
          have q2 : ∀ X : Fam (Sp w w2.heap.size w4.heap.size A1 A2 s1 s2 D), X.W.cell? ⟨w4.heap.size, 2, none⟩ = some (.int .i64 (R 0).x1) := fun X => X.ok.b2.cell 2 _ (by rw [Hb2.out]; rfl)
          have q3 : ∀ X : Fam (Sp w w2.heap.size w4.heap.size A1 A2 s1 s2 D), X.W.cell? ⟨w4.heap.size, 3, none⟩ = some (.int .i64 (R 0).y1) := fun X => X.ok.b2.cell 3 _ (by rw [Hb2.out]; rfl)
          have q4 : ∀ X : Fam (Sp w w2.heap.size w4.heap.size A1 A2 s1 s2 D), X.W.cell? ⟨w4.heap.size, 4, none⟩ = some (.slice (s2 0) (D 0).length (m2 0)) := fun X => X.ok.b2.cell 4 _ (by rw [Hb2.out]; rfl)
          have cS : ∀ X : Fam (Sp w w2.heap.size w4.heap.size A1 A2 s1 s2 D), Calls Try.prog 23 #[.agg #[.int .i64 (R 0).x0, .int .i64 (R 0).y0, .int .i64 (R 0).x1, .int .i64 (R 0).y1, .slice (s1 0) (D 0).length (m1 0)], .agg #[.int .i64 (R 0).x0, .int .i64 (R 0).y0, .int .i64 (R 0).x1, .int .i64 (R 0).y1, .slice (s2 0) (D 0).length (m2 0)]] X.W fun e w' => e = .returned (.bool true) ∧ Below X.W.heap.size X.W w' := fun X => same5_eq (R 0).x0 (R 0).y0 (R 0).x1 (R 0).y1 (s1 0) (s2 0) (m1 0) (m2 0) (D 0) X.W (hD 0 (by decide)) (X.ok.h1 0 (by decide)) (X.ok.h2 0 (by decide))
          go_upto_region 8 with fail
          refine wp_region_in (fun X : Fam (Sp w w2.heap.size w4.heap.size A1 A2 s1 s2 D) => X.W) (by kernel_rfl) (by kernel_rfl) ⟨⟨_, hS.step (Below.refl _ _).drew⟩, rfl⟩ ?_
          repeat (first | go_big_quiet_step ((first | (go_at_call 23; exact call_in (cS _) (hst _)))) | quiet_step ((first | (go_at_call 23; exact call_in (cS _) (hst _)))))
          refine wpQuiet_nil ?_
          intro w9 hw'
          obtain ⟨⟨_, hS9⟩, hw''⟩ := hw'
          subst hw''
          clear cS p0 p1 p2 p3 p4 q0 q1 q2 q3 q4 hst hne
          have HS : Hid _ := hS9
          clear hS hS9
          go_wp2
          go_roundw
          case rel => exact ⟨1, by decide, (by first | rfl | go_num), HS.out⟩
          case measure => first | decide | (simp [intOf]; done) | (simp [intOf]; omega)
        · replace hi : _ = Value.int .i64 1 := hi; subst hi
          have p0 : ∀ X : Fam (Sp w w2.heap.size w4.heap.size A1 A2 s1 s2 D), X.W.cell? ⟨w2.heap.size, 5, none⟩ = some (.int .i64 (R 1).x0) := fun X => X.ok.b1.cell 5 _ (by rw [Hb1.out]; rfl)
          have p1 : ∀ X : Fam (Sp w w2.heap.size w4.heap.size A1 A2 s1 s2 D), X.W.cell? ⟨w2.heap.size, 6, none⟩ = some (.int .i64 (R 1).y0) := fun X => X.ok.b1.cell 6 _ (by rw [Hb1.out]; rfl)
          have p2 : ∀ X : Fam (Sp w w2.heap.size w4.heap.size A1 A2 s1 s2 D), X.W.cell? ⟨w2.heap.size, 7, none⟩ = some (.int .i64 (R 1).x1) := fun X => X.ok.b1.cell 7 _ (by rw [Hb1.out]; rfl)
          have p3 : ∀ X : Fam (Sp w w2.heap.size w4.heap.size A1 A2 s1 s2 D), X.W.cell? ⟨w2.heap.size, 8, none⟩ = some (.int .i64 (R 1).y1) := fun X => X.ok.b1.cell 8 _ (by rw [Hb1.out]; rfl)
          have p4 : ∀ X : Fam (Sp w w2.heap.size w4.heap.size A1 A2 s1 s2 D), X.W.cell? ⟨w2.heap.size, 9, none⟩ = some (.slice (s1 1) (D 1).length (m1 1)) := fun X => X.ok.b1.cell 9 _ (by rw [Hb1.out]; rfl)
          have q0 : ∀ X : Fam (Sp w w2.heap.size w4.heap.size A1 A2 s1 s2 D), X.W.cell? ⟨w4.heap.size, 5, none⟩ = some (.int .i64 (R 1).x0) := fun X => X.ok.b2.cell 5 _ (by rw [Hb2.out]; rfl)
          have q1 : ∀ X : Fam (Sp w w2.heap.size w4.heap.size A1 A2 s1 s2 D), X.W.cell? ⟨w4.heap.size, 6, none⟩ = some (.int .i64 (R 1).y0) := fun X => X.ok.b2.cell 6 _ (by rw [Hb2.out]; rfl)
          have q2 : ∀ X : Fam (Sp w w2.heap.size w4.heap.size A1 A2 s1 s2 D), X.W.cell? ⟨w4.heap.size, 7, none⟩ = some (.int .i64 (R 1).x1) := fun X => X.ok.b2.cell 7 _ (by rw [Hb2.out]; rfl)
          have q3 : ∀ X : Fam (Sp w w2.heap.size w4.heap.size A1 A2 s1 s2 D), X.W.cell? ⟨w4.heap.size, 8, none⟩ = some (.int .i64 (R 1).y1) := fun X => X.ok.b2.cell 8 _ (by rw [Hb2.out]; rfl)
          have q4 : ∀ X : Fam (Sp w w2.heap.size w4.heap.size A1 A2 s1 s2 D), X.W.cell? ⟨w4.heap.size, 9, none⟩ = some (.slice (s2 1) (D 1).length (m2 1)) := fun X => X.ok.b2.cell 9 _ (by rw [Hb2.out]; rfl)
          have cS : ∀ X : Fam (Sp w w2.heap.size w4.heap.size A1 A2 s1 s2 D), Calls Try.prog 23 #[.agg #[.int .i64 (R 1).x0, .int .i64 (R 1).y0, .int .i64 (R 1).x1, .int .i64 (R 1).y1, .slice (s1 1) (D 1).length (m1 1)], .agg #[.int .i64 (R 1).x0, .int .i64 (R 1).y0, .int .i64 (R 1).x1, .int .i64 (R 1).y1, .slice (s2 1) (D 1).length (m2 1)]] X.W fun e w' => e = .returned (.bool true) ∧ Below X.W.heap.size X.W w' := fun X => same5_eq (R 1).x0 (R 1).y0 (R 1).x1 (R 1).y1 (s1 1) (s2 1) (m1 1) (m2 1) (D 1) X.W (hD 1 (by decide)) (X.ok.h1 1 (by decide)) (X.ok.h2 1 (by decide))
          go_upto_region 8 with fail
          refine wp_region_in (fun X : Fam (Sp w w2.heap.size w4.heap.size A1 A2 s1 s2 D) => X.W) (by kernel_rfl) (by kernel_rfl) ⟨⟨_, hS.step (Below.refl _ _).drew⟩, rfl⟩ ?_
          repeat (first | go_big_quiet_step ((first | (go_at_call 23; exact call_in (cS _) (hst _)))) | quiet_step ((first | (go_at_call 23; exact call_in (cS _) (hst _)))))
          refine wpQuiet_nil ?_
          intro w9 hw'
          obtain ⟨⟨_, hS9⟩, hw''⟩ := hw'
          subst hw''
          clear cS p0 p1 p2 p3 p4 q0 q1 q2 q3 q4 hst hne
          have HS : Hid _ := hS9
          clear hS hS9
          go_wp2
          go_roundw
          case rel => exact ⟨2, by decide, (by first | rfl | go_num), HS.out⟩
          case measure => first | decide | (simp [intOf]; done) | (simp [intOf]; omega)
        · replace hi : _ = Value.int .i64 2 := hi; subst hi
          have p0 : ∀ X : Fam (Sp w w2.heap.size w4.heap.size A1 A2 s1 s2 D), X.W.cell? ⟨w2.heap.size, 10, none⟩ = some (.int .i64 (R 2).x0) := fun X => X.ok.b1.cell 10 _ (by rw [Hb1.out]; rfl)
          have p1 : ∀ X : Fam (Sp w w2.heap.size w4.heap.size A1 A2 s1 s2 D), X.W.cell? ⟨w2.heap.size, 11, none⟩ = some (.int .i64 (R 2).y0) := fun X => X.ok.b1.cell 11 _ (by rw [Hb1.out]; rfl)
          have p2 : ∀ X : Fam (Sp w w2.heap.size w4.heap.size A1 A2 s1 s2 D), X.W.cell? ⟨w2.heap.size, 12, none⟩ = some (.int .i64 (R 2).x1) := fun X => X.ok.b1.cell 12 _ (by rw [Hb1.out]; rfl)
          have p3 : ∀ X : Fam (Sp w w2.heap.size w4.heap.size A1 A2 s1 s2 D), X.W.cell? ⟨w2.heap.size, 13, none⟩ = some (.int .i64 (R 2).y1) := fun X => X.ok.b1.cell 13 _ (by rw [Hb1.out]; rfl)
          have p4 : ∀ X : Fam (Sp w w2.heap.size w4.heap.size A1 A2 s1 s2 D), X.W.cell? ⟨w2.heap.size, 14, none⟩ = some (.slice (s1 2) (D 2).length (m1 2)) := fun X => X.ok.b1.cell 14 _ (by rw [Hb1.out]; rfl)
          have q0 : ∀ X : Fam (Sp w w2.heap.size w4.heap.size A1 A2 s1 s2 D), X.W.cell? ⟨w4.heap.size, 10, none⟩ = some (.int .i64 (R 2).x0) := fun X => X.ok.b2.cell 10 _ (by rw [Hb2.out]; rfl)
          have q1 : ∀ X : Fam (Sp w w2.heap.size w4.heap.size A1 A2 s1 s2 D), X.W.cell? ⟨w4.heap.size, 11, none⟩ = some (.int .i64 (R 2).y0) := fun X => X.ok.b2.cell 11 _ (by rw [Hb2.out]; rfl)
          have q2 : ∀ X : Fam (Sp w w2.heap.size w4.heap.size A1 A2 s1 s2 D), X.W.cell? ⟨w4.heap.size, 12, none⟩ = some (.int .i64 (R 2).x1) := fun X => X.ok.b2.cell 12 _ (by rw [Hb2.out]; rfl)
          have q3 : ∀ X : Fam (Sp w w2.heap.size w4.heap.size A1 A2 s1 s2 D), X.W.cell? ⟨w4.heap.size, 13, none⟩ = some (.int .i64 (R 2).y1) := fun X => X.ok.b2.cell 13 _ (by rw [Hb2.out]; rfl)
          have q4 : ∀ X : Fam (Sp w w2.heap.size w4.heap.size A1 A2 s1 s2 D), X.W.cell? ⟨w4.heap.size, 14, none⟩ = some (.slice (s2 2) (D 2).length (m2 2)) := fun X => X.ok.b2.cell 14 _ (by rw [Hb2.out]; rfl)
          have cS : ∀ X : Fam (Sp w w2.heap.size w4.heap.size A1 A2 s1 s2 D), Calls Try.prog 23 #[.agg #[.int .i64 (R 2).x0, .int .i64 (R 2).y0, .int .i64 (R 2).x1, .int .i64 (R 2).y1, .slice (s1 2) (D 2).length (m1 2)], .agg #[.int .i64 (R 2).x0, .int .i64 (R 2).y0, .int .i64 (R 2).x1, .int .i64 (R 2).y1, .slice (s2 2) (D 2).length (m2 2)]] X.W fun e w' => e = .returned (.bool true) ∧ Below X.W.heap.size X.W w' := fun X => same5_eq (R 2).x0 (R 2).y0 (R 2).x1 (R 2).y1 (s1 2) (s2 2) (m1 2) (m2 2) (D 2) X.W (hD 2 (by decide)) (X.ok.h1 2 (by decide)) (X.ok.h2 2 (by decide))
          go_upto_region 8 with fail
          refine wp_region_in (fun X : Fam (Sp w w2.heap.size w4.heap.size A1 A2 s1 s2 D) => X.W) (by kernel_rfl) (by kernel_rfl) ⟨⟨_, hS.step (Below.refl _ _).drew⟩, rfl⟩ ?_
          repeat (first | go_big_quiet_step ((first | (go_at_call 23; exact call_in (cS _) (hst _)))) | quiet_step ((first | (go_at_call 23; exact call_in (cS _) (hst _)))))
          refine wpQuiet_nil ?_
          intro w9 hw'
          obtain ⟨⟨_, hS9⟩, hw''⟩ := hw'
          subst hw''
          clear cS p0 p1 p2 p3 p4 q0 q1 q2 q3 q4 hst hne
          have HS : Hid _ := hS9
          clear hS hS9
          go_wp2
          go_roundw
          case rel => exact ⟨3, by decide, (by first | rfl | go_num), HS.out⟩
          case measure => first | decide | (simp [intOf]; done) | (simp [intOf]; omega)
        · replace hi : _ = Value.int .i64 3 := hi; subst hi
          have p0 : ∀ X : Fam (Sp w w2.heap.size w4.heap.size A1 A2 s1 s2 D), X.W.cell? ⟨w2.heap.size, 15, none⟩ = some (.int .i64 (R 3).x0) := fun X => X.ok.b1.cell 15 _ (by rw [Hb1.out]; rfl)
          have p1 : ∀ X : Fam (Sp w w2.heap.size w4.heap.size A1 A2 s1 s2 D), X.W.cell? ⟨w2.heap.size, 16, none⟩ = some (.int .i64 (R 3).y0) := fun X => X.ok.b1.cell 16 _ (by rw [Hb1.out]; rfl)
          have p2 : ∀ X : Fam (Sp w w2.heap.size w4.heap.size A1 A2 s1 s2 D), X.W.cell? ⟨w2.heap.size, 17, none⟩ = some (.int .i64 (R 3).x1) := fun X => X.ok.b1.cell 17 _ (by rw [Hb1.out]; rfl)
          have p3 : ∀ X : Fam (Sp w w2.heap.size w4.heap.size A1 A2 s1 s2 D), X.W.cell? ⟨w2.heap.size, 18, none⟩ = some (.int .i64 (R 3).y1) := fun X => X.ok.b1.cell 18 _ (by rw [Hb1.out]; rfl)
          have p4 : ∀ X : Fam (Sp w w2.heap.size w4.heap.size A1 A2 s1 s2 D), X.W.cell? ⟨w2.heap.size, 19, none⟩ = some (.slice (s1 3) (D 3).length (m1 3)) := fun X => X.ok.b1.cell 19 _ (by rw [Hb1.out]; rfl)
          have q0 : ∀ X : Fam (Sp w w2.heap.size w4.heap.size A1 A2 s1 s2 D), X.W.cell? ⟨w4.heap.size, 15, none⟩ = some (.int .i64 (R 3).x0) := fun X => X.ok.b2.cell 15 _ (by rw [Hb2.out]; rfl)
          have q1 : ∀ X : Fam (Sp w w2.heap.size w4.heap.size A1 A2 s1 s2 D), X.W.cell? ⟨w4.heap.size, 16, none⟩ = some (.int .i64 (R 3).y0) := fun X => X.ok.b2.cell 16 _ (by rw [Hb2.out]; rfl)
          have q2 : ∀ X : Fam (Sp w w2.heap.size w4.heap.size A1 A2 s1 s2 D), X.W.cell? ⟨w4.heap.size, 17, none⟩ = some (.int .i64 (R 3).x1) := fun X => X.ok.b2.cell 17 _ (by rw [Hb2.out]; rfl)
          have q3 : ∀ X : Fam (Sp w w2.heap.size w4.heap.size A1 A2 s1 s2 D), X.W.cell? ⟨w4.heap.size, 18, none⟩ = some (.int .i64 (R 3).y1) := fun X => X.ok.b2.cell 18 _ (by rw [Hb2.out]; rfl)
          have q4 : ∀ X : Fam (Sp w w2.heap.size w4.heap.size A1 A2 s1 s2 D), X.W.cell? ⟨w4.heap.size, 19, none⟩ = some (.slice (s2 3) (D 3).length (m2 3)) := fun X => X.ok.b2.cell 19 _ (by rw [Hb2.out]; rfl)
          have cS : ∀ X : Fam (Sp w w2.heap.size w4.heap.size A1 A2 s1 s2 D), Calls Try.prog 23 #[.agg #[.int .i64 (R 3).x0, .int .i64 (R 3).y0, .int .i64 (R 3).x1, .int .i64 (R 3).y1, .slice (s1 3) (D 3).length (m1 3)], .agg #[.int .i64 (R 3).x0, .int .i64 (R 3).y0, .int .i64 (R 3).x1, .int .i64 (R 3).y1, .slice (s2 3) (D 3).length (m2 3)]] X.W fun e w' => e = .returned (.bool true) ∧ Below X.W.heap.size X.W w' := fun X => same5_eq (R 3).x0 (R 3).y0 (R 3).x1 (R 3).y1 (s1 3) (s2 3) (m1 3) (m2 3) (D 3) X.W (hD 3 (by decide)) (X.ok.h1 3 (by decide)) (X.ok.h2 3 (by decide))
          go_upto_region 8 with fail
          refine wp_region_in (fun X : Fam (Sp w w2.heap.size w4.heap.size A1 A2 s1 s2 D) => X.W) (by kernel_rfl) (by kernel_rfl) ⟨⟨_, hS.step (Below.refl _ _).drew⟩, rfl⟩ ?_
          repeat (first | go_big_quiet_step ((first | (go_at_call 23; exact call_in (cS _) (hst _)))) | quiet_step ((first | (go_at_call 23; exact call_in (cS _) (hst _)))))
          refine wpQuiet_nil ?_
          intro w9 hw'
          obtain ⟨⟨_, hS9⟩, hw''⟩ := hw'
          subst hw''
          clear cS p0 p1 p2 p3 p4 q0 q1 q2 q3 q4 hst hne
          have HS : Hid _ := hS9
          clear hS hS9
          go_wp2
          go_roundw
          case rel => exact ⟨4, by decide, (by first | rfl | go_num), HS.out⟩
          case measure => first | decide | (simp [intOf]; done) | (simp [intOf]; omega)
      · obtain rfl : j = 4 := by omega
        replace hi : _ = Value.int .i64 4 := hi; subst hi
        have HB : Hid _ := hS.below
        clear hS
        go_wp2_with (first | (go_at_call 19; (with_reducible refine (awake_c _).mono ?_); rintro e w9 ⟨rfl, hb9⟩))
        go_ret
        exact ⟨rfl, below_call HB.out hb9⟩
  · have gf : decide (l.length ≤ 4000) = false := decide_eq_false hfw
    rw [gf]
    go_wp2_with (first | (go_at_call 19; (with_reducible refine (awake_c _).mono ?_); rintro e w9 ⟨rfl, hb9⟩))
    go_ret
    exact ⟨rfl, below_call B0 hb9⟩

set_option maxRecDepth 100000 in
theorem lifted (os : Os) (started : os.Started) (H : Type) (enc : TypeId × Value → H) :
    ReturnsInHanded {} Try.checked os 4 .any (Rows.dwtSplitsSpec.pre6 enc Try.prog Try.f4 Rows.dwtSplitsRow.domain false) (Rows.dwtSplitsSpec.post enc Try.prog Try.f4 false true false false) := by
  refine returnsInHanded_of_change (C := Try.checked) own started (by kernel_rfl) Try.func4
    (ChangeSpec.witness6 (enc := enc) (C := Try.checked) false ⟨#[], #[.agg #[.int .i64 0, .int .i64 0, .int .i64 0, .int .i64 0, .slice none 0 0], .int .i64 0], []⟩ 8 (by kernel_rfl) (by kernel_rfl) (by kernel_rfl) (by kernel_rfl)) ?_
  intro W base args ds gs before hval0 hW _ _
  have hval : ∀ (j : Nat) t v, Try.f4.params[j]? = some t → args[j]? = some v → Value.okWide Try.prog W .any base t v := hval0
  have hW' := hW
  obtain ⟨p, q, hA0, hV, rfl, _, _⟩ := hW
  have hA : DataW.TrodAll enc Try.prog W 0 (fun _ => true) true Try.f4.params.toList args.toList ds p := hA0
  rw [Try.params4] at hA hval
  obtain ⟨v0, vs0, d0, ds0, p0, q0, hargs, rfl, rfl, h0, r0⟩ := trodAll_cons hA
  obtain ⟨v1, vs1, d1, ds1, p1, q1, rfl, rfl, rfl, h1, r1⟩ := trodAll_cons r0
  obtain ⟨rfl, rfl, rfl⟩ := trodAll_nil r1
  obtain rfl : args = #[v0, v1] := by cases args; simp_all
  obtain ⟨rfl, rfl⟩ := trodVars_none hV
  clear hA0 hval0
  simp only [List.append_nil] at hW'
  have l0 : ∀ x ∈ p0, x.block < W.heap.size := fun x hx => hW'.lt x (by simp [hx])
  have l1 : ∀ x ∈ p1, x.block < W.heap.size := fun x hx => hW'.lt x (by simp [hx])
  obtain ⟨a, b, c, d, s, l, m, rfl, hH0, hm0, hx0, hn0⟩ := open_plane (hval 0 30 v0 rfl rfl) h0
  obtain ⟨kn, rfl, _, _, w1⟩ := open_int Try.underlying31 (hval 1 31 v1 rfl rfl) h1
  refine (walk a b c d kn s l m W hm0 hn0 hH0).mono fun e W' ⟨he, hb⟩ => ?_
  subst he
  exact ⟨_, rfl, post_low (pa := p0 ++ (p1 ++ ([]))) (pv := []) hW' (fun _ _ _ => (trodAll_cons_mk (shut_bool Try.underlying4 _) trodAll_mk0)) (fun sp hsp => (trodAll_cons_mk (trod_low laidOut (by kernel_rfl) (of_decide_eq_true (by kernel_rfl)) h0 hb l0 (fun x hx => hsp x (by simp [hx]))) (trodAll_cons_mk (trod_low laidOut (by kernel_rfl) (of_decide_eq_true (by kernel_rfl)) h1 hb l1 (fun x hx => hsp x (by simp [hx]))) trodAll_mk0))) (fun _ _ => rfl) (by simp) hb (ok_one (by kernel_rfl) rfl (okWide_bool_mk Try.underlying4 _))⟩

theorem over : Rows.dwtSplitsRow.holds Try.pinned (OpenSpec.ofChange Rows.dwtSplitsSpec) :=
  OpenClaim.holds_of_wide 4 Try.f4 rfl rfl rfl rfl rfl rfl rfl ⟨rfl, rfl, rfl, rfl, rfl⟩ rfl rfl rfl rfl rfl (by kernel_rfl) Try.func4 (by kernel_rfl)
    (of_decide_eq_true (by kernel_rfl)) (by unfold Func.isWrapper; first | (rw [if_pos (by decide +kernel)]; kernel_rfl) | (rw [if_neg (by decide +kernel)]; exact ⟨rfl, rfl⟩))
    (fun os started H enc _ => lifted os started H enc)

theorem proved : Rows.DwtSplitsSaid :=
  over
#print axioms proved
end Go.Proofs.Ytnfnidgabgdphaa.dwtSplits
