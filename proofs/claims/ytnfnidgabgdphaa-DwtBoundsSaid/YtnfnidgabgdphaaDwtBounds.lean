/-
  For all planes p and kernels k the statement DwtBounds returns true, and its arguments read afterwards as before.
  Conditions: none beyond those of the given statement.
-/
import Derived.Test.YtnfnidgabgdphaaFrame
import Derived.Test.YtnfnidgabgdphaaOpenP
import Derived.Test.YtnfnidgabgdphaaAwk
import Derived.Test.YtnfnidgabgdphaaLawB5
import Derived.Test.YtnfnidgabgdphaaLawB6
set_option maxRecDepth 100000
namespace Go.Proofs.Ytnfnidgabgdphaa.dwtBounds
open Go.ChangeShapes Go.WideShapes Go.ChangeAt Go.RowKit Go.Joins Go.Deep

structure Bo (w : World) (B1 : Nat) (A1 : Array Value) (s1 : Nat → Option Addr) (D : Nat → List Int) (s : Option Addr) (l : List Int) (W : World) : Prop where
  below : Below w.heap.size w W
  b1 : Blk W B1 33 A1
  h1 : ∀ o, o < 4 → HoldsI W (s1 o) (D o)
  hl : HoldsI W s l
theorem Bo.step {w W W1 : World} {B1 : Nat} {A1 : Array Value} {s1 : Nat → Option Addr} {D : Nat → List Int} {s : Option Addr} {l : List Int} (h : Bo w B1 A1 s1 D s l W) (hb : Below W.heap.size W W1) : Bo w B1 A1 s1 D s l W1 :=
  ⟨below_call h.below hb, h.b1.below hb, fun o ho => (h.h1 o ho).call hb, h.hl.call hb⟩
theorem bd_up {kn b c : Int} (hk : kn = 1 ∨ kn = 2 ∨ kn = 3) (hb : 0 ≤ b) (hc : b ≤ c) : 0 ≤ Ex.lbI b kn ∧ Ex.lbI b kn ≤ 4 * c + 4 ∧ 0 ≤ Ex.hbI b kn ∧ Ex.hbI b kn ≤ 4 * c + 4 := by
  unfold Ex.lbI Ex.hbI
  rcases hk with rfl | rfl | rfl
  · simp only [Int.reduceEq, ↓reduceIte]; omega
  · simp only [Int.reduceEq, ↓reduceIte]; omega
  · simp only [Int.reduceEq, ↓reduceIte]; omega
set_option maxRecDepth 100000 in
set_option maxHeartbeats 8000000 in
theorem walk (a b c d kn : Int) (s : Option Addr) (l : List Int) (m : Nat) (w : World) (hm : l.length ≤ m) (hH : HoldsI w s l) : Calls Try.prog 9 #[.agg #[.int .i64 a, .int .i64 b, .int .i64 c, .int .i64 d, .slice s l.length m], .int .i64 kn] w fun e w' => e = .returned (.bool true) ∧ Below w.heap.size w w' := by
  have x0 := QBox.fresh w a b c d s l.length m 30
  have B0 := below_alloc (Below.refl _ w) (.cells #[.int .i64 a, .int .i64 b, .int .i64 c, .int .i64 d, .slice s l.length m] 30)
  go_enter Try.func9, Try.ntmps9
  go_wp2_with fail
  refine (few5_c ⟨a, b, c, d⟩ s l.length m _).mono ?_
  rintro e w1 ⟨rfl, hb⟩
  replace x0 := x0.below hb
  replace B0 := below_call B0 hb
  have H1 := hH.below B0 (Nat.le_refl _)
  clear hb hH
  by_cases hfw : l.length ≤ 4000
  · have gf : decide (l.length ≤ 4000) = true := decide_eq_true hfw
    have hl : l.length ≤ 140737488351232 := Nat.le_trans hfw (by decide)
    rw [gf]
    have HFW : Hid _ := hfw
    clear gf hfw
    obtain ⟨y0, y1, y2, y3, y4⟩ := x0.open
    rcases splitc_cases a b c d kn l s m hm hl with ⟨E, hE, cS⟩ | ⟨n, h, hp, hk, hf, hn, hh, cS⟩
    · have e1 : (E == 0) = false := by rw [beq_eq_false_iff_ne]; omega
      have e2 : (E != 0) = true := by rw [bne_iff_ne]; omega
      have e3 : decide (E = 0) = false := by rw [decide_eq_false_iff_not]; omega
      clear hE
      go_wp2_with fail
      refine (cS _ H1).mono ?_
      clear cS
      rintro e w2 ⟨s1, m1, rfl, hh1, hb⟩
      replace B0 := below_call B0 hb
      obtain ⟨A1, hA1⟩ : ∃ A1, A1 = arrP (fun _ => zR) (fun o => .slice (s1 o) ([] : List Int).length (m1 o)) := ⟨_, rfl⟩
      rw [← hA1]
      have H20 : Hid (20 = A1.size) := by rw [hA1]; rfl
      have HI : Hid ((Try.prog.info? 33).map (·.size) = some A1.size) := by rw [hA1]; exact info20
      have hAo : A1.all (·.oneCell') = true := by rw [hA1]; simp [arrP_get, Value.oneCell']
      clear hA1 hb y0 y1 y2 y3 y4 H1 hh1
      go_upto_region 4 with (first | (refine wpList_store_row rfl 33 (.tmp 5) (.tmp 20) rfl w2.heap.size A1 rfl rfl 33 _ (Blk.fresh w2 33 #[.int .i64 0, .int .i64 0, .int .i64 0, .int .i64 0, .slice none 0 0, .int .i64 0, .int .i64 0, .int .i64 0, .int .i64 0, .slice none 0 0, .int .i64 0, .int .i64 0, .int .i64 0, .int .i64 0, .slice none 0 0, .int .i64 0, .int .i64 0, .int .i64 0, .int .i64 0, .slice none 0 0]) HI.out H20.out hAo ?_))
      obtain ⟨W3, hW3⟩ : ∃ W3, W3 = (w2.alloc (.cells #[.int .i64 0, .int .i64 0, .int .i64 0, .int .i64 0, .slice none 0 0, .int .i64 0, .int .i64 0, .int .i64 0, .int .i64 0, .slice none 0 0, .int .i64 0, .int .i64 0, .int .i64 0, .int .i64 0, .slice none 0 0, .int .i64 0, .int .i64 0, .int .i64 0, .int .i64 0, .slice none 0 0] 33)).setRow w2.heap.size A1 := ⟨_, rfl⟩
      have B3 : Below w.heap.size w W3 := by rw [hW3]; exact below_row (below_alloc B0 _) B0.size _
      rw [← hW3]
      clear hW3 B0 hAo x0
      go_wp2_with (first | (go_at_call 19; (with_reducible refine (awake_c _).mono ?_); rintro e w9 ⟨rfl, hb9⟩))
      go_ret
      exact ⟨rfl, below_call B3 hb9⟩
    · have hkk := k_iff.1 hk
      have hwl := few_iff.1 hf
      obtain ⟨n', h', f1, f2, n4, h4, hlen, _, _, _, _, _, _, _, _, _⟩ := pv_facts hp
      obtain rfl : n' = n := by omega
      obtain rfl : h' = h := by omega
      have hDl : ∀ o, o < 4 → (bandQ a b kn n' (Ex.cutR n' l h') o).flatten.length ≤ 140737488351232 := fun o ho => by
        rw [band_len (a := a) (b := b) (kn := kn) (Ex.cutR_wide hlen) (Ex.cutR_len _ _ _) o ho]
        have q1 : htO b h' o ≤ h' := by unfold htO; split <;> first | exact Ex.cnt_le.2 | exact Ex.cnt_le.1
        have q2 : wdO a n' o ≤ n' := by unfold wdO; split <;> first | exact Ex.cnt_le.2 | exact Ex.cnt_le.1
        exact Nat.le_trans (Nat.mul_le_mul q1 q2) (by rw [← hlen]; exact hl)
      have HW : Hid (∀ u, 0 ≤ u → Ex.within u l → ∀ o, o < 4 → Ex.within (bdO u kn o) (bandQ a b kn n' (Ex.cutR n' l h') o).flatten) := fun u hu hw o ho => band_bd hk hu (by rw [Ex.cutR_flat hlen]; exact hw) o ho
      obtain ⟨D, hD⟩ : ∃ D : Nat → List Int, D = fun o => (bandQ a b kn n' (Ex.cutR n' l h') o).flatten := ⟨_, rfl⟩
      have hD' : ∀ o, (bandQ a b kn n' (Ex.cutR n' l h') o).flatten = D o := fun o => by rw [hD]
      obtain ⟨R, hR⟩ : ∃ R, R = bnds ⟨a, b, c, d⟩ := ⟨_, rfl⟩
      simp only [hD'] at cS hDl HW
      rw [← hR] at cS
      have HKK : Hid _ := hkk
      have HK : Hid _ := hk
      clear hD hD' hp hf hn hh f1 f2 n4 h4 hlen hR hkk hk
      go_wp2_with fail
      refine (cS _ H1).mono ?_
      clear cS
      rintro e w2 ⟨s1, m1, rfl, hh1, hb⟩
      replace x0 := x0.below hb
      replace B0 := below_call B0 hb
      replace H1 := H1.call hb
      obtain ⟨A1, hA1⟩ : ∃ A1, A1 = arrP R (fun o => .slice (s1 o) (D o).length (m1 o)) := ⟨_, rfl⟩
      rw [← hA1]
      have HA1 : Hid _ := hA1
      have H20 : Hid (20 = A1.size) := by rw [hA1]; rfl
      have HI : Hid ((Try.prog.info? 33).map (·.size) = some A1.size) := by rw [hA1]; exact info20
      have hAo : A1.all (·.oneCell') = true := by rw [hA1]; simp [arrP_get, Value.oneCell']
      clear hA1 hb y0 y1 y2 y3 y4
      go_upto_region 4 with (first | (refine wpList_store_row rfl 33 (.tmp 5) (.tmp 20) rfl w2.heap.size A1 rfl rfl 33 _ (Blk.fresh w2 33 #[.int .i64 0, .int .i64 0, .int .i64 0, .int .i64 0, .slice none 0 0, .int .i64 0, .int .i64 0, .int .i64 0, .int .i64 0, .slice none 0 0, .int .i64 0, .int .i64 0, .int .i64 0, .int .i64 0, .slice none 0 0, .int .i64 0, .int .i64 0, .int .i64 0, .int .i64 0, .slice none 0 0]) HI.out H20.out hAo ?_))
      obtain ⟨W3, hW3⟩ : ∃ W3, W3 = (w2.alloc (.cells #[.int .i64 0, .int .i64 0, .int .i64 0, .int .i64 0, .slice none 0 0, .int .i64 0, .int .i64 0, .int .i64 0, .int .i64 0, .slice none 0 0, .int .i64 0, .int .i64 0, .int .i64 0, .int .i64 0, .slice none 0 0, .int .i64 0, .int .i64 0, .int .i64 0, .int .i64 0, .slice none 0 0] 33)).setRow w2.heap.size A1 := ⟨_, rfl⟩
      have x3 : QBox W3 w.heap.size ⟨a, b, c, d⟩ (.slice s l.length m) := by rw [hW3]; exact (x0.alloc _).but (But.setRow _) (Nat.ne_of_lt x0.lt)
      have S3 : Bo w w2.heap.size A1 s1 D s l W3 := by
        rw [hW3]
        exact ⟨below_row (below_alloc B0 _) B0.size _, (Blk.fresh w2 33 #[.int .i64 0, .int .i64 0, .int .i64 0, .int .i64 0, .slice none 0 0, .int .i64 0, .int .i64 0, .int .i64 0, .int .i64 0, .slice none 0 0, .int .i64 0, .int .i64 0, .int .i64 0, .int .i64 0, .slice none 0 0, .int .i64 0, .int .i64 0, .int .i64 0, .int .i64 0, .slice none 0 0]).row A1, fun o ho => holds_rowed (hh1 o ho).1 _ _, holds_rowed H1 _ _⟩
      rw [← hW3]
      clear hW3 B0 hAo x0 H1 hh1 H20 HI
      obtain ⟨y0, y1, y2, y3, y4⟩ := x3.open
      go_upto_region 8 with fail
      clear y0 y1 y2 y3 y4 x3
      go_loopw [7, 28] (fun u i wr => ∃ (j : Nat) (bd : Int), j ≤ l.length ∧ i = .int .i64 j ∧ u = .int .i64 bd ∧ 0 ≤ bd ∧ bd ≤ 35184372088832 ∧ (∀ x (hx : x < l.length), x < j → -bd ≤ l[x] ∧ l[x] ≤ bd) ∧ Bo w w2.heap.size A1 s1 D s l wr) (fun _ i _ => l.length - (intOf i).toNat)
      case atStart => exact ⟨0, 0, Nat.zero_le _, rfl, rfl, by decide, by decide, fun _ _ q => absurd q (Nat.not_lt_zero _), S3⟩
      case round =>
        obtain ⟨j, bd, hj, rfl, rfl, u0, u1, hall, hS⟩ := hrel
        clear S3
        by_cases hlt : j < l.length
        · have h2 := hS.hl
          rcases h2 with rfl | ⟨bb, off, rfl, hr⟩
          · simp at hlt
          have z0 := hr j hlt
          have hki : (j : Int) < (l.length : Int) := by omega
          have hV := hwl _ (List.getElem_mem hlt)
          have HV : Hid (∀ x (hx : x < l.length), x < j + 1 → -(max bd (max l[j] (-l[j]))) ≤ l[x] ∧ l[x] ≤ max bd (max l[j] (-l[j]))) := fun x hx hxj => by
            by_cases e : x = j
            · subst e; omega
            · have := hall x hx (by omega); omega
          have HS : Hid _ := hS
          clear hall hr hS hwl
          generalize l[j] = V at *
          have w1 : IntKind.i64.wrap (-V) = -V := IntWalk.i64_in _ (by omega)
          have w2' : IntKind.i64.wrap ((j : Int) + 1) = (j : Int) + 1 := IntWalk.i64_in _ (by omega)
          have hmx := fun (x y : Int) => (show (if x < y then y else x) = max x y by split <;> omega)
          have HN : Hid (0 ≤ max bd (max V (-V)) ∧ max bd (max V (-V)) ≤ 35184372088832) := by constructor <;> omega
          clear hV
          go_wp2
          go_roundw
          case rel => exact ⟨j + 1, _, by omega, by go_num, rfl, HN.out.1, HN.out.2, HV.out, HS.out⟩
          case measure => simp [intOf]; omega
        · obtain rfl : j = l.length := by omega
          have HX := HW.out bd u0 fun v hv => by
            obtain ⟨x, hx, rfl⟩ := List.getElem_of_mem hv
            exact hall x hx hx
          have hkk := HKK.out
          obtain ⟨p1, p2, p3, p4⟩ := bd_up hkk u0 u1
          obtain ⟨p5, p6, p7, p8⟩ := bd_up hkk p1 p2
          obtain ⟨p9, p10, p11, p12⟩ := bd_up hkk p3 p4
          have cl0 := fun W => lb_q bd kn W
          have ch0 := fun W => hb_q bd kn W
          have cl1 := fun W => lb_q (Ex.lbI bd kn) kn W
          have ch1 := fun W => hb_q (Ex.lbI bd kn) kn W
          have cl2 := fun W => lb_q (Ex.hbI bd kn) kn W
          have ch2 := fun W => hb_q (Ex.hbI bd kn) kn W
          rw [show lbV bd kn = Ex.lbI bd kn from if_pos ⟨u0, by omega, HK.out⟩] at cl0
          rw [show hbV bd kn = Ex.hbI bd kn from if_pos ⟨u0, by omega, HK.out⟩] at ch0
          rw [show lbV (Ex.lbI bd kn) kn = Ex.lbI (Ex.lbI bd kn) kn from if_pos ⟨p1, by omega, HK.out⟩] at cl1
          rw [show hbV (Ex.lbI bd kn) kn = Ex.hbI (Ex.lbI bd kn) kn from if_pos ⟨p1, by omega, HK.out⟩] at ch1
          rw [show lbV (Ex.hbI bd kn) kn = Ex.lbI (Ex.hbI bd kn) kn from if_pos ⟨p3, by omega, HK.out⟩] at cl2
          rw [show hbV (Ex.hbI bd kn) kn = Ex.hbI (Ex.hbI bd kn) kn from if_pos ⟨p3, by omega, HK.out⟩] at ch2
          have HX0 : Hid (0 ≤ Ex.lbI (Ex.lbI bd kn) kn ∧ Ex.lbI (Ex.lbI bd kn) kn ≤ 4611686018427387904 ∧ Ex.within (Ex.lbI (Ex.lbI bd kn) kn) (D 0)) := ⟨p5, by omega, HX 0 (by decide)⟩
          have HX1 : Hid (0 ≤ Ex.lbI (Ex.hbI bd kn) kn ∧ Ex.lbI (Ex.hbI bd kn) kn ≤ 4611686018427387904 ∧ Ex.within (Ex.lbI (Ex.hbI bd kn) kn) (D 1)) := ⟨p9, by omega, HX 1 (by decide)⟩
          have HX2 : Hid (0 ≤ Ex.hbI (Ex.lbI bd kn) kn ∧ Ex.hbI (Ex.lbI bd kn) kn ≤ 4611686018427387904 ∧ Ex.within (Ex.hbI (Ex.lbI bd kn) kn) (D 2)) := ⟨p7, by omega, HX 2 (by decide)⟩
          have HX3 : Hid (0 ≤ Ex.hbI (Ex.hbI bd kn) kn ∧ Ex.hbI (Ex.hbI bd kn) kn ≤ 4611686018427387904 ∧ Ex.within (Ex.hbI (Ex.hbI bd kn) kn) (D 3)) := ⟨p11, by omega, HX 3 (by decide)⟩
          clear p1 p2 p3 p4 p5 p6 p7 p8 p9 p10 p11 p12 HX hall hwl hkk u0 u1 hj hlt
          generalize Ex.lbI (Ex.lbI bd kn) kn = X0 at *
          generalize Ex.lbI (Ex.hbI bd kn) kn = X1 at *
          generalize Ex.hbI (Ex.lbI bd kn) kn = X2 at *
          generalize Ex.hbI (Ex.hbI bd kn) kn = X3 at *
          generalize Ex.lbI bd kn = LB at *
          generalize Ex.hbI bd kn = HB at *
          go_wp2_with fail
          refine (cl0 _).mono ?_
          rintro e w6 ⟨rfl, rfl⟩
          go_wp2_with fail
          refine (ch0 _).mono ?_
          rintro e w6 ⟨rfl, rfl⟩
          go_upto_region 13 with fail
          clear cl0 ch0
          have dl1 : ∀ W, Calls Try.prog 32 #[.int .i64 LB, .int .i64 kn] W fun e w' => e = .returned (.int .i64 X0) ∧ Below W.heap.size W w' := fun W => (cl1 W).mono fun _ _ q => ⟨q.1, q.2 ▸ Below.refl _ _⟩
          have dl2 : ∀ W, Calls Try.prog 32 #[.int .i64 HB, .int .i64 kn] W fun e w' => e = .returned (.int .i64 X1) ∧ Below W.heap.size W w' := fun W => (cl2 W).mono fun _ _ q => ⟨q.1, q.2 ▸ Below.refl _ _⟩
          have dh1 : ∀ W, Calls Try.prog 33 #[.int .i64 LB, .int .i64 kn] W fun e w' => e = .returned (.int .i64 X2) ∧ Below W.heap.size W w' := fun W => (ch1 W).mono fun _ _ q => ⟨q.1, q.2 ▸ Below.refl _ _⟩
          have dh2 : ∀ W, Calls Try.prog 33 #[.int .i64 HB, .int .i64 kn] W fun e w' => e = .returned (.int .i64 X3) ∧ Below W.heap.size W w' := fun W => (ch2 W).mono fun _ _ q => ⟨q.1, q.2 ▸ Below.refl _ _⟩
          clear cl1 cl2 ch1 ch2
          have cw0 : ∀ X : Fam (Bo w w2.heap.size A1 s1 D s l), Calls Try.prog 34 #[.agg #[.int .i64 (R 0).x0, .int .i64 (R 0).y0, .int .i64 (R 0).x1, .int .i64 (R 0).y1, .slice (s1 0) (D 0).length (m1 0)], .int .i64 X0] X.W fun e w' => e = .returned (.bool true) ∧ Below X.W.heap.size X.W w' := fun X => wth5_c (R 0).x0 (R 0).y0 (R 0).x1 (R 0).y1 (s1 0) (D 0).length (m1 0) (D 0) X0 X.W rfl (hDl 0 (by decide)) HX0.out.1 HX0.out.2.1 HX0.out.2.2 (X.ok.h1 0 (by decide))
          have cw1 : ∀ X : Fam (Bo w w2.heap.size A1 s1 D s l), Calls Try.prog 34 #[.agg #[.int .i64 (R 1).x0, .int .i64 (R 1).y0, .int .i64 (R 1).x1, .int .i64 (R 1).y1, .slice (s1 1) (D 1).length (m1 1)], .int .i64 X1] X.W fun e w' => e = .returned (.bool true) ∧ Below X.W.heap.size X.W w' := fun X => wth5_c (R 1).x0 (R 1).y0 (R 1).x1 (R 1).y1 (s1 1) (D 1).length (m1 1) (D 1) X1 X.W rfl (hDl 1 (by decide)) HX1.out.1 HX1.out.2.1 HX1.out.2.2 (X.ok.h1 1 (by decide))
          have cw2 : ∀ X : Fam (Bo w w2.heap.size A1 s1 D s l), Calls Try.prog 34 #[.agg #[.int .i64 (R 2).x0, .int .i64 (R 2).y0, .int .i64 (R 2).x1, .int .i64 (R 2).y1, .slice (s1 2) (D 2).length (m1 2)], .int .i64 X2] X.W fun e w' => e = .returned (.bool true) ∧ Below X.W.heap.size X.W w' := fun X => wth5_c (R 2).x0 (R 2).y0 (R 2).x1 (R 2).y1 (s1 2) (D 2).length (m1 2) (D 2) X2 X.W rfl (hDl 2 (by decide)) HX2.out.1 HX2.out.2.1 HX2.out.2.2 (X.ok.h1 2 (by decide))
          have cw3 : ∀ X : Fam (Bo w w2.heap.size A1 s1 D s l), Calls Try.prog 34 #[.agg #[.int .i64 (R 3).x0, .int .i64 (R 3).y0, .int .i64 (R 3).x1, .int .i64 (R 3).y1, .slice (s1 3) (D 3).length (m1 3)], .int .i64 X3] X.W fun e w' => e = .returned (.bool true) ∧ Below X.W.heap.size X.W w' := fun X => wth5_c (R 3).x0 (R 3).y0 (R 3).x1 (R 3).y1 (s1 3) (D 3).length (m1 3) (D 3) X3 X.W rfl (hDl 3 (by decide)) HX3.out.1 HX3.out.2.1 HX3.out.2.2 (X.ok.h1 3 (by decide))
          have hst := Fam.next (I := Bo w w2.heap.size A1 s1 D s l) (fun _ _ p q => p.step q)
          have hne : Nonempty (Fam (Bo w w2.heap.size A1 s1 D s l)) := ⟨⟨_, hS⟩⟩
          clear HX0 HX1 HX2 HX3
          have q0 : ∀ X : Fam (Bo w w2.heap.size A1 s1 D s l), X.W.cell? ⟨w2.heap.size, 0, none⟩ = some (.int .i64 (R 0).x0) := fun X => X.ok.b1.cell 0 _ (by rw [HA1.out]; rfl)
          have q1 : ∀ X : Fam (Bo w w2.heap.size A1 s1 D s l), X.W.cell? ⟨w2.heap.size, 1, none⟩ = some (.int .i64 (R 0).y0) := fun X => X.ok.b1.cell 1 _ (by rw [HA1.out]; rfl)
          have q2 : ∀ X : Fam (Bo w w2.heap.size A1 s1 D s l), X.W.cell? ⟨w2.heap.size, 2, none⟩ = some (.int .i64 (R 0).x1) := fun X => X.ok.b1.cell 2 _ (by rw [HA1.out]; rfl)
          have q3 : ∀ X : Fam (Bo w w2.heap.size A1 s1 D s l), X.W.cell? ⟨w2.heap.size, 3, none⟩ = some (.int .i64 (R 0).y1) := fun X => X.ok.b1.cell 3 _ (by rw [HA1.out]; rfl)
          have q4 : ∀ X : Fam (Bo w w2.heap.size A1 s1 D s l), X.W.cell? ⟨w2.heap.size, 4, none⟩ = some (.slice (s1 0) (D 0).length (m1 0)) := fun X => X.ok.b1.cell 4 _ (by rw [HA1.out]; rfl)
          have t0 : ∀ X : Fam (Bo w w2.heap.size A1 s1 D s l), X.W.cell? ⟨w2.heap.size, 5, none⟩ = some (.int .i64 (R 1).x0) := fun X => X.ok.b1.cell 5 _ (by rw [HA1.out]; rfl)
          have t1 : ∀ X : Fam (Bo w w2.heap.size A1 s1 D s l), X.W.cell? ⟨w2.heap.size, 6, none⟩ = some (.int .i64 (R 1).y0) := fun X => X.ok.b1.cell 6 _ (by rw [HA1.out]; rfl)
          have t2 : ∀ X : Fam (Bo w w2.heap.size A1 s1 D s l), X.W.cell? ⟨w2.heap.size, 7, none⟩ = some (.int .i64 (R 1).x1) := fun X => X.ok.b1.cell 7 _ (by rw [HA1.out]; rfl)
          have t3 : ∀ X : Fam (Bo w w2.heap.size A1 s1 D s l), X.W.cell? ⟨w2.heap.size, 8, none⟩ = some (.int .i64 (R 1).y1) := fun X => X.ok.b1.cell 8 _ (by rw [HA1.out]; rfl)
          have t4 : ∀ X : Fam (Bo w w2.heap.size A1 s1 D s l), X.W.cell? ⟨w2.heap.size, 9, none⟩ = some (.slice (s1 1) (D 1).length (m1 1)) := fun X => X.ok.b1.cell 9 _ (by rw [HA1.out]; rfl)
          refine wp_region_in (fun X : Fam (Bo w w2.heap.size A1 s1 D s l) => X.W) (by kernel_rfl) (by kernel_rfl) ⟨⟨_, hS.step (Below.refl _ _).drew⟩, rfl⟩ ?_
          repeat (first | go_big_quiet_step ((first | (go_at_call 32; first | (with_reducible exact call_in (dl1 _) (hst _)) | ((with_reducible show Calls _ _ #[.int .i64 LB, _] _ _); exact call_in (dl1 _) (hst _)) | (with_reducible exact call_in (dl2 _) (hst _)) | ((with_reducible show Calls _ _ #[.int .i64 HB, _] _ _); exact call_in (dl2 _) (hst _))) | (go_at_call 34; first | (with_reducible exact call_in (cw0 _) (hst _)) | ((with_reducible show Calls _ _ #[_, .int .i64 X0] _ _); exact call_in (cw0 _) (hst _)) | (with_reducible exact call_in (cw1 _) (hst _)) | ((with_reducible show Calls _ _ #[_, .int .i64 X1] _ _); exact call_in (cw1 _) (hst _))) | (go_at_call 19; exact call_in (awake_c _) (hst _)))) | quiet_step ((first | (go_at_call 32; first | (with_reducible exact call_in (dl1 _) (hst _)) | ((with_reducible show Calls _ _ #[.int .i64 LB, _] _ _); exact call_in (dl1 _) (hst _)) | (with_reducible exact call_in (dl2 _) (hst _)) | ((with_reducible show Calls _ _ #[.int .i64 HB, _] _ _); exact call_in (dl2 _) (hst _))) | (go_at_call 34; first | (with_reducible exact call_in (cw0 _) (hst _)) | ((with_reducible show Calls _ _ #[_, .int .i64 X0] _ _); exact call_in (cw0 _) (hst _)) | (with_reducible exact call_in (cw1 _) (hst _)) | ((with_reducible show Calls _ _ #[_, .int .i64 X1] _ _); exact call_in (cw1 _) (hst _))) | (go_at_call 19; exact call_in (awake_c _) (hst _)))))
          refine wpQuiet_nil ?_
          intro w9 hw'
          obtain ⟨⟨_, hS9⟩, hw''⟩ := hw'
          subst hw''
          clear q0 q1 q2 q3 q4 t0 t1 t2 t3 t4 hS
          have hS := hS9
          clear hS9
          go_upto_region 15 with fail
          have q0 : ∀ X : Fam (Bo w w2.heap.size A1 s1 D s l), X.W.cell? ⟨w2.heap.size, 10, none⟩ = some (.int .i64 (R 2).x0) := fun X => X.ok.b1.cell 10 _ (by rw [HA1.out]; rfl)
          have q1 : ∀ X : Fam (Bo w w2.heap.size A1 s1 D s l), X.W.cell? ⟨w2.heap.size, 11, none⟩ = some (.int .i64 (R 2).y0) := fun X => X.ok.b1.cell 11 _ (by rw [HA1.out]; rfl)
          have q2 : ∀ X : Fam (Bo w w2.heap.size A1 s1 D s l), X.W.cell? ⟨w2.heap.size, 12, none⟩ = some (.int .i64 (R 2).x1) := fun X => X.ok.b1.cell 12 _ (by rw [HA1.out]; rfl)
          have q3 : ∀ X : Fam (Bo w w2.heap.size A1 s1 D s l), X.W.cell? ⟨w2.heap.size, 13, none⟩ = some (.int .i64 (R 2).y1) := fun X => X.ok.b1.cell 13 _ (by rw [HA1.out]; rfl)
          have q4 : ∀ X : Fam (Bo w w2.heap.size A1 s1 D s l), X.W.cell? ⟨w2.heap.size, 14, none⟩ = some (.slice (s1 2) (D 2).length (m1 2)) := fun X => X.ok.b1.cell 14 _ (by rw [HA1.out]; rfl)
          have t0 : ∀ X : Fam (Bo w w2.heap.size A1 s1 D s l), X.W.cell? ⟨w2.heap.size, 15, none⟩ = some (.int .i64 (R 3).x0) := fun X => X.ok.b1.cell 15 _ (by rw [HA1.out]; rfl)
          have t1 : ∀ X : Fam (Bo w w2.heap.size A1 s1 D s l), X.W.cell? ⟨w2.heap.size, 16, none⟩ = some (.int .i64 (R 3).y0) := fun X => X.ok.b1.cell 16 _ (by rw [HA1.out]; rfl)
          have t2 : ∀ X : Fam (Bo w w2.heap.size A1 s1 D s l), X.W.cell? ⟨w2.heap.size, 17, none⟩ = some (.int .i64 (R 3).x1) := fun X => X.ok.b1.cell 17 _ (by rw [HA1.out]; rfl)
          have t3 : ∀ X : Fam (Bo w w2.heap.size A1 s1 D s l), X.W.cell? ⟨w2.heap.size, 18, none⟩ = some (.int .i64 (R 3).y1) := fun X => X.ok.b1.cell 18 _ (by rw [HA1.out]; rfl)
          have t4 : ∀ X : Fam (Bo w w2.heap.size A1 s1 D s l), X.W.cell? ⟨w2.heap.size, 19, none⟩ = some (.slice (s1 3) (D 3).length (m1 3)) := fun X => X.ok.b1.cell 19 _ (by rw [HA1.out]; rfl)
          refine wp_region_in (fun X : Fam (Bo w w2.heap.size A1 s1 D s l) => X.W) (by kernel_rfl) (by kernel_rfl) ⟨⟨_, hS.step (Below.refl _ _).drew⟩, rfl⟩ ?_
          repeat (first | go_big_quiet_step ((first | (go_at_call 33; first | (with_reducible exact call_in (dh1 _) (hst _)) | ((with_reducible show Calls _ _ #[.int .i64 LB, _] _ _); exact call_in (dh1 _) (hst _)) | (with_reducible exact call_in (dh2 _) (hst _)) | ((with_reducible show Calls _ _ #[.int .i64 HB, _] _ _); exact call_in (dh2 _) (hst _))) | (go_at_call 34; first | (with_reducible exact call_in (cw2 _) (hst _)) | ((with_reducible show Calls _ _ #[_, .int .i64 X2] _ _); exact call_in (cw2 _) (hst _)) | (with_reducible exact call_in (cw3 _) (hst _)) | ((with_reducible show Calls _ _ #[_, .int .i64 X3] _ _); exact call_in (cw3 _) (hst _))) | (go_at_call 19; exact call_in (awake_c _) (hst _)))) | quiet_step ((first | (go_at_call 33; first | (with_reducible exact call_in (dh1 _) (hst _)) | ((with_reducible show Calls _ _ #[.int .i64 LB, _] _ _); exact call_in (dh1 _) (hst _)) | (with_reducible exact call_in (dh2 _) (hst _)) | ((with_reducible show Calls _ _ #[.int .i64 HB, _] _ _); exact call_in (dh2 _) (hst _))) | (go_at_call 34; first | (with_reducible exact call_in (cw2 _) (hst _)) | ((with_reducible show Calls _ _ #[_, .int .i64 X2] _ _); exact call_in (cw2 _) (hst _)) | (with_reducible exact call_in (cw3 _) (hst _)) | ((with_reducible show Calls _ _ #[_, .int .i64 X3] _ _); exact call_in (cw3 _) (hst _))) | (go_at_call 19; exact call_in (awake_c _) (hst _)))))
          refine wpQuiet_nil ?_
          intro w9 hw'
          obtain ⟨⟨_, hS9⟩, hw''⟩ := hw'
          subst hw''
          clear q0 q1 q2 q3 q4 t0 t1 t2 t3 t4 hS
          have hS := hS9
          clear hS9 hst hne
          have HS : Hid _ := hS.below
          clear hS
          go_wp2
          go_ret
          exact ⟨rfl, HS.out⟩
  · have gf : decide (l.length ≤ 4000) = false := decide_eq_false hfw
    rw [gf]
    go_wp2_with (first | (go_at_call 19; (with_reducible refine (awake_c _).mono ?_); rintro e w9 ⟨rfl, hb9⟩))
    go_ret
    exact ⟨rfl, below_call B0 hb9⟩

set_option maxRecDepth 100000 in
theorem lifted (os : Os) (started : os.Started) (H : Type) (enc : TypeId × Value → H) :
    ReturnsInHanded {} Try.checked os 9 .any (Rows.dwtBoundsSpec.pre6 enc Try.prog Try.f9 Rows.dwtBoundsRow.domain false) (Rows.dwtBoundsSpec.post enc Try.prog Try.f9 false true false false) := by
  refine returnsInHanded_of_change (C := Try.checked) own started (by kernel_rfl) Try.func9
    (ChangeSpec.witness6 (enc := enc) (C := Try.checked) false ⟨#[], #[.agg #[.int .i64 0, .int .i64 0, .int .i64 0, .int .i64 0, .slice none 0 0], .int .i64 0], []⟩ 8 (by kernel_rfl) (by kernel_rfl) (by kernel_rfl) (by kernel_rfl)) ?_
  intro W base args ds gs before hval0 hW _ _
  have hval : ∀ (j : Nat) t v, Try.f9.params[j]? = some t → args[j]? = some v → Value.okWide Try.prog W .any base t v := hval0
  have hW' := hW
  obtain ⟨p, q, hA0, hV, rfl, _, _⟩ := hW
  have hA : DataW.TrodAll enc Try.prog W 0 (fun _ => true) true Try.f9.params.toList args.toList ds p := hA0
  rw [Try.params9] at hA hval
  obtain ⟨v0, vs0, d0, ds0, p0, q0, hargs, rfl, rfl, h0, r0⟩ := trodAll_cons hA
  obtain ⟨v1, vs1, d1, ds1, p1, q1, rfl, rfl, rfl, h1, r1⟩ := trodAll_cons r0
  obtain ⟨rfl, rfl, rfl⟩ := trodAll_nil r1
  obtain rfl : args = #[v0, v1] := by cases args; simp_all
  obtain ⟨rfl, rfl⟩ := trodVars_none hV
  clear hA0 hval0
  simp only [List.append_nil] at hW'
  have l0 : ∀ x ∈ p0, x.block < W.heap.size := fun x hx => hW'.lt x (by simp [hx])
  have l1 : ∀ x ∈ p1, x.block < W.heap.size := fun x hx => hW'.lt x (by simp [hx])
  obtain ⟨a, b, c, d, s, l, m, rfl, hH0, hm0, hx0, hn0⟩ := open_plane (hval 0 30 v0 rfl rfl) h0
  obtain ⟨kn, rfl, _, _, w1⟩ := open_int Try.underlying31 (hval 1 31 v1 rfl rfl) h1
  refine (walk a b c d kn s l m W hm0 hH0).mono fun e W' ⟨he, hb⟩ => ?_
  subst he
  exact ⟨_, rfl, post_low (pa := p0 ++ (p1 ++ ([]))) (pv := []) hW' (fun _ _ _ => (trodAll_cons_mk (shut_bool Try.underlying4 _) trodAll_mk0)) (fun sp hsp => (trodAll_cons_mk (trod_low laidOut (by kernel_rfl) (of_decide_eq_true (by kernel_rfl)) h0 hb l0 (fun x hx => hsp x (by simp [hx]))) (trodAll_cons_mk (trod_low laidOut (by kernel_rfl) (of_decide_eq_true (by kernel_rfl)) h1 hb l1 (fun x hx => hsp x (by simp [hx]))) trodAll_mk0))) (fun _ _ => rfl) (by simp) hb (ok_one (by kernel_rfl) rfl (okWide_bool_mk Try.underlying4 _))⟩

theorem over : Rows.dwtBoundsRow.holds Try.pinned (OpenSpec.ofChange Rows.dwtBoundsSpec) :=
  OpenClaim.holds_of_wide 9 Try.f9 rfl rfl rfl rfl rfl rfl rfl ⟨rfl, rfl, rfl, rfl, rfl⟩ rfl rfl rfl rfl rfl (by kernel_rfl) Try.func9 (by kernel_rfl)
    (of_decide_eq_true (by kernel_rfl)) (by unfold Func.isWrapper; first | (rw [if_pos (by decide +kernel)]; kernel_rfl) | (rw [if_neg (by decide +kernel)]; exact ⟨rfl, rfl⟩))
    (fun os started H enc _ => lifted os started H enc)

theorem proved : Rows.DwtBoundsSaid :=
  over
#print axioms proved
end Go.Proofs.Ytnfnidgabgdphaa.dwtBounds
