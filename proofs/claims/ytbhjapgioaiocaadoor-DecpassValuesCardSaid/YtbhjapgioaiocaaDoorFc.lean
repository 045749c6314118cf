/-
  Layer 15: a block as an argument of a law; small, FewValues, ValidOrient.
-/
import Derived.Test.YtbhjapgioaiocaaDoorFb
set_option maxRecDepth 100000
namespace Go.Proofs.YtbhjapgioaiocaaDoor
open Go.ChangeShapes Go.WideShapes Go.ChangeAt Go.RowKit Go.Joins Go.Deep

/-- A law's block: sizes, values, flags, orientation, mode. -/
structure BV where
  W : Int
  H : Int
  s : Option Addr
  l : List Int
  cp : Nat
  sf : Option Addr
  fl : List Int
  cf : Nat
  o : Int
  m : Mo
def BV.cs (b : BV) : Array Value := #[.int .i64 b.W, .int .i64 b.H, .slice b.s b.l.length b.cp, .slice b.sf b.fl.length b.cf, .int .i64 b.o, .bool b.m.b, .bool b.m.r, .bool b.m.s, .bool b.m.c, .bool b.m.y]
def BV.val (b : BV) : Value := .agg b.cs
structure BVk (w : World) (b : BV) : Prop where
  h : HoldsI w b.s b.l
  r : ∀ x ∈ b.l, i64R x
  f : HoldsF w b.sf b.fl
  rf : ∀ x ∈ b.fl, 0 ≤ x ∧ x ≤ 255
  len : b.l.length ≤ 9223372036854775807
theorem BVk.call {w w1 : World} {b : BV} (h : BVk w b) (hb : Below w.heap.size w w1) : BVk w1 b := ⟨h.h.call hb, h.r, h.f.call hb, h.rf, h.len⟩
theorem arr10 (T : Array Value) (h : T.size = 10) : ∃ v0 v1 v2 v3 v4 v5 v6 v7 v8 v9, T = #[v0, v1, v2, v3, v4, v5, v6, v7, v8, v9] := by
  obtain ⟨l⟩ := T
  match l, h with
  | [v0, v1, v2, v3, v4, v5, v6, v7, v8, v9], _ => exact ⟨v0, v1, v2, v3, v4, v5, v6, v7, v8, v9, rfl⟩
theorem open_modeF {H : Type} {enc : TypeId × Value → H} {w : World} {fuel : Nat} {c0 c1 c2 c3 c4 : Value} {x : DataW H × List MemPlace} (hf : DataW.trod enc Tryd.prog w 0 (fun _ => true) true fuel 26 [c0, c1, c2, c3, c4] = some x) :
    ∃ z0 z1 z2 z3 z4 : Bool, c0 = .bool z0 ∧ c1 = .bool z1 ∧ c2 = .bool z2 ∧ c3 = .bool z3 ∧ c4 = .bool z4 := by
  obtain ⟨xs, n, _, _, _, hl, hg⟩ := DataW.trod_struct Tryd.underlying26 hf
  have key : ∀ (j : Nat) (c : Value) (f : Field), j < 5 → ([c0, c1, c2, c3, c4] : List Value)[j]? = some c → (∀ g, f = g → g.offset = j ∧ Tryd.prog.cellsOf g.type = 1 ∧ g.type = 4) → (DataW.trod enc Tryd.prog w 0 (fun _ => true) true n f.type ((([c0, c1, c2, c3, c4] : List Value).drop f.offset).take (Tryd.prog.cellsOf f.type)) = xs[j]?) → ∃ z : Bool, c = .bool z := by
    intro j c f hj hc hff ht
    obtain ⟨f1, f2, f3⟩ := hff f rfl
    have hx : xs[j]? = some (xs[j]'(by rw [hl]; exact hj)) := List.getElem?_eq_getElem _
    rw [f1, f2, f3, hx] at ht
    obtain ⟨hj', hc'⟩ := List.getElem?_eq_some_iff.1 hc
    rw [List.drop_eq_getElem_cons hj', hc'] at ht
    obtain ⟨z, e, _⟩ := DataW.trod_bool Tryd.underlying4 ht
    simp at e
    exact ⟨z, e⟩
  obtain ⟨z0, e0⟩ := key 0 c0 _ (by decide) rfl (fun g hg => by subst hg; exact ⟨rfl, by kernel_rfl, rfl⟩) (hg 0 _ rfl)
  obtain ⟨z1, e1⟩ := key 1 c1 _ (by decide) rfl (fun g hg => by subst hg; exact ⟨rfl, by kernel_rfl, rfl⟩) (hg 1 _ rfl)
  obtain ⟨z2, e2⟩ := key 2 c2 _ (by decide) rfl (fun g hg => by subst hg; exact ⟨rfl, by kernel_rfl, rfl⟩) (hg 2 _ rfl)
  obtain ⟨z3, e3⟩ := key 3 c3 _ (by decide) rfl (fun g hg => by subst hg; exact ⟨rfl, by kernel_rfl, rfl⟩) (hg 3 _ rfl)
  obtain ⟨z4, e4⟩ := key 4 c4 _ (by decide) rfl (fun g hg => by subst hg; exact ⟨rfl, by kernel_rfl, rfl⟩) (hg 4 _ rfl)
  exact ⟨z0, z1, z2, z3, z4, e0, e1, e2, e3, e4⟩
/-- A block by value, opened. -/
theorem open_L5 {H : Type} {enc : TypeId × Value → H} {w : World} {r : Reach} {b0 : Nat} {v : Value} {d : DataW H} {p : List MemPlace}
    (hv : Value.okWide Tryd.prog w r b0 28 v) (h : DataW.Trod enc Tryd.prog w 0 (fun _ => true) true 28 v d p) : ∃ b : BV, v = b.val ∧ BVk w b := by
  obtain ⟨cs, rfl, hsz⟩ := okWide_struct Tryd.underlying28 hv
  obtain ⟨c0, c1, c2, c3, c4, c5, c6, c7, c8, c9, rfl⟩ := arr10 _ (hsz.trans (by kernel_rfl))
  obtain ⟨fuel, hf⟩ := h
  obtain ⟨xs, n, _, _, _, hl, hg⟩ := DataW.trod_struct Tryd.underlying28 hf
  have hx : ∀ j, j < 6 → ∃ y, xs[j]? = some y := fun j hj => ⟨_, List.getElem?_eq_getElem (by rw [hl]; exact hj)⟩
  obtain ⟨y0, e0⟩ := hx 0 (by decide)
  obtain ⟨y1, e1⟩ := hx 1 (by decide)
  obtain ⟨y2, e2⟩ := hx 2 (by decide)
  obtain ⟨y3, e3⟩ := hx 3 (by decide)
  obtain ⟨y4, e4⟩ := hx 4 (by decide)
  obtain ⟨y5, e5⟩ := hx 5 (by decide)
  have t0 : DataW.trod enc Tryd.prog w 0 (fun _ => true) true n 3 [c0] = some y0 := (hg 0 _ rfl).trans e0
  have t1 : DataW.trod enc Tryd.prog w 0 (fun _ => true) true n 3 [c1] = some y1 := (hg 1 _ rfl).trans e1
  have t2 : DataW.trod enc Tryd.prog w 0 (fun _ => true) true n 22 [c2] = some y2 := (hg 2 _ rfl).trans e2
  have t3 : DataW.trod enc Tryd.prog w 0 (fun _ => true) true n 23 [c3] = some y3 := (hg 3 _ rfl).trans e3
  have t4 : DataW.trod enc Tryd.prog w 0 (fun _ => true) true n 24 [c4] = some y4 := (hg 4 _ rfl).trans e4
  have t5 : DataW.trod enc Tryd.prog w 0 (fun _ => true) true n 26 [c5, c6, c7, c8, c9] = some y5 := (hg 5 _ rfl).trans e5
  obtain ⟨W, f0, _⟩ := DataW.trod_int Tryd.underlying3 t0
  obtain ⟨Hh, f1, _⟩ := DataW.trod_int Tryd.underlying3 t1
  obtain ⟨s, l, cp, f2, q1, q2, q5, q6, _⟩ := open_intsF t2
  obtain ⟨sf, fl, cf, f3, q3, q4, _⟩ := open_u8sF t3
  obtain ⟨o, f4, _⟩ := DataW.trod_int Tryd.underlying24 t4
  obtain ⟨z0, z1, z2, z3, z4, rfl, rfl, rfl, rfl, rfl⟩ := open_modeF t5
  simp at f0 f1 f4
  subst f0 f1 f2 f3 f4
  exact ⟨⟨W, Hh, s, l, cp, sf, fl, cf, o, ⟨z0, z1, z2, z3, z4⟩⟩, rfl, ⟨q1, q2, q3, q4, by unfold maxLen at q6; show l.length ≤ _; omega⟩⟩
theorem few_c (s : Option Addr) (l : List Int) (m : Nat) (w : World) (hH : HoldsI w s l) (hr : ∀ v ∈ l, i64R v) (hl : l.length ≤ 9223372036854775807) : Calls Tryd.prog 40 #[.slice s l.length m, .int .i64 60] w fun e w' => e = .returned (.bool (decide (plnN l ≤ 60))) ∧ w = w' := by
  have k := xplanes_c s l m w hH hr hl
  have e : decide (plnN l ≤ 60) = decide ((plnN l : Int) ≤ 60) := by
    by_cases h : plnN l ≤ 60
    · rw [decide_eq_true h, decide_eq_true (by omega)]
    · rw [decide_eq_false h, decide_eq_false (by omega)]
  rw [e]
  clear e hH hr hl
  generalize (plnN l : Int) = n at *
  generalize l.length = N at *
  go_enter Tryd.func40, Tryd.ntmps40
  go_wp2_with (first | (go_at_call 26; (with_reducible refine k.mono ?_); rintro e wn ⟨rfl, rfl⟩))
  go_ret
  exact ⟨rfl, rfl⟩
theorem xvalid_c (o : Int) (W : World) : Calls Tryd.prog 27 #[.int .i64 o] W fun e w' => e = .returned (.bool (decide (0 ≤ o ∧ o ≤ 3))) ∧ W = w' := by
  by_cases h1 : 0 ≤ o
  · by_cases h2 : o ≤ 3
    · rw [decide_eq_true (show 0 ≤ o ∧ o ≤ 3 from ⟨h1, h2⟩)]
      go_enter Tryd.func27, Tryd.ntmps27
      go_wp2_with fail
      go_ret
      exact ⟨rfl, rfl⟩
    · rw [decide_eq_false (show ¬ (0 ≤ o ∧ o ≤ 3) by omega)]
      go_enter Tryd.func27, Tryd.ntmps27
      go_wp2_with fail
      go_ret
      exact ⟨by first | rfl | simpa using h2, rfl⟩
  · rw [decide_eq_false (show ¬ (0 ≤ o ∧ o ≤ 3) by omega)]
    go_enter Tryd.func27, Tryd.ntmps27
    go_wp2_with fail
    go_ret
    exact ⟨rfl, rfl⟩
def BV.small (b : BV) : Prop := 1 ≤ b.W ∧ b.W ≤ 12 ∧ 1 ≤ b.H ∧ b.H ≤ 12 ∧ (b.l.length : Int) = b.W * b.H ∧ plnN b.l ≤ 60
instance (b : BV) : Decidable b.small := by unfold BV.small; infer_instance
theorem small_c (b : BV) (w : World) (K : BVk w b) : Calls Tryd.prog 15 #[b.val] w fun e w' => e = .returned (.bool (decide b.small)) ∧ Below w.heap.size w w' := by
  have hal := below_alloc (Below.refl _ w) (.cells b.cs 28)
  have K1 := K.call hal
  have HA := Lib.hid hal
  obtain ⟨W, H, s, l, cp, sf, fl, cf, o, m⟩ := b
  obtain ⟨hH, hr, -, -, -⟩ := K1
  unfold BV.val
  unfold BV.cs at *
  dsimp only at *
  have kf := fun (hl : l.length ≤ 9223372036854775807) => few_c s l cp _ hH hr hl
  clear K hal hH hr
  have no : ∀ (P : Prop), ¬ P → (∀ (x : Bool), x = false → Ending.returned (.bool x) = Ending.returned (.bool false)) := fun _ _ x hx => by rw [hx]
  by_cases h1 : 1 ≤ W
  · by_cases h2 : W ≤ 12
    · by_cases h3 : 1 ≤ H
      · by_cases h4 : H ≤ 12
        · have hwh : 0 ≤ W * H ∧ W * H ≤ 144 := by
            constructor
            · exact Int.mul_nonneg (by omega) (by omega)
            · exact Int.le_trans (Int.mul_le_mul_of_nonneg_right h2 (by omega)) (by omega)
          have wm : IntKind.i64.wrap (W * H) = W * H := by rw [IntWalk.i64_left]; unfold wrap64; omega
          by_cases h5 : (l.length : Int) = W * H
          · have kf1 := kf (by omega)
            have e5 : ((l.length : Int) == W * H) = true := by simpa using h5
            have eD : decide (BV.small ⟨W, H, s, l, cp, sf, fl, cf, o, m⟩) = decide (plnN l ≤ 60) := by
              by_cases h6 : plnN l ≤ 60
              · rw [decide_eq_true h6, decide_eq_true (show BV.small ⟨W, H, s, l, cp, sf, fl, cf, o, m⟩ from ⟨h1, h2, h3, h4, h5, h6⟩)]
              · rw [decide_eq_false h6, decide_eq_false (fun h : BV.small ⟨W, H, s, l, cp, sf, fl, cf, o, m⟩ => h6 h.2.2.2.2.2)]
            rw [eD]
            clear kf h5 eD hwh no
            generalize decide (plnN l ≤ 60) = D at *
            generalize l.length = N at *
            go_enter Tryd.func15, Tryd.ntmps15
            go_wp2_with (first | (go_at_call 40; (with_reducible refine kf1.mono ?_); rintro e wn ⟨rfl, rfl⟩))
            go_ret
            exact ⟨rfl, HA.out⟩
          · have e5 : ((l.length : Int) == W * H) = false := by simpa using h5
            rw [decide_eq_false (fun h : BV.small ⟨W, H, s, l, cp, sf, fl, cf, o, m⟩ => h5 h.2.2.2.2.1)]
            clear kf h5 hwh no
            generalize l.length = N at *
            go_enter Tryd.func15, Tryd.ntmps15
            go_wp2_with fail
            go_ret
            exact ⟨rfl, HA.out⟩
        · rw [decide_eq_false (fun h : BV.small ⟨W, H, s, l, cp, sf, fl, cf, o, m⟩ => h4 h.2.2.2.1)]
          clear kf no
          go_enter Tryd.func15, Tryd.ntmps15
          go_wp2_with fail
          go_ret
          exact ⟨by first | rfl | simpa using h4, HA.out⟩
      · rw [decide_eq_false (fun h : BV.small ⟨W, H, s, l, cp, sf, fl, cf, o, m⟩ => h3 h.2.2.1)]
        clear kf no
        go_enter Tryd.func15, Tryd.ntmps15
        go_wp2_with fail
        go_ret
        exact ⟨by first | rfl | simpa using h3, HA.out⟩
    · rw [decide_eq_false (fun h : BV.small ⟨W, H, s, l, cp, sf, fl, cf, o, m⟩ => h2 h.2.1)]
      clear kf no
      go_enter Tryd.func15, Tryd.ntmps15
      go_wp2_with fail
      go_ret
      exact ⟨by first | rfl | simpa using h2, HA.out⟩
  · rw [decide_eq_false (fun h : BV.small ⟨W, H, s, l, cp, sf, fl, cf, o, m⟩ => h1 h.1)]
    clear kf no
    go_enter Tryd.func15, Tryd.ntmps15
    go_wp2_with fail
    go_ret
    exact ⟨by first | rfl | simpa using h1, HA.out⟩
end Go.Proofs.YtbhjapgioaiocaaDoor
