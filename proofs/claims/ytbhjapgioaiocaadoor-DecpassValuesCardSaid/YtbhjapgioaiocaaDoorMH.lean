/-
  Layer 16: a block as an argument of a law; small.
  Layer 16: what Values makes of the encoder's symbols.
  Layer 16: Run of no block and without a function; the laws' blocks; kept.
-/
import Derived.Test.YtbhjapgioaiocaaDoorFc
import Derived.Test.YtbhjapgioaiocaaDoorMB
import Derived.Test.YtbhjapgioaiocaaDoorMG
set_option maxRecDepth 100000
namespace Go.Proofs.YtbhjapgioaiocaaDoor
open Go.ChangeShapes Go.WideShapes Go.ChangeAt Go.RowKit Go.Joins Go.Deep

/-- A block by value, opened. -/
theorem open_L6 {H : Type} {enc : TypeId × Value → H} {w : World} {r : Reach} {b0 : Nat} {v : Value} {d : DataW H} {p : List MemPlace}
    (hv : Value.okWide Tryd.prog w r b0 68 v) (h : DataW.Trod enc Tryd.prog w 0 (fun _ => true) true 68 v d p) : ∃ b : BV, v = b.val ∧ BVk w b := by
  obtain ⟨cs, rfl, hsz⟩ := okWide_struct Tryd.underlying68 hv
  obtain ⟨c0, c1, c2, c3, c4, c5, c6, c7, c8, c9, rfl⟩ := arr10 _ (hsz.trans (by kernel_rfl))
  obtain ⟨fuel, hf⟩ := h
  obtain ⟨xs, n, _, _, _, hl, hg⟩ := DataW.trod_struct Tryd.underlying68 hf
  have hx : ∀ j, j < 6 → ∃ y, xs[j]? = some y := fun j hj => ⟨_, List.getElem?_eq_getElem (by rw [hl]; exact hj)⟩
  obtain ⟨y0, e0⟩ := hx 0 (by decide)
  obtain ⟨y1, e1⟩ := hx 1 (by decide)
  obtain ⟨y2, e2⟩ := hx 2 (by decide)
  obtain ⟨y3, e3⟩ := hx 3 (by decide)
  obtain ⟨y4, e4⟩ := hx 4 (by decide)
  obtain ⟨y5, e5⟩ := hx 5 (by decide)
  have t0 : DataW.trod enc Tryd.prog w 0 (fun _ => true) true n 3 [c0] = some y0 := (hg 0 _ rfl).trans e0
  have t1 : DataW.trod enc Tryd.prog w 0 (fun _ => true) true n 3 [c1] = some y1 := (hg 1 _ rfl).trans e1
  have t2 : DataW.trod enc Tryd.prog w 0 (fun _ => true) true n 22 [c2] = some y2 := (hg 2 _ rfl).trans e2
  have t3 : DataW.trod enc Tryd.prog w 0 (fun _ => true) true n 23 [c3] = some y3 := (hg 3 _ rfl).trans e3
  have t4 : DataW.trod enc Tryd.prog w 0 (fun _ => true) true n 24 [c4] = some y4 := (hg 4 _ rfl).trans e4
  have t5 : DataW.trod enc Tryd.prog w 0 (fun _ => true) true n 26 [c5, c6, c7, c8, c9] = some y5 := (hg 5 _ rfl).trans e5
  obtain ⟨W, f0, _⟩ := DataW.trod_int Tryd.underlying3 t0
  obtain ⟨Hh, f1, _⟩ := DataW.trod_int Tryd.underlying3 t1
  obtain ⟨s, l, cp, f2, q1, q2, q5, q6, _⟩ := open_intsF t2
  obtain ⟨sf, fl, cf, f3, q3, q4, _⟩ := open_u8sF t3
  obtain ⟨o, f4, _⟩ := DataW.trod_int Tryd.underlying24 t4
  obtain ⟨z0, z1, z2, z3, z4, rfl, rfl, rfl, rfl, rfl⟩ := open_modeF t5
  simp at f0 f1 f4
  subst f0 f1 f2 f3 f4
  exact ⟨⟨W, Hh, s, l, cp, sf, fl, cf, o, ⟨z0, z1, z2, z3, z4⟩⟩, rfl, ⟨q1, q2, q3, q4, by unfold maxLen at q6; show l.length ≤ _; omega⟩⟩
theorem small6_c (b : BV) (w : World) (K : BVk w b) : Calls Tryd.prog 35 #[b.val] w fun e w' => e = .returned (.bool (decide b.small)) ∧ Below w.heap.size w w' := by
  have hal := below_alloc (Below.refl _ w) (.cells b.cs 68)
  have K1 := K.call hal
  have HA := Lib.hid hal
  obtain ⟨W, H, s, l, cp, sf, fl, cf, o, m⟩ := b
  obtain ⟨hH, hr, -, -, -⟩ := K1
  unfold BV.val
  unfold BV.cs at *
  dsimp only at *
  have kf := fun (hl : l.length ≤ 9223372036854775807) => few_c s l cp _ hH hr hl
  clear K hal hH hr
  have no : ∀ (P : Prop), ¬ P → (∀ (x : Bool), x = false → Ending.returned (.bool x) = Ending.returned (.bool false)) := fun _ _ x hx => by rw [hx]
  by_cases h1 : 1 ≤ W
  · by_cases h2 : W ≤ 12
    · by_cases h3 : 1 ≤ H
      · by_cases h4 : H ≤ 12
        · have hwh : 0 ≤ W * H ∧ W * H ≤ 144 := by
            constructor
            · exact Int.mul_nonneg (by omega) (by omega)
            · exact Int.le_trans (Int.mul_le_mul_of_nonneg_right h2 (by omega)) (by omega)
          have wm : IntKind.i64.wrap (W * H) = W * H := by rw [IntWalk.i64_left]; unfold wrap64; omega
          by_cases h5 : (l.length : Int) = W * H
          · have kf1 := kf (by omega)
            have e5 : ((l.length : Int) == W * H) = true := by simpa using h5
            have eD : decide (BV.small ⟨W, H, s, l, cp, sf, fl, cf, o, m⟩) = decide (plnN l ≤ 60) := by
              by_cases h6 : plnN l ≤ 60
              · rw [decide_eq_true h6, decide_eq_true (show BV.small ⟨W, H, s, l, cp, sf, fl, cf, o, m⟩ from ⟨h1, h2, h3, h4, h5, h6⟩)]
              · rw [decide_eq_false h6, decide_eq_false (fun h : BV.small ⟨W, H, s, l, cp, sf, fl, cf, o, m⟩ => h6 h.2.2.2.2.2)]
            rw [eD]
            clear kf h5 eD hwh no
            generalize decide (plnN l ≤ 60) = D at *
            generalize l.length = N at *
            go_enter Tryd.func35, Tryd.ntmps35
            go_wp2_with (first | (go_at_call 40; (with_reducible refine kf1.mono ?_); rintro e wn ⟨rfl, rfl⟩))
            go_ret
            exact ⟨rfl, HA.out⟩
          · have e5 : ((l.length : Int) == W * H) = false := by simpa using h5
            rw [decide_eq_false (fun h : BV.small ⟨W, H, s, l, cp, sf, fl, cf, o, m⟩ => h5 h.2.2.2.2.1)]
            clear kf h5 hwh no
            generalize l.length = N at *
            go_enter Tryd.func35, Tryd.ntmps35
            go_wp2_with fail
            go_ret
            exact ⟨rfl, HA.out⟩
        · rw [decide_eq_false (fun h : BV.small ⟨W, H, s, l, cp, sf, fl, cf, o, m⟩ => h4 h.2.2.2.1)]
          clear kf no
          go_enter Tryd.func35, Tryd.ntmps35
          go_wp2_with fail
          go_ret
          exact ⟨by first | rfl | simpa using h4, HA.out⟩
      · rw [decide_eq_false (fun h : BV.small ⟨W, H, s, l, cp, sf, fl, cf, o, m⟩ => h3 h.2.2.1)]
        clear kf no
        go_enter Tryd.func35, Tryd.ntmps35
        go_wp2_with fail
        go_ret
        exact ⟨by first | rfl | simpa using h3, HA.out⟩
    · rw [decide_eq_false (fun h : BV.small ⟨W, H, s, l, cp, sf, fl, cf, o, m⟩ => h2 h.2.1)]
      clear kf no
      go_enter Tryd.func35, Tryd.ntmps35
      go_wp2_with fail
      go_ret
      exact ⟨by first | rfl | simpa using h2, HA.out⟩
  · rw [decide_eq_false (fun h : BV.small ⟨W, H, s, l, cp, sf, fl, cf, o, m⟩ => h1 h.1)]
    clear kf no
    go_enter Tryd.func35, Tryd.ntmps35
    go_wp2_with fail
    go_ret
    exact ⟨by first | rfl | simpa using h1, HA.out⟩
end Go.Proofs.YtbhjapgioaiocaaDoor
set_option maxRecDepth 100000
namespace Go.Proofs.YtbhjapgioaiocaaDoor
open Go.RowKit

theorem setV_all (P : Int → Prop) (h0 : P 0) (w h : Nat) (l : List Int) (hl : ∀ v ∈ l, P v) (k : Nat) : ∀ x y, P ((setV w h l k).v x y) := by
  induction k with
  | zero => exact fun x y => h0
  | succ k ih =>
    intro x y
    show P ((setQ _ _ _ _ _ _).v x y)
    unfold setQ
    split
    · show P (upd _ _ _ _ x y)
      unfold upd
      split
      · by_cases hk : k < l.length
        · rw [List.getElem?_eq_getElem hk]; exact hl _ (List.getElem_mem hk)
        · rw [List.getElem?_eq_none (by omega)]; exact h0
      · exact ih x y
    · exact ih x y
theorem setV_in (w h : Nat) (l : List Int) (k : Nat) : ∀ x y, (setV w h l k).v x y ≠ 0 → inB w h x y := by
  induction k with
  | zero => exact fun x y hn => absurd rfl hn
  | succ k ih =>
    intro x y hn
    have hn2 : (setQ w h (setV w h l k) ((k % w : Nat) : Int) ((k / w : Nat) : Int) (l[k]?.getD 0)).v x y ≠ 0 := hn
    unfold setQ at hn2
    split at hn2
    · rename_i hc
      have hn3 : upd (setV w h l k).v _ _ _ x y ≠ 0 := hn2
      unfold upd at hn3
      split at hn3
      · rename_i he
        rw [he.1, he.2]
        exact hc.1
      · exact ih x y hn3
    · exact ih x y hn2
theorem inB_nat {w h X Y : Nat} (h1 : X < w) (h2 : Y < h) : inB w h (X : Int) (Y : Int) := by unfold inB; omega
theorem rowL_at (w : Nat) (f : Int → Int → Int) (k i : Nat) (hi : i < (rowL w f k).length) : (rowL w f k)[i] = f ((i % w : Nat) : Int) ((i / w : Nat) : Int) := by
  have hk : i < k := by rw [rowL_len] at hi; exact hi
  have e : (rowL w f k)[i]? = some (f ((i % w : Nat) : Int) ((i / w : Nat) : Int)) := by
    unfold rowL
    rw [List.getElem?_map, List.getElem?_range hk]
    rfl
  exact (List.getElem?_eq_some_iff.1 e).2
theorem setV_at (w h : Nat) (hw : 0 < w) (l : List Int) (hl : ∀ v ∈ l, okV v) (k : Nat) (hk : k ≤ w * h) (i : Nat) (hi : i < k) : (setV w h l k).v ((i % w : Nat) : Int) ((i / w : Nat) : Int) = l[i]?.getD 0 := by
  induction k with
  | zero => omega
  | succ k ih =>
    have hin : inB w h ((k % w : Nat) : Int) ((k / w : Nat) : Int) := by
      have h1 := Nat.mod_lt k hw
      have h2 : k / w < h := Nat.div_lt_of_lt_mul (by omega)
      exact inB_nat h1 h2
    have hok : okV (l[k]?.getD 0) := by
      by_cases hk : k < l.length
      · rw [List.getElem?_eq_getElem hk]; exact hl _ (List.getElem_mem hk)
      · rw [List.getElem?_eq_none (by omega)]; decide
    show (setQ _ _ _ _ _ _).v _ _ = _
    unfold setQ
    rw [if_pos ⟨hin, hok⟩]
    show upd _ _ _ _ _ _ = _
    unfold upd
    by_cases he : i = k
    · subst he
      rw [if_pos ⟨rfl, rfl⟩]
    · rw [if_neg, ih (by omega) (by omega)]
      intro hc
      have e1 : i % w = k % w := by omega
      have e2 : i / w = k / w := by omega
      have d1 := Nat.div_add_mod i w
      have d2 := Nat.div_add_mod k w
      rw [e1, e2] at d1
      omega
theorem row_set (w h : Nat) (hw : 0 < w) (l : List Int) (hl : ∀ v ∈ l, okV v) (hn : l.length = w * h) (f : Int → Int → Int) (hf : ∀ x y, f x y = (setV w h l l.length).v x y) : rowL w f (w * h) = l := by
  apply List.ext_getElem
  · rw [rowL_len, hn]
  · intro i h1 h2
    rw [rowL_at, hf, setV_at w h hw l hl _ (by omega) i h2, List.getElem?_eq_getElem h2]
    rfl
theorem row_rep (w : Nat) (f : Int → Int → Int) (c : Int) (hf : ∀ x y, f x y = c) (k : Nat) : rowL w f k = List.replicate k c := by
  apply List.ext_getElem
  · rw [rowL_len, List.length_replicate]
  · intro i h1 h2
    rw [rowL_at, hf, List.getElem_replicate]
theorem kept_0 (v : Int) : keptM v 0 = v := by unfold keptM; simp; omega
/-- What a block's symbols are read as. -/
structure Rdd (w h : Nat) (l : List Int) (o : Int) (m : Mo) (n : Nat) : Prop where
  val : valR w h (plnN l) o m (symL w h (plnN l) o m (setV w h l l.length) n) 0 St.zero = (0, decP w h (plnN l) o m (setV w h l l.length) n)
  bs : Bs (setV w h l l.length).v (plnN l) n (blkP w h (plnN l) o m (setV w h l l.length) n) (decP w h (plnN l) o m (setV w h l l.length) n)
theorem rdd_ok (w h : Nat) (l : List Int) (o : Int) (m : Mo) (hl : ∀ v ∈ l, okV v) (hp : plnN l ≤ 60) (n : Nat) (hn : n ≤ 3 * plnN l - 2) : Rdd w h l o m n := by
  have hm : ∀ x y, ((setV w h l l.length).v x y).natAbs < 2 ^ plnN l := by
    have h1 : mxN l < 1152921504606846976 := mxN_lt l _ (by decide) fun v hv => by have := hl v hv; unfold okV at this; omega
    have h2 : mxN l < 2 ^ plnN l := (bit_iff (mxN l) (plnN l) (by omega)).1 (Nat.le_refl _)
    exact setV_all (fun v => v.natAbs < 2 ^ plnN l) (Nat.two_pow_pos _) w h l (fun v hv => Nat.lt_of_le_of_lt (mxN_le l v hv) h2) _
  have hr : (setV w h l l.length).r = fun _ _ => false := by
    have : ∀ k, (setV w h l k).r = fun _ _ => false := fun k => by
      induction k with
      | zero => rfl
      | succ k ih =>
        show (setQ _ _ _ _ _ _).r = _
        unfold setQ
        split
        · exact ih
        · exact ih
    exact this _
  exact ⟨val_sym w h (plnN l) o m _ rfl (setV_s _ _ _ _) (setV_t _ _ _ _) hr (setV_in _ _ _ _) (setV_ok _ _ _ hl _) hp hm n hn, bs_all w h (plnN l) o m _ rfl (setV_s _ _ _ _) (setV_t _ _ _ _) hr (setV_in _ _ _ _) (setV_ok _ _ _ hl _) hp hm n hn⟩
theorem lft_is (planes n : Nat) (hn : n ≤ 3 * planes - 2) (q : St) (x y : Int) : lftM planes n q x y = (misM planes n q.t x y : Int) ∧ misM planes n q.t x y ≤ planes := by
  unfold lftM misM
  by_cases h0 : n = 0
  · subst h0
    have e1 : kndP (((0 : Nat) : Int) - 1) = -1 := by decide
    have e2 : plnP (((0 : Nat) : Int) - 1) = -1 := by decide
    rw [if_pos rfl, e1, e2, if_neg (by omega)]
    omega
  · rw [if_neg h0]
    have hb := pln_bound planes (n - 1) (by omega)
    have hc : (((n - 1 : Nat) : Int)) = (n : Int) - 1 := by omega
    rw [hc] at hb
    obtain ⟨b1, b2⟩ := hb
    have hk := knd_in ((n : Int) - 1) (by omega)
    generalize plnP ((n : Int) - 1) = pl at *
    rcases hk with hk | hk | hk <;> rw [hk]
    · rw [if_neg (show ¬ (0 : Int) = 2 by decide)]
      cases q.t x y
      · rw [if_pos ⟨.inl rfl, rfl⟩, if_neg (by decide)]; omega
      · rw [if_neg (fun z => by cases z.2), if_pos rfl]; omega
    · rw [if_neg (show ¬ (1 : Int) = 2 by decide)]
      cases q.t x y
      · rw [if_pos ⟨.inr rfl, rfl⟩, if_neg (by decide)]; omega
      · rw [if_neg (fun z => by cases z.2), if_pos rfl]; omega
    · rw [if_pos rfl, if_neg (fun z => by rcases z.1 with z | z <;> cases z)]
      omega
theorem valC_is {w h : Nat} {planes o : Int} {m : Mo} {Ls : List (List Sy)} {q : St} (hf : fits (w : Int) (h : Int)) (hp : 0 ≤ planes ∧ planes ≤ 60) (hn : (Ls.length : Int) ≤ max 0 (3 * planes - 2)) (ho : 0 ≤ o ∧ o ≤ 3) (c : Int) (hv : valR w h planes o m Ls 0 St.zero = (c, q)) : valC w h planes o m Ls = c ∧ valQ w h planes o m Ls = q := by
  unfold valC valQ
  rw [if_neg (fun z => by rcases z with z | z | z; exact z hf; omega; omega), if_neg (by omega), if_neg (by omega)]
  rw [Int.toNat_natCast, Int.toNat_natCast, hv]
  exact ⟨rfl, rfl⟩
theorem mis_all (planes : Nat) (t : Int → Int → Bool) (x y : Int) : misM planes (3 * planes - 2) t x y = 0 := by
  unfold misM
  by_cases h0 : 3 * planes - 2 = 0
  · rw [if_pos h0]; omega
  · rw [if_neg h0]
    have e : ((3 * planes - 2 : Nat) : Int) - 1 = 3 * (planes : Int) - 3 := by omega
    rw [e]
    have k : kndP (3 * (planes : Int) - 3) = 2 := by unfold kndP; split; omega; split; rfl; omega
    have p : plnP (3 * (planes : Int) - 3) = (planes : Int) - 1 := by unfold plnP; split; omega; split <;> omega
    rw [k, p, if_pos rfl]
    omega
/-- All passes: the values, and no plane is missing. -/
theorem val_all (w h : Nat) (l : List Int) (o : Int) (m : Mo) (hf : fits (w : Int) (h : Int)) (hl : ∀ v ∈ l, okV v) (hp : plnN l ≤ 60) (hn : l.length = w * h) (ho : 0 ≤ o ∧ o ≤ 3) (Ls : List (List Sy)) (hLs : Ls = symL w h (plnN l) o m (setV w h l l.length) (3 * plnN l - 2)) :
    valC w h (plnN l) o m Ls = 0 ∧ valV w h (plnN l) o m Ls = l ∧ valM2 w h (plnN l) o m Ls = List.replicate l.length 0 := by
  have hlen : Ls.length = 3 * plnN l - 2 := by rw [hLs, symL_len]
  have hR := rdd_ok w h l o m hl hp (3 * plnN l - 2) (Nat.le_refl _)
  have hw : 0 < w := by unfold fits at hf; omega
  obtain ⟨c1, c2⟩ := valC_is (planes := (plnN l : Int)) (m := m) (Ls := Ls) hf (by omega) (by omega) ho 0 (by rw [hLs]; exact hR.val)
  refine ⟨c1, ?_, ?_⟩
  · unfold valV
    rw [if_pos c1, c2, Int.toNat_natCast, Int.toNat_natCast]
    refine row_set w h hw l hl hn _ fun x y => ?_
    rw [hR.bs.l.v, mis_all, kept_0]
  · unfold valM2
    rw [if_pos c1, c2, Int.toNat_natCast, Int.toNat_natCast, hlen, hn]
    refine row_rep w _ 0 (fun x y => ?_) _
    rw [(lft_is (plnN l) (3 * plnN l - 2) (Nat.le_refl _) _ x y).1, mis_all]
    rfl
end Go.Proofs.YtbhjapgioaiocaaDoor
set_option maxRecDepth 100000
namespace Go.Proofs.YtbhjapgioaiocaaDoor
open Go.RowKit

theorem drun_n {p : Option Addr} {W : World} (h : NoB p W) (pass planes o : Int) (m : Mo) (f : Nat) (cp : Array Value) : Calls Tryd.prog 37 #[.pointer p, .int .i64 pass, .int .i64 planes, .int .i64 o, m.val, .func (.func f) #[] cp] W fun e w' => e = .returned (.int .i64 6) ∧ Below W.heap.size W w' := by
  unfold Mo.val
  have hM := below_alloc (below_alloc (Below.refl _ W) (.cells #[.bool m.b, .bool m.r, .bool m.s, .bool m.c, .bool m.y] 26)) (.cells #[.func (.func f) #[] cp] 74)
  have kc := nsize (h.step hM)
  have HM := Lib.hid hM
  clear h hM
  go_enter Tryd.func37, Tryd.ntmps37
  go_wp2_with (first | (go_at_call 77; (with_reducible refine kc.mono ?_); rintro e wa ⟨rfl, rfl⟩))
  go_ret
  exact ⟨rfl, HM.out⟩
theorem drun_n0 {p : Option Addr} {W : World} (h : NoB p W) (pass planes o : Int) (m : Mo) : Calls Tryd.prog 37 #[.pointer p, .int .i64 pass, .int .i64 planes, .int .i64 o, m.val, .nilFunc] W fun e w' => e = .returned (.int .i64 6) ∧ Below W.heap.size W w' := by
  unfold Mo.val
  have hM := below_alloc (below_alloc (Below.refl _ W) (.cells #[.bool m.b, .bool m.r, .bool m.s, .bool m.c, .bool m.y] 26)) (.cells #[.nilFunc] 74)
  have kc := nsize (h.step hM)
  have HM := Lib.hid hM
  clear h hM
  go_enter Tryd.func37, Tryd.ntmps37
  go_wp2_with (first | (go_at_call 77; (with_reducible refine kc.mono ?_); rintro e wa ⟨rfl, rfl⟩))
  go_ret
  exact ⟨rfl, HM.out⟩
theorem drun_0 {W : World} {B A V S T R w h : Nat} {q : St} (H : Cb W B A V S T R w h q) (pass planes o : Int) (m : Mo) : Calls Tryd.prog 37 #[.pointer (some ⟨A, 0, none⟩), .int .i64 pass, .int .i64 planes, .int .i64 o, m.val, .nilFunc] W fun e w' => e = .returned (.int .i64 1) ∧ Below W.heap.size W w' := by
  unfold Mo.val
  have hwz : (((w : Int)) == 0) = false := by have hf := H.fit; unfold fits at hf; simp; omega
  have hM := below_alloc (below_alloc (Below.refl _ W) (.cells #[.bool m.b, .bool m.r, .bool m.s, .bool m.c, .bool m.y] 26)) (.cells #[.nilFunc] 74)
  have kc := size_c (H.below hM)
  have N0 := Lib.hid (show Blk ((W.alloc (.cells #[.bool m.b, .bool m.r, .bool m.s, .bool m.c, .bool m.y] 26)).alloc (.cells #[.nilFunc] 74)) (W.heap.size + 1) 74 #[.nilFunc] by
    have := Blk.new (W.alloc (.cells #[.bool m.b, .bool m.r, .bool m.s, .bool m.c, .bool m.y] 26)) 74 #[.nilFunc]
    rwa [alloc_size] at this)
  have HM := Lib.hid hM
  have hfn := fun w => fnYes w
  clear hM H
  go_enter Tryd.func37, Tryd.ntmps37
  go_wp2_with (first | (go_at_call 77; (with_reducible refine kc.mono ?_); rintro e wa ⟨rfl, hb⟩; have HB := Lib.hid (below_call HM.out hb); have n0 := (N0.out.below hb).cell 0; clear hb))
  go_ret
  exact ⟨rfl, HB.out⟩
theorem l6c {w : World} {g : Nat} {c0 c1 c2 c3 c4 c5 c6 c7 c8 c9 : Value} (h : Blk w g 68 #[c0, c1, c2, c3, c4, c5, c6, c7, c8, c9]) : w.cell? ⟨g, 0, none⟩ = some c0 ∧ w.cell? ⟨g, 1, none⟩ = some c1 ∧ w.cell? ⟨g, 2, none⟩ = some c2 ∧ w.cell? ⟨g, 3, none⟩ = some c3 ∧ w.cell? ⟨g, 4, none⟩ = some c4 ∧ w.cell? ⟨g, 5, none⟩ = some c5 ∧ w.cell? ⟨g, 6, none⟩ = some c6 ∧ w.cell? ⟨g, 7, none⟩ = some c7 ∧ w.cell? ⟨g, 8, none⟩ = some c8 ∧ w.cell? ⟨g, 9, none⟩ = some c9 := ⟨h.cell 0, h.cell 1, h.cell 2, h.cell 3, h.cell 4, h.cell 5, h.cell 6, h.cell 7, h.cell 8, h.cell 9⟩
theorem small_ok6 {b : BV} (hs : b.small) : ∃ w0 h0 : Nat, b.W = w0 ∧ b.H = h0 ∧ w0 ≤ 12 ∧ h0 ≤ 12 ∧ fits (w0 : Int) (h0 : Int) ∧ b.l.length = w0 * h0 ∧ b.l.length ≤ 144 ∧ plnN b.l ≤ 60 := by
  obtain ⟨h1, h2, h3, h4, h5, h6⟩ := hs
  obtain ⟨w0, hw⟩ : ∃ n : Nat, b.W = n := ⟨b.W.toNat, by omega⟩
  obtain ⟨h0, hh⟩ : ∃ n : Nat, b.H = n := ⟨b.H.toNat, by omega⟩
  rw [hw, hh, ← Int.natCast_mul] at h5
  have h7 : w0 * h0 ≤ 12 * 12 := Nat.mul_le_mul (by omega) (by omega)
  exact ⟨w0, h0, hw, hh, by omega, by omega, by unfold fits; omega, by omega, by omega, h6⟩
theorem okV_all6 {l : List Int} (hr : ∀ v ∈ l, i64R v) (hp : plnN l ≤ 60) : ∀ v ∈ l, okV v := fun v hv => by
  have h1 := mxN_le l v hv
  have h3 := mxN_64 l hr
  have h2 := (bit_iff (mxN l) 60 (by omega)).1 hp
  unfold okV
  omega
theorem ss_holdsW {w W : World} {v : Value} {L : List (List Sy)} (H : SsAt w W v L) : ∃ s m, v = .slice s L.length m ∧ HoldsW W s L ∧ L.length ≤ m := by
  obtain ⟨s, m, rfl, h1, h2⟩ := ss_cap H
  refine ⟨s, m, rfl, ?_, h2⟩
  by_cases h0 : L = []
  · exact .inl h0
  · have hl : 0 < L.length := List.length_pos_iff.2 h0
    obtain ⟨b, sk0, mk0, rfl, _⟩ := ss_at H hl
    refine .inr ⟨b, 0, rfl, fun k hk => ?_⟩
    obtain ⟨b2, sk, mk, e, c1, c2, c3⟩ := ss_at H hk
    have e2 : b = b2 := by simpa using e
    subst e2
    rw [Nat.zero_add]
    exact ⟨sk, mk, c1, c2, c3⟩
end Go.Proofs.YtbhjapgioaiocaaDoor
