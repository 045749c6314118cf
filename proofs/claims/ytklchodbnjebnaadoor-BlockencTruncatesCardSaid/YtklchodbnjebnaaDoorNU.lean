/-
  What the statements of layers 17 and 18 are closed by: shapes, coded blocks, modes, pairs as arguments.
  Layers 17 and 18: few.
  The reference of layer 17: Valid; SameCoded on equal blocks.
  Layer 17: what Encode gives is valid (mathematics).
-/
import Derived.Test.YtklchodbnjebnaaDoorNN
import Derived.Test.YtklchodbnjebnaaDoorNR
set_option maxRecDepth 100000
namespace Go.Proofs.YtklchodbnjebnaaDoor
open Go.ChangeShapes Go.WideShapes Go.ChangeAt Go.RowKit Go.Joins Go.Deep

/-- A shape: width, height, orientation, mode. -/
structure ShV where
  w : Int
  h : Int
  o : Int
  m : Mo
def ShV.cs (s : ShV) : Array Value := #[.int .i64 s.w, .int .i64 s.h, .int .i64 s.o, .bool s.m.b, .bool s.m.r, .bool s.m.s, .bool s.m.c, .bool s.m.y]
def ShV.val (s : ShV) : Value := .agg s.cs
structure ShR (s : ShV) : Prop where
  w : i64R s.w
  h : i64R s.h
  o : i64R s.o
theorem arr8 (T : Array Value) (h : T.size = 8) : ∃ v0 v1 v2 v3 v4 v5 v6 v7, T = #[v0, v1, v2, v3, v4, v5, v6, v7] := by
  obtain ⟨l⟩ := T
  match l, h with
  | [v0, v1, v2, v3, v4, v5, v6, v7], _ => exact ⟨v0, v1, v2, v3, v4, v5, v6, v7, rfl⟩
theorem arr5' (T : Array Value) (h : T.size = 5) : ∃ v0 v1 v2 v3 v4, T = #[v0, v1, v2, v3, v4] := by
  obtain ⟨l⟩ := T
  match l, h with
  | [v0, v1, v2, v3, v4], _ => exact ⟨v0, v1, v2, v3, v4, rfl⟩
theorem arr3' (T : Array Value) (h : T.size = 3) : ∃ v0 v1 v2, T = #[v0, v1, v2] := by
  obtain ⟨l⟩ := T
  match l, h with
  | [v0, v1, v2], _ => exact ⟨v0, v1, v2, rfl⟩
theorem arr2' (T : Array Value) (h : T.size = 2) : ∃ v0 v1, T = #[v0, v1] := by
  obtain ⟨l⟩ := T
  match l, h with
  | [v0, v1], _ => exact ⟨v0, v1, rfl⟩
theorem open_Sh7 {H : Type} {enc : TypeId × Value → H} {w : World} {r : Reach} {b0 : Nat} {v : Value} {d : DataW H} {p : List MemPlace}
    (hv : Value.okWide Tryd.prog w r b0 39 v) (h : DataW.Trod enc Tryd.prog w 0 (fun _ => true) true 39 v d p) : ∃ b : ShV, v = b.val ∧ ShR b := by
  obtain ⟨cs, rfl, hsz⟩ := okWide_struct Tryd.underlying39 hv
  obtain ⟨c0, c1, c2, c3, c4, c5, c6, c7, rfl⟩ := arr8 _ (hsz.trans (by kernel_rfl))
  obtain ⟨fuel, hf⟩ := h
  obtain ⟨xs, n, _, _, _, hl, hg⟩ := DataW.trod_struct Tryd.underlying39 hf
  have hx : ∀ j, j < 4 → ∃ y, xs[j]? = some y := fun j hj => ⟨_, List.getElem?_eq_getElem (by rw [hl]; exact hj)⟩
  obtain ⟨y0, e0⟩ := hx 0 (by decide)
  obtain ⟨y1, e1⟩ := hx 1 (by decide)
  obtain ⟨y2, e2⟩ := hx 2 (by decide)
  obtain ⟨y3, e3⟩ := hx 3 (by decide)
  have t0 : DataW.trod enc Tryd.prog w 0 (fun _ => true) true n 3 [c0] = some y0 := (hg 0 _ rfl).trans e0
  have t1 : DataW.trod enc Tryd.prog w 0 (fun _ => true) true n 3 [c1] = some y1 := (hg 1 _ rfl).trans e1
  have t2 : DataW.trod enc Tryd.prog w 0 (fun _ => true) true n 37 [c2] = some y2 := (hg 2 _ rfl).trans e2
  have t3 : DataW.trod enc Tryd.prog w 0 (fun _ => true) true n 27 [c3, c4, c5, c6, c7] = some y3 := (hg 3 _ rfl).trans e3
  obtain ⟨a, f0, _, w0⟩ := DataW.trod_int Tryd.underlying3 t0
  obtain ⟨b, f1, _, w1⟩ := DataW.trod_int Tryd.underlying3 t1
  obtain ⟨o, f2, _, w2⟩ := DataW.trod_int Tryd.underlying37 t2
  obtain ⟨z0, z1, z2, z3, z4, rfl, rfl, rfl, rfl, rfl⟩ := open_modeF t3
  simp at f0 f1 f2
  subst f0 f1 f2
  exact ⟨⟨a, b, o, ⟨z0, z1, z2, z3, z4⟩⟩, rfl, ⟨i64_of w0, i64_of w1, i64_of w2⟩⟩
theorem open_Sh8 {H : Type} {enc : TypeId × Value → H} {w : World} {r : Reach} {b0 : Nat} {v : Value} {d : DataW H} {p : List MemPlace}
    (hv : Value.okWide Tryd.prog w r b0 44 v) (h : DataW.Trod enc Tryd.prog w 0 (fun _ => true) true 44 v d p) : ∃ b : ShV, v = b.val ∧ ShR b := by
  obtain ⟨cs, rfl, hsz⟩ := okWide_struct Tryd.underlying44 hv
  obtain ⟨c0, c1, c2, c3, c4, c5, c6, c7, rfl⟩ := arr8 _ (hsz.trans (by kernel_rfl))
  obtain ⟨fuel, hf⟩ := h
  obtain ⟨xs, n, _, _, _, hl, hg⟩ := DataW.trod_struct Tryd.underlying44 hf
  have hx : ∀ j, j < 4 → ∃ y, xs[j]? = some y := fun j hj => ⟨_, List.getElem?_eq_getElem (by rw [hl]; exact hj)⟩
  obtain ⟨y0, e0⟩ := hx 0 (by decide)
  obtain ⟨y1, e1⟩ := hx 1 (by decide)
  obtain ⟨y2, e2⟩ := hx 2 (by decide)
  obtain ⟨y3, e3⟩ := hx 3 (by decide)
  have t0 : DataW.trod enc Tryd.prog w 0 (fun _ => true) true n 3 [c0] = some y0 := (hg 0 _ rfl).trans e0
  have t1 : DataW.trod enc Tryd.prog w 0 (fun _ => true) true n 3 [c1] = some y1 := (hg 1 _ rfl).trans e1
  have t2 : DataW.trod enc Tryd.prog w 0 (fun _ => true) true n 37 [c2] = some y2 := (hg 2 _ rfl).trans e2
  have t3 : DataW.trod enc Tryd.prog w 0 (fun _ => true) true n 27 [c3, c4, c5, c6, c7] = some y3 := (hg 3 _ rfl).trans e3
  obtain ⟨a, f0, _, w0⟩ := DataW.trod_int Tryd.underlying3 t0
  obtain ⟨b, f1, _, w1⟩ := DataW.trod_int Tryd.underlying3 t1
  obtain ⟨o, f2, _, w2⟩ := DataW.trod_int Tryd.underlying37 t2
  obtain ⟨z0, z1, z2, z3, z4, rfl, rfl, rfl, rfl, rfl⟩ := open_modeF t3
  simp at f0 f1 f2
  subst f0 f1 f2
  exact ⟨⟨a, b, o, ⟨z0, z1, z2, z3, z4⟩⟩, rfl, ⟨i64_of w0, i64_of w1, i64_of w2⟩⟩
theorem open_mode9 {H : Type} {enc : TypeId × Value → H} {w : World} {r : Reach} {b0 : Nat} {v : Value} {d : DataW H} {p : List MemPlace}
    (hv : Value.okWide Tryd.prog w r b0 27 v) (h : DataW.Trod enc Tryd.prog w 0 (fun _ => true) true 27 v d p) : ∃ m : Mo, v = m.val := by
  obtain ⟨cs, rfl, hsz⟩ := okWide_struct Tryd.underlying27 hv
  obtain ⟨c0, c1, c2, c3, c4, rfl⟩ := arr5' _ (hsz.trans (by kernel_rfl))
  obtain ⟨fuel, hf⟩ := h
  have hf' : DataW.trod enc Tryd.prog w 0 (fun _ => true) true fuel 27 [c0, c1, c2, c3, c4] = some (d, p) := hf
  obtain ⟨z0, z1, z2, z3, z4, rfl, rfl, rfl, rfl, rfl⟩ := open_modeF hf'
  exact ⟨⟨z0, z1, z2, z3, z4⟩, rfl⟩
theorem open_N2 {H : Type} {enc : TypeId × Value → H} {w : World} {r : Reach} {b0 : Nat} {v : Value} {d : DataW H} {p : List MemPlace}
    (hv : Value.okWide Tryd.prog w r b0 42 v) (h : DataW.Trod enc Tryd.prog w 0 (fun _ => true) true 42 v d p) :
    ∃ x y : Int, v = .agg #[.int .i64 x, .int .i64 y] ∧ i64R x ∧ i64R y := by
  simp only [Value.okWide, Tryd.underlying42] at hv
  obtain ⟨cs, rfl, hsz, _⟩ := hv
  obtain ⟨c0, c1, rfl⟩ := arr2' _ (hsz.trans (by kernel_rfl))
  obtain ⟨fuel, hf⟩ := h
  obtain ⟨xs, m, _, _, _, hl, hx⟩ := DataW.trod_array Tryd.underlying42 hf
  have h0 := hx 0 (by decide)
  have h1 := hx 1 (by decide)
  rw [List.getElem?_eq_getElem (by omega)] at h0 h1
  have t0 : DataW.trod enc Tryd.prog w 0 (fun _ => true) true m 3 [c0] = some xs[0] := h0
  have t1 : DataW.trod enc Tryd.prog w 0 (fun _ => true) true m 3 [c1] = some xs[1] := h1
  obtain ⟨x, e0, _, w0⟩ := DataW.trod_int Tryd.underlying3 t0
  obtain ⟨y, e1, _, w1⟩ := DataW.trod_int Tryd.underlying3 t1
  simp at e0 e1
  subst e0 e1
  exact ⟨x, y, rfl, i64_of w0, i64_of w1⟩
/-- A coded block as an argument. -/
structure CoV where
  pl : Int
  E : List Int
  D : List Int
structure CoR (w : World) (v : Value) (c : CoV) : Prop where
  cv : CvAt w v c.pl c.E c.D
  p : i64R c.pl
  e : ∀ x ∈ c.E, i64R x
  d : Am.bytes c.D
  le : c.E.length ≤ 9223372036854775807
  ld : c.D.length ≤ 9223372036854775807
theorem open_coded {H : Type} {enc : TypeId × Value → H} {w : World} {r : Reach} {b0 : Nat} {v : Value} {d : DataW H} {p : List MemPlace}
    (hv : Value.okWide Tryd.prog w r b0 25 v) (h : DataW.Trod enc Tryd.prog w 0 (fun _ => true) true 25 v d p) : ∃ c : CoV, CoR w v c := by
  obtain ⟨cs, rfl, hsz⟩ := okWide_struct Tryd.underlying25 hv
  obtain ⟨c0, c1, c2, rfl⟩ := arr3' _ (hsz.trans (by kernel_rfl))
  obtain ⟨fuel, hf⟩ := h
  obtain ⟨xs, n, _, _, _, hl, hg⟩ := DataW.trod_struct Tryd.underlying25 hf
  have hx : ∀ j, j < 3 → ∃ y, xs[j]? = some y := fun j hj => ⟨_, List.getElem?_eq_getElem (by rw [hl]; exact hj)⟩
  obtain ⟨y0, e0⟩ := hx 0 (by decide)
  obtain ⟨y1, e1⟩ := hx 1 (by decide)
  obtain ⟨y2, e2⟩ := hx 2 (by decide)
  have t0 : DataW.trod enc Tryd.prog w 0 (fun _ => true) true n 3 [c0] = some y0 := (hg 0 _ rfl).trans e0
  have t1 : DataW.trod enc Tryd.prog w 0 (fun _ => true) true n 22 [c1] = some y1 := (hg 1 _ rfl).trans e1
  have t2 : DataW.trod enc Tryd.prog w 0 (fun _ => true) true n 23 [c2] = some y2 := (hg 2 _ rfl).trans e2
  obtain ⟨a, f0, _, w0⟩ := DataW.trod_int Tryd.underlying3 t0
  obtain ⟨s, l, cp, f1, q1, q2, q3, q4, q5⟩ := open_intsF t1
  obtain ⟨sf, fl, cf, f2, p1, p2, p3, p4, p5⟩ := open_u8sF t2
  simp at f0
  subst f0 f1 f2
  unfold maxLen at q4 p4
  exact ⟨⟨a, l, fl⟩, ⟨⟨s, cp, sf, cf, rfl, q1, p1, q3, p3, fun h => ⟨List.length_eq_zero_iff.1 (q5 h).1, (q5 h).2⟩, fun h => ⟨List.length_eq_zero_iff.1 (p5 h).1, (p5 h).2⟩⟩, i64_of w0, q2, p2, by show l.length ≤ _; omega, by show fl.length ≤ _; omega⟩⟩
end Go.Proofs.YtklchodbnjebnaaDoor
set_option maxRecDepth 100000
namespace Go.Proofs.YtklchodbnjebnaaDoor
open Go.RowKit

theorem few17_c (W : World) (v : Value) (c : CoV) (hC : CvAt W v c.pl c.E c.D) : Calls Tryd.prog 8 #[v] W fun e w' => e = .returned (.bool (decide (c.E.length ≤ 300) && decide (c.D.length ≤ 20000))) ∧ Below W.heap.size W w' := by
  obtain ⟨se, me, sd, md9, rfl, _⟩ := hC
  have HB := Lib.hid (below_alloc (Below.refl _ W) (.cells #[.int .i64 c.pl, .slice se c.E.length me, .slice sd c.D.length md9] 25))
  generalize c.E.length = a at *
  generalize c.D.length = b at *
  by_cases h1 : a ≤ 300
  · have h1i : (a : Int) ≤ 300 := by omega
    by_cases h2 : b ≤ 20000
    · have h2i : (b : Int) ≤ 20000 := by omega
      have e : (decide (a ≤ 300) && decide (b ≤ 20000)) = true := by rw [decide_eq_true h1, decide_eq_true h2]; rfl
      rw [e]
      go_enter Tryd.func8, Tryd.ntmps8
      go_wp2_with fail
      go_ret
      exact ⟨rfl, HB.out⟩
    · have h2i : ¬ (b : Int) ≤ 20000 := by omega
      have e : (decide (a ≤ 300) && decide (b ≤ 20000)) = false := by rw [decide_eq_false h2]; simp
      rw [e]
      go_enter Tryd.func8, Tryd.ntmps8
      go_wp2_with fail
      go_ret
      exact ⟨rfl, HB.out⟩
  · have h1i : ¬ (a : Int) ≤ 300 := by omega
    have e : (decide (a ≤ 300) && decide (b ≤ 20000)) = false := by rw [decide_eq_false h1]; rfl
    rw [e]
    go_enter Tryd.func8, Tryd.ntmps8
    go_wp2_with fail
    go_ret
    exact ⟨rfl, HB.out⟩
theorem cvB {W : World} {se sd : Option Addr} {me md : Nat} {pl : Int} {E D : List Int} (h : CvAt W (.agg #[.int .i64 pl, .slice se E.length me, .slice sd D.length md]) pl E D) : HoldsI W se E ∧ HoldsB W sd D ∧ E.length ≤ me ∧ D.length ≤ md ∧ (se = none → E = [] ∧ me = 0) ∧ (sd = none → D = [] ∧ md = 0) := by
  obtain ⟨se', me', sd', md', e, h1⟩ := h
  simp at e
  obtain ⟨⟨rfl, rfl⟩, rfl, rfl⟩ := e
  exact h1
end Go.Proofs.YtklchodbnjebnaaDoor
set_option maxRecDepth 100000
namespace Go.Proofs.YtklchodbnjebnaaDoor
open Go.RowKit

set_option maxHeartbeats 4000000 in
theorem zvalid_c (pl : Int) (E : List Int) (se : Option Addr) (me : Nat) (sd : Option Addr) (d md : Nat) (m : Mo) (W : World) (hE : HoldsI W se E) (hl : E.length ≤ 1000000000) :
    Calls Tryd.prog 11 #[.agg #[.int .i64 pl, .slice se E.length me, .slice sd d md], m.val] W (VaG pl E d W) := by
  obtain ⟨mb, mr, ms, mc, my⟩ := m
  unfold Mo.val
  dsimp only
  have hmx9 := fun x y : Int => hmx x y
  obtain ⟨va, hva⟩ : ∃ v, v = vaE pl E d := ⟨_, rfl⟩
  unfold VaG
  rw [← hva]
  have HVA := Lib.hid hva
  obtain ⟨WA, hWA⟩ : ∃ x, x = (W.alloc (.cells #[.int .i64 pl, .slice se E.length me, .slice sd d md] 25)).alloc (.cells #[.bool mb, .bool mr, .bool ms, .bool mc, .bool my] 27) := ⟨_, rfl⟩
  have hB : Below W.heap.size W WA := by rw [hWA]; exact below_alloc (below_alloc (Below.refl _ W) _) _
  have hX : Blk WA W.heap.size 25 #[.int .i64 pl, .slice se E.length me, .slice sd d md] := by rw [hWA]; exact (Blk.new W _ _).alloc _
  have HB := Lib.hid hB
  have HX := Lib.hid hX
  have HE := Lib.hid (hE.below hB (Nat.le_refl _))
  have HL := Lib.hid hl
  have HWA := Lib.hid hWA
  clear hva hB hX hE hl hWA
  by_cases h1 : pl < 0
  · go_enter Tryd.func11, Tryd.ntmps11
    go_wp2_with fail
    go_ret
    exact ⟨by show Ending.returned (.int .i64 2) = _; rw [HVA.out]; unfold vaE; rw [if_pos (.inl h1)], by rw [← HWA.out]; exact HB.out⟩
  · by_cases h2 : 60 < pl
    · go_enter Tryd.func11, Tryd.ntmps11
      go_wp2_with fail
      go_ret
      exact ⟨by show Ending.returned (.int .i64 2) = _; rw [HVA.out]; unfold vaE; rw [if_pos (.inr h2)], by rw [← HWA.out]; exact HB.out⟩
    · have w1 : IntKind.i64.wrap (3 * pl) = 3 * pl := by rw [IntWalk.i64_left]; unfold wrap64; omega
      have w2 : IntKind.i64.wrap (3 * pl - 2) = 3 * pl - 2 := by rw [IntWalk.i64_left]; unfold wrap64; omega
      have H12 := Lib.hid (show ¬ (pl < 0 ∨ 60 < pl) by omega)
      by_cases h3 : max 0 (3 * pl - 2) < (E.length : Int)
      · have H3 := Lib.hid h3
        generalize hmm : max 0 (3 * pl - 2) = mx at *
        have HMM := Lib.hid hmm
        go_enter Tryd.func11, Tryd.ntmps11
        go_wp2_with fail
        go_ret
        exact ⟨by show Ending.returned (.int .i64 4) = _; rw [HVA.out]; unfold vaE; rw [if_neg H12.out, if_pos (by have := H3.out; rw [HMM.out]; omega)], by rw [← HWA.out]; exact HB.out⟩
      · have H3 := Lib.hid h3
        generalize hmm : max 0 (3 * pl - 2) = mx at *
        have HMM := Lib.hid hmm
        go_enter Tryd.func11, Tryd.ntmps11
        go_wp2_with fail
        rw [← HWA.out]
        go_loopw [5, 6] (fun e i wr => ∃ k : Nat, k ≤ E.length ∧ i = .int .i64 (k : Int) ∧ e = .int .i64 (pvE E k) ∧ wr = WA ∧ Hid (∀ i, i < k → pvE E i ≤ E.getD i 0)) (fun _ i _ => E.length - (intOf i).toNat)
        case atStart => exact ⟨0, Nat.zero_le _, rfl, rfl, rfl, fun i hi => by omega⟩
        case round =>
          obtain ⟨k, hk, rfl, rfl, rfl, hA⟩ := hrel
          obtain ⟨x0, x1, x2⟩ : wr.cell? ⟨W.heap.size, 0, none⟩ = some (.int .i64 pl) ∧ wr.cell? ⟨W.heap.size, 1, none⟩ = some (.slice se E.length me) ∧ wr.cell? ⟨W.heap.size, 2, none⟩ = some (.slice sd d md) := ⟨HX.out.cell 0, HX.out.cell 1, HX.out.cell 2⟩
          by_cases hlt : k < E.length
          · obtain ⟨b, off, rfl, hr⟩ := HE.out.resolve_left (fun h => by rw [h] at hlt; simp at hlt)
            have c0 := hr k hlt
            have hgd := getD_i E k hlt
            have hsc := pvE_succ E k hlt
            obtain ⟨x, hx⟩ : ∃ x, x = E[k] := ⟨_, rfl⟩
            rw [← hx] at c0 hgd hsc
            obtain ⟨p, hp⟩ : ∃ p, p = pvE E k := ⟨_, rfl⟩
            rw [← hp]
            have HP := Lib.hid hp
            have HGD := Lib.hid hgd
            have HSC := Lib.hid hsc
            have HLT := Lib.hid hlt
            have wk : IntKind.i64.wrap ((k : Int) + 1) = ((k + 1 : Nat) : Int) := by have := HL.out; rw [IntWalk.i64_left]; unfold wrap64; omega
            clear hx hp hgd hsc hr hk
            by_cases hc : x < p
            · go_wp2_with fail
              go_ret
              refine ⟨?_, HB.out⟩
              show Ending.returned (.int .i64 4) = _
              rw [HVA.out]
              unfold vaE
              have hb : ascB E = false := by
                cases hb : ascB E with
                | false => rfl
                | true =>
                  exfalso
                  have := (asc_iff E).1 hb k HLT.out
                  rw [HGD.out, ← HP.out] at this
                  omega
              rw [if_neg H12.out, if_neg (by have := H3.out; rw [HMM.out]; omega), if_pos hb]
            · have HC := Lib.hid hc
              go_wp2_with fail
              go_roundw
              case rel => exact ⟨k + 1, HLT.out, by go_num, by rw [HSC.out], (by first | trivial | rfl), fun i hi => by
                rcases Nat.lt_or_ge i k with h | h
                · exact hA.out i h
                · obtain rfl : i = k := by omega
                  rw [HGD.out, ← HP.out]; have := HC.out; omega⟩
              case measure => have := HLT.out; simp [intOf]; omega
          · obtain rfl : k = E.length := by omega
            have HAS := Lib.hid ((asc_iff E).2 hA.out)
            obtain ⟨p, hp⟩ : ∃ p, p = pvE E E.length := ⟨_, rfl⟩
            rw [← hp]
            have HP := Lib.hid hp
            clear hp hk hA hlt
            by_cases hd : p = (d : Int)
            · by_cases hb : (65535 : Int) < (d : Int)
              · have HD := Lib.hid hd
                have HBG := Lib.hid hb
                subst hd
                go_wp2_with fail
                go_ret
                refine ⟨?_, HB.out⟩
                show Ending.returned (.int .i64 5) = _
                rw [HVA.out]
                unfold vaE
                rw [if_neg H12.out, if_neg (by have := H3.out; rw [HMM.out]; omega), if_neg (by rw [HAS.out]; simp), if_neg (by rw [← HP.out]; simp), if_pos (by have := HBG.out; omega)]
              · have HBG := Lib.hid hb
                subst hd
                go_wp2_with fail
                go_ret
                refine ⟨?_, HB.out⟩
                show Ending.returned (.int .i64 0) = _
                rw [HVA.out]
                unfold vaE
                rw [if_neg H12.out, if_neg (by have := H3.out; rw [HMM.out]; omega), if_neg (by rw [HAS.out]; simp), if_neg (by rw [← HP.out]; simp), if_neg (by have := HBG.out; omega)]
            · have HD := Lib.hid hd
              go_wp2_with fail
              go_ret
              refine ⟨?_, HB.out⟩
              show Ending.returned (.int .i64 4) = _
              rw [HVA.out]
              unfold vaE
              rw [if_neg H12.out, if_neg (by have := H3.out; rw [HMM.out]; omega), if_neg (by rw [HAS.out]; simp), if_pos (by rw [← HP.out]; exact HD.out)]
set_option maxHeartbeats 4000000 in
theorem samec_t (W : World) (a b : Value) (pl : Int) (E D : List Int) (ha : CvAt W a pl E D) (hb : CvAt W b pl E D) (hl : E.length ≤ 1000000000) (hd : D.length ≤ 1000000000) : Calls Tryd.prog 14 #[a, b] W fun e w' => e = .returned (.bool true) ∧ Below W.heap.size W w' := by
  obtain ⟨se, me, sd, md9, rfl, hE, hD, _⟩ := ha
  obtain ⟨te, ne, td, nd, rfl, hE2, hD2, _⟩ := hb
  obtain ⟨WA, hWA⟩ : ∃ x, x = (W.alloc (.cells #[.int .i64 pl, .slice se E.length me, .slice sd D.length md9] 25)).alloc (.cells #[.int .i64 pl, .slice te E.length ne, .slice td D.length nd] 25) := ⟨_, rfl⟩
  have hB : Below W.heap.size W WA := by rw [hWA]; exact below_alloc (below_alloc (Below.refl _ W) _) _
  have hX : Blk WA W.heap.size 25 #[.int .i64 pl, .slice se E.length me, .slice sd D.length md9] := by rw [hWA]; exact (Blk.new W _ _).alloc _
  have hY : Blk WA (W.heap.size + 1) 25 #[.int .i64 pl, .slice te E.length ne, .slice td D.length nd] := by
    have := Blk.new (W.alloc (.cells #[.int .i64 pl, .slice se E.length me, .slice sd D.length md9] 25)) 25 #[.int .i64 pl, .slice te E.length ne, .slice td D.length nd]
    rw [hWA]; simpa using this
  have HB := Lib.hid hB
  have HX := Lib.hid hX
  have HY := Lib.hid hY
  have HE := Lib.hid (hE.below hB (Nat.le_refl _))
  have HE2 := Lib.hid (hE2.below hB (Nat.le_refl _))
  have HD := Lib.hid (hD.call hB)
  have HD2 := Lib.hid (hD2.call hB)
  have HL := Lib.hid hl
  have HLD := Lib.hid hd
  have HWA := Lib.hid hWA
  clear hB hX hY hE hE2 hD hD2 hl hd hWA
  go_enter Tryd.func14, Tryd.ntmps14
  go_wp2_with fail
  rw [← HWA.out]
  go_loopw [5] (fun i wr => ∃ k : Nat, k ≤ E.length ∧ i = .int .i64 (k : Int) ∧ Hid (Below WA.heap.size WA wr)) (fun i _ => E.length - (intOf i).toNat)
  case atStart => exact ⟨0, Nat.zero_le _, rfl, Below.refl _ _⟩
  case round =>
    obtain ⟨k, hk, rfl, hw⟩ := hrel
    have x0 : wr.cell? ⟨W.heap.size, 0, none⟩ = some (.int .i64 pl) := (HX.out.below hw.out).cell 0
    have x1 : wr.cell? ⟨W.heap.size, 1, none⟩ = some (.slice se E.length me) := (HX.out.below hw.out).cell 1
    have x2 : wr.cell? ⟨W.heap.size, 2, none⟩ = some (.slice sd D.length md9) := (HX.out.below hw.out).cell 2
    have y1 : wr.cell? ⟨W.heap.size + 1, 1, none⟩ = some (.slice te E.length ne) := (HY.out.below hw.out).cell 1
    have y2 : wr.cell? ⟨W.heap.size + 1, 2, none⟩ = some (.slice td D.length nd) := (HY.out.below hw.out).cell 2
    by_cases hlt : k < E.length
    · obtain ⟨b1, o1, rfl, c0⟩ := ((HE.out.below hw.out (Nat.le_refl _))).at hlt
      obtain ⟨b2, o2, rfl, c1⟩ := ((HE2.out.below hw.out (Nat.le_refl _))).at hlt
      generalize E.getD k 0 = x at *
      have wk : IntKind.i64.wrap ((k : Int) + 1) = ((k + 1 : Nat) : Int) := by have := HL.out; rw [IntWalk.i64_left]; unfold wrap64; omega
      have hi : (0 : Int) ≤ (k : Int) := by omega
      have hi2 : (k : Int) < (E.length : Int) := by omega
      have HLT := Lib.hid hlt
      have HW2 := Lib.hid (hw.out.drew)
      go_wp2_with fail
      go_region
      go_wp2_with fail
      go_roundw
      case rel => exact ⟨k + 1, HLT.out, by go_num, HW2⟩
      case measure => have := HLT.out; simp [intOf]; omega
    · obtain rfl : k = E.length := by omega
      go_wp2_with fail
      obtain ⟨W0, rfl⟩ : ∃ z, z = wr := ⟨_, rfl⟩
      clear x0 x1 x2 y1 y2 hk hlt
      go_loopw [6] (fun i wr => ∃ k : Nat, k ≤ D.length ∧ i = .int .i64 (k : Int) ∧ Hid (Below WA.heap.size WA wr)) (fun i _ => D.length - (intOf i).toNat)
      case atStart => exact ⟨0, Nat.zero_le _, rfl, hw⟩
      case round =>
        obtain ⟨k, hk, rfl, hw⟩ := hrel
        have x1 : wr.cell? ⟨W.heap.size, 1, none⟩ = some (.slice se E.length me) := (HX.out.below hw.out).cell 1
        have x2 : wr.cell? ⟨W.heap.size, 2, none⟩ = some (.slice sd D.length md9) := (HX.out.below hw.out).cell 2
        have y2 : wr.cell? ⟨W.heap.size + 1, 2, none⟩ = some (.slice td D.length nd) := (HY.out.below hw.out).cell 2
        by_cases hlt : k < D.length
        · obtain ⟨b1, o1, rfl, c0⟩ := (HD.out.call hw.out).at hlt
          obtain ⟨b2, o2, rfl, c1⟩ := (HD2.out.call hw.out).at hlt
          generalize D.getD k 0 = x at *
          have wk : IntKind.i64.wrap ((k : Int) + 1) = ((k + 1 : Nat) : Int) := by have := HLD.out; rw [IntWalk.i64_left]; unfold wrap64; omega
          have hi : (0 : Int) ≤ (k : Int) := by omega
          have hi2 : (k : Int) < (D.length : Int) := by omega
          have HLT := Lib.hid hlt
          have HW2 := Lib.hid (hw.out.drew)
          go_wp2_with fail
          go_region
          go_wp2_with fail
          go_roundw
          case rel => exact ⟨k + 1, HLT.out, by go_num, HW2⟩
          case measure => have := HLT.out; simp [intOf]; omega
        · obtain rfl : k = D.length := by omega
          go_wp2_with fail
          go_ret
          exact ⟨rfl, below_call HB.out hw.out⟩
end Go.Proofs.YtklchodbnjebnaaDoor
set_option maxRecDepth 100000
namespace Go.Proofs.YtklchodbnjebnaaDoor
open Go.RowKit

theorem pv_app (E es : List Int) {k : Nat} (hk : k ≤ E.length) : pvE (E ++ es) k = pvE E k := by
  unfold pvE
  by_cases h : k = 0
  · rw [if_pos h, if_pos h]
  · rw [if_neg h, if_neg h, List.getD_eq_getElem?_getD, List.getD_eq_getElem?_getD, List.getElem?_append_left (by omega)]
theorem pv_app2 (E es : List Int) {j : Nat} (hj : j < es.length) : pvE (E ++ es) (E.length + (j + 1)) = es[j] := by
  unfold pvE
  rw [if_neg (by omega), List.getD_eq_getElem?_getD, List.getElem?_append_right (by omega)]
  rw [show E.length + (j + 1) - 1 - E.length = j by omega, List.getElem?_eq_getElem hj]
  rfl
theorem asc_app {E es : List Int} (h : ascB E = true) (h0 : ∀ (hl : 0 < es.length), pvE E E.length ≤ es[0]) (hs : ∀ j (hj : j + 1 < es.length), es[j] ≤ es[j + 1]) : ascB (E ++ es) = true := by
  rw [asc_iff] at h ⊢
  intro i hi
  rw [List.length_append] at hi
  by_cases h1 : i < E.length
  · rw [pv_app E es (by omega), List.getD_eq_getElem?_getD, List.getElem?_append_left h1, ← List.getD_eq_getElem?_getD]
    exact h i h1
  · obtain ⟨j, rfl⟩ : ∃ j, i = E.length + j := ⟨i - E.length, by omega⟩
    have hj : j < es.length := by omega
    rw [List.getD_eq_getElem?_getD, List.getElem?_append_right (by omega), show E.length + j - E.length = j by omega, List.getElem?_eq_getElem hj]
    cases j with
    | zero => rw [Nat.add_zero, pv_app E es (Nat.le_refl _)]; exact h0 hj
    | succ j => rw [pv_app2 E es (by omega)]; exact hs j hj
theorem run_grow {n : Nat} (L : List Sy) : ∀ x : Am.X, Am.OkX x → x.1.length = n → (∀ y ∈ L, Am.sym n y) → ((x.2.rg ≠ 4294967295 ∨ L ≠ []) → (Am.run x L).2.rg ≠ 4294967295) := by
  induction L with
  | nil => intro x _ _ _ h; exact h.elim id fun h => absurd rfl h
  | cons y L ih =>
    intro x hx hn hs _
    have hy := hs y (by simp)
    have h1 := Am.step_ok (y := y) hx hy.1 (by rw [hn]; exact hy.2.1)
    exact ih (Am.step x y) h1 ((Am.step_len _ _).trans hn) (fun z hz => hs z (by simp [hz])) (.inl (Am.enc_ne y.2 hx.st (Am.pr_prob hx hy.1 (by rw [hn]; exact hy.2.1))))
/-- The coder is as it begins, or something has been coded. -/
structure Bg (n : Nat) (x : Am.X) : Prop where
  ok : Am.OkX x
  len : x.1.length = n
  bg : x.2.rg = 4294967295 → x.2 = Am.St.init
theorem Bg.step {n : Nat} {x : Am.X} (h : Bg n x) (r : Bool) {L : List Sy} (hL : ∀ y ∈ L, Am.sym n y) : Bg n (eP r x L) ∧ szE x ≤ szE (eP r x L) := by
  have hr := rst_ok r h.ok
  have hl := (rst_len r x).trans h.len
  have hg := run_grow L _ hr hl hL
  rw [rst_st] at hg
  have hn := eP_n r h.ok h.len hL
  refine ⟨⟨eP_ok r h.ok h.len hL, (eP_len _ _ _).trans h.len, fun e => ?_⟩, ?_⟩
  · by_cases hL0 : L = []
    · subst hL0
      have e2 : (eP r x []).2 = x.2 := rst_st r x
      rw [e2] at e ⊢
      exact h.bg e
    · exact absurd e (hg (.inr hL0))
  · unfold szE szF
    by_cases h1 : x.2.rg = 4294967295
    · rw [if_pos h1]; split <;> omega
    · have h2 : (eP r x L).2.rg ≠ 4294967295 := hg (.inl h1)
      rw [if_neg h1, if_neg h2]
      omega
theorem Bg.all {n : Nat} (r : Bool) (Ls : List (List Sy)) : ∀ {x : Am.X}, Bg n x → (∀ L ∈ Ls, ∀ y ∈ L, Am.sym n y) → Bg n (Ls.foldl (eP r) x) := by
  induction Ls with
  | nil => intro x h _; exact h
  | cons L Ls ih => intro x h hL; exact ih (h.step r (hL L (by simp))).1 fun M hM => hL M (by simp [hM])
theorem cw_init : Am.cw Am.St.init = [] := by decide +kernel
theorem Bg.cwl {n : Nat} {x : Am.X} (h : Bg n x) : ((Am.cw x.2).length : Int) ≤ szE x := by
  unfold szE szF
  by_cases h1 : x.2.rg = 4294967295
  · rw [if_pos h1, h.bg h1, cw_init]; decide
  · rw [if_neg h1]; have := Am.cw_len x.2; omega
section
variable {τ : Type}
/-- Sizes grow. -/
theorem zW_grow (ps : τ → List Sy → τ) (sz : τ → Int) (t : τ) (Ls : List (List Sy)) (h : ∀ j (hj : j < Ls.length), sz ((Ls.take j).foldl ps t) ≤ sz (ps ((Ls.take j).foldl ps t) Ls[j])) : ∀ j (hj : j + 1 < (zW ps sz t Ls).length), (zW ps sz t Ls)[j] ≤ (zW ps sz t Ls)[j + 1] := by
  intro j hj
  have hl := hj
  rw [zW_len] at hl
  rw [zW_at, zW_at, foldl_s ps t (k := j + 1) (by omega)]
  exact h (j + 1) (by omega)
end
/-- Sizes of a segment: they grow, the last is enough for its bytes. -/
theorem cdZ_grow {m : Mo} {c : Cd} {Ls : List (List Sy)} (hx : Am.OkX (c.P, Am.St.init)) (hP : c.P.length = 19) (hs : ∀ L ∈ Ls, ∀ y ∈ L, (y.2 = 0 ∨ y.2 = 1) ∧ (rawM (c.k : Int) m.b = false → Am.sym 19 y)) :
    (∀ j (hj : j + 1 < (cdZ m c Ls).length), (cdZ m c Ls)[j] ≤ (cdZ m c Ls)[j + 1]) ∧ (∀ j (hj : j < (cdZ m c Ls).length), j + 1 = Ls.length → ((cdB m c Ls).length : Int) ≤ (cdZ m c Ls)[j]) := by
  by_cases hr : rawM (c.k : Int) m.b = true
  · have e1 : cdZ m c Ls = zW rP szR [] Ls := by unfold cdZ; rw [if_pos hr]
    have e2 : cdB m c Ls = Pk.seg (Ls.foldl rP []) := by unfold cdB; rw [if_pos hr]
    rw [e2]
    have g1 := zW_grow rP szR [] Ls (fun j hj => by unfold szR rP Pk.nb; rw [List.length_append]; omega)
    have g2 : ∀ j (hj : j < (zW rP szR [] Ls).length), j + 1 = Ls.length → ((Pk.seg (Ls.foldl rP [])).length : Int) ≤ (zW rP szR [] Ls)[j] := fun j hj h => by
      rw [zW_at, h, List.take_length]
      have := Pk.seg_len (Ls.foldl rP [])
      unfold szR; omega
    exact ⟨fun j hj => by simp only [e1] at hj ⊢; exact g1 j hj, fun j hj h => by simp only [e1] at hj ⊢; exact g2 j hj h⟩
  · have hr' : rawM (c.k : Int) m.b = false := by simpa using hr
    have e1 : cdZ m c Ls = zW (eP m.s) szE (c.P, Am.St.init) Ls := by unfold cdZ; rw [if_neg hr]
    have e2 : cdB m c Ls = Am.cw (Ls.foldl (eP m.s) (c.P, Am.St.init)).2 := by unfold cdB; rw [if_neg hr]
    rw [e2]
    have h0 : Bg 19 (c.P, Am.St.init) := ⟨hx, hP, fun _ => rfl⟩
    have hs' : ∀ L ∈ Ls, ∀ y ∈ L, Am.sym 19 y := fun L hL y hy => (hs L hL y hy).2 hr'
    have g1 := zW_grow (eP m.s) szE (c.P, Am.St.init) Ls (fun j hj => ((h0.all m.s (Ls.take j) fun L hL => hs' L (List.mem_of_mem_take hL)).step m.s (hs' _ (List.getElem_mem hj))).2)
    have g2 : ∀ j (hj : j < (zW (eP m.s) szE (c.P, Am.St.init) Ls).length), j + 1 = Ls.length → ((Am.cw (Ls.foldl (eP m.s) (c.P, Am.St.init)).2).length : Int) ≤ (zW (eP m.s) szE (c.P, Am.St.init) Ls)[j] := fun j hj h => by
      rw [zW_at, h, List.take_length]
      exact (h0.all m.s Ls hs').cwl
    exact ⟨fun j hj => by simp only [e1] at hj ⊢; exact g1 j hj, fun j hj h => by simp only [e1] at hj ⊢; exact g2 j hj h⟩
theorem cdP_ok {m : Mo} {c : Cd} {Ls : List (List Sy)} (hx : Am.OkX (c.P, Am.St.init)) (hP : c.P.length = 19) (hs : ∀ L ∈ Ls, ∀ y ∈ L, (y.2 = 0 ∨ y.2 = 1) ∧ (rawM (c.k : Int) m.b = false → Am.sym 19 y)) : Am.OkX (cdP m c Ls, Am.St.init) ∧ (cdP m c Ls).length = 19 := by
  unfold cdP
  by_cases hr : rawM (c.k : Int) m.b = true
  · rw [if_pos hr]; exact ⟨hx, hP⟩
  · rw [if_neg hr]
    have h0 : Bg 19 (c.P, Am.St.init) := ⟨hx, hP, fun _ => rfl⟩
    have h1 := h0.all m.s Ls fun L hL y hy => (hs L hL y hy).2 (by simpa using hr)
    exact ⟨⟨h1.ok.ps, Am.ok_init⟩, h1.len⟩
/-- Valid so far. -/
structure Vk (c : Cd) : Prop where
  ok : Am.OkX (c.P, Am.St.init)
  len : c.P.length = 19
  asc : ascB c.E = true
  last : pvE c.E c.E.length = (c.D.length : Int)
theorem vk_zero : Vk cd0 := ⟨⟨(x0_ok 19).ps, Am.ok_init⟩, by decide, rfl, rfl⟩
theorem Vk.next {m : Mo} {A : List (List Sy)} {c : Cd} {n : Nat} (h : Vk c) (hn : 1 ≤ n) (hA : c.k + n ≤ A.length) (hs : ∀ L ∈ cut9 A c.k n, ∀ y ∈ L, (y.2 = 0 ∨ y.2 = 1) ∧ (rawM (c.k : Int) m.b = false → Am.sym 19 y)) : Vk (cdN m A c n) := by
  obtain ⟨g1, g2⟩ := cdZ_grow h.ok h.len hs
  obtain ⟨p1, p2⟩ := cdP_ok h.ok h.len hs
  have hl : (cut9 A c.k n).length = n := cut9_len A c.k n hA
  have hel : (cdE m c (cut9 A c.k n)).length = n := by rw [cdE_len, hl]
  have hzl : (cdZ m c (cut9 A c.k n)).length = n := by rw [cdZ_len, hl]
  have heq : ∀ j (hj : j < (cdE m c (cut9 A c.k n)).length), (cdE m c (cut9 A c.k n))[j] = (c.D.length : Int) + min ((cdZ m c (cut9 A c.k n))[j]'(by omega)) ((cdB m c (cut9 A c.k n)).length : Int) := fun j hj => List.getElem_map (fun z => (c.D.length : Int) + min z ((cdB m c (cut9 A c.k n)).length : Int))
  have hzn := cdZ_nn m c (cut9 A c.k n)
  have hasc : ascB (c.E ++ cdE m c (cut9 A c.k n)) = true := by
    refine asc_app h.asc (fun h0 => ?_) (fun j hj => ?_)
    · rw [h.last, heq]
      have := hzn _ (List.getElem_mem (l := cdZ m c (cut9 A c.k n)) (n := 0) (by omega))
      omega
    · rw [heq, heq]
      have := g1 j (by omega)
      omega
  refine ⟨p1, p2, hasc, ?_⟩
  · show pvE (c.E ++ cdE m c (cut9 A c.k n)) (c.E ++ cdE m c (cut9 A c.k n)).length = ((c.D ++ cdB m c (cut9 A c.k n)).length : Int)
    rw [List.length_append, hel]
    obtain ⟨k, rfl⟩ : ∃ k, n = k + 1 := ⟨n - 1, by omega⟩
    rw [pv_app2 c.E _ (j := k) (by omega), heq, List.length_append]
    have := g2 k (by omega) (by omega)
    omega
theorem vk_all {m : Mo} {A : List (List Sy)} (hA : A.length ≤ 178) (hs : SyOk m A) {ns : List Int} (e0 : ns = segC m.b m.r A.length) (i : Nat) (hi : i ≤ ns.length) : Vk (cdI m A ns i) := by
  have hp1 : ∀ x ∈ ns, 1 ≤ x := by rw [e0]; exact (segC_sum _ _ _).2
  have hsum : sumI ns = A.length := by rw [e0]; exact (segC_sum _ _ _).1
  induction i with
  | zero => exact vk_zero
  | succ i ih =>
    have hlt : i < ns.length := by omega
    rw [cdI_step m A hlt]
    have hst := atS_step hp1 hlt
    have hle := atS_le hp1 (i + 1)
    rw [hst.1, hsum] at hle
    have hk := cdI_k m A hp1 i (by omega)
    have hsy := hs.cut e0 hlt
    refine (ih (by omega)).next hst.2.1 (by rw [hk]; omega) ?_
    rw [hk]
    exact fun L hL y hy => (hsy L hL).2 y hy
theorem cdA_ok {m : Mo} {A : List (List Sy)} (hA : A.length ≤ 178) (hs : SyOk m A) : Vk (cdA m A) ∧ (cdA m A).E.length = A.length := by
  obtain ⟨ns, hns⟩ : ∃ x, x = segs A.length m.b m.r := ⟨_, rfl⟩
  have e0 : ns = segC m.b m.r A.length := by rw [hns, segs_is _ hA]
  have hp1 : ∀ x ∈ ns, 1 ≤ x := by rw [e0]; exact (segC_sum _ _ _).2
  have hsum : sumI ns = A.length := by rw [e0]; exact (segC_sum _ _ _).1
  have hcd : cdA m A = cdI m A ns ns.length := by rw [cdI_all, hns]; rfl
  rw [hcd]
  refine ⟨vk_all hA hs e0 _ (Nat.le_refl _), ?_⟩
  rw [cdI_E m A hp1 hsum _ (Nat.le_refl _), atS_all, hsum]
  omega
theorem pln60 {l : List Int} (hok : ∀ v ∈ l, okV v) : plnN l ≤ 60 := bit_le60 (mxN_lt l _ (by decide) fun v hv => by have := hok v hv; unfold okV at this; omega)
/-- The coded block is valid. -/
theorem enc_va {w h : Nat} {l : List Int} {o : Int} {m : Mo} (hw : w ≤ 64) (hwh : w * h ≤ 144) (hok : ∀ v ∈ l, okV v) (h65 : (encC w h l o m).D.length ≤ 65535) : vaE (plnN l) (encC w h l o m).E (encC w h l o m).D.length = 0 ∧ (encC w h l o m).E.length = 3 * plnN l - 2 ∧ (plnN l = 0 → (encC w h l o m).D = []) := by
  have hpl := pln60 hok
  have hl := encS_len w h l o m
  obtain ⟨h1, h2⟩ := cdA_ok (m := m) (A := encS w h l o m) (by omega) (symL_ok _ _ _ _ _ _ _ hw hwh)
  rw [hl] at h2
  have h3 : (encC w h l o m).E.length = 3 * plnN l - 2 := h2
  refine ⟨va_of (by omega) (by omega) (by omega) h1.asc h1.last h65, h3, fun h0 => ?_⟩
  have h4 := h1.last
  rw [h2, h0] at h4
  have h5 : ((cdA m (encS w h l o m)).D.length : Int) = 0 := h4.symm
  exact List.length_eq_zero_iff.1 (by show (cdA m (encS w h l o m)).D.length = 0; omega)
end Go.Proofs.YtklchodbnjebnaaDoor
