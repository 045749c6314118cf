/-
  restore of the reference of layer 5.
-/
import Derived.Test.YtnfnidgabgdphaaDwG
set_option maxRecDepth 100000
namespace Go.Proofs.Ytnfnidgabgdphaa
open Go.RowKit

/-- One list of slices of the call's own, as two of which the other is nothing. -/
theorem c2_one {w W : World} (h : Below w.heap.size w W) (N : Nat) (hN : N = W.heap.size) : C2 w (W.alloc (.cells #[] 28)) (.slice (some ⟨N, 0, none⟩) 0 0) (.slice none 0 0) [] [] [] [] := by
  subst hN
  refine ⟨below_alloc h _, ?_, World.ownsRow_nil _ _ _ _, fun g _ b => by simp [Value.ownBlock] at b, ⟨rfl, fun k a => absurd a (Nat.not_lt_zero _)⟩, ⟨rfl, fun k a => absurd a (Nat.not_lt_zero _)⟩⟩
  have hs := h.size
  exact ⟨rfl, .inr ⟨W.heap.size, 0, #[], rfl, hs, heap_alloc_new W _, Nat.zero_le _, Nat.zero_le _, rfl, by simp⟩⟩
theorem stride {y n x h : Nat} (hx : x < n) (hy : y ≤ h) : (y * n + x < h * n ↔ y < h) ∧ (y + 1) * n + x = y * n + x + n := by
  refine ⟨⟨fun h1 => ?_, fun h1 => ?_⟩, by rw [Nat.add_mul, Nat.one_mul]; omega⟩
  · refine Classical.byContradiction fun h2 => ?_
    obtain rfl : y = h := by omega
    omega
  · have : (y + 1) * n ≤ h * n := Nat.mul_le_mul_right _ h1
    rw [Nat.add_mul, Nat.one_mul] at this
    omega
/-- The place of the next number of a column. -/
theorem stride_w {p n : Nat} (hp : p ≤ 16781312) (hn : n ≤ 4096) : IntKind.i64.wrap ((p : Int) + (n : Int)) = ((p + n : Nat) : Int) := by rw [IntWalk.i64_in _ (by omega)]; omega
def colA (A : List (List Int)) (x : Nat) : List Int := A.map fun r => r.getD x 0
theorem col_get {A : List (List Int)} {n x y : Nat} (hA : Ex.Wide n A) (hx : x < n) (hy : y < A.length) : ∃ (h1 : y * n + x < A.flatten.length) (h2 : y < (colA A x).length), A.flatten[y * n + x] = (colA A x)[y] := by
  obtain ⟨h1, h2⟩ := List.getElem?_eq_some_iff.1 (Ex.flat_get hA hy hx)
  exact ⟨h1, by simp [colA]; exact hy, by rw [h2]; simp [colA]⟩
theorem col_within {A : List (List Int)} {n x : Nat} {b : Int} (hA : Ex.Wide n A) (hx : x < n) (hw : Ex.within b A.flatten) : Ex.within b (colA A x) := fun v hv => by
  obtain ⟨y, hy, rfl⟩ := List.getElem_of_mem hv
  obtain ⟨h1, _, h3⟩ := col_get hA hx (by simpa [colA] using hy)
  rw [← h3]
  exact hw _ (List.getElem_mem h1)
theorem inv_n (e o : List Int) (st kn : Int) (s t : Option Addr) (m m' a b : Nat) (w : World) (ha : a = e.length) (hb : b = o.length) (hk : kB kn = true) (hh : jnB st e.length o.length = true) (hf1 : Ex.within 281474976710656 e) (hf2 : Ex.within 281474976710656 o) (hc : jcB st e.length o.length = true) (hE : HoldsI w s e) (hO : HoldsI w t o) : Calls Try.prog 83 #[.slice s a m, .slice t b m', .int .i64 st, .int .i64 kn] w (GivesE (Ex.unF st kn e o) 0 w) := by
  subst ha hb
  exact inv_yes e o st kn s t m m' w hk hh (few_iff.2 (within_mono hf1 (by decide))) (few_iff.2 (within_mono hf2 (by decide))) hc hE hO
set_option maxRecDepth 100000 in
set_option maxHeartbeats 4000000 in
theorem rest_r (A B : List (List Int)) (n : Nat) (rA rB : Pl.R) (st kn : Int) (s t : Option Addr) (m m' NA NB : Nat) (w : World) (hNA : NA = A.flatten.length) (hNB : NB = B.flatten.length) (hA : Ex.Wide n A) (hB : Ex.Wide n B) (hw0 : IntKind.i64.wrap (rA.x1 - rA.x0) = (n : Int)) (hn : n ≤ 4096) (hj : jnB st A.length B.length = true) (hc : jcB st A.length B.length = true) (hk : kB kn = true)
    (wA : Ex.within 281474976710656 A.flatten) (wB : Ex.within 281474976710656 B.flatten) (hHA : HoldsI w s A.flatten) (hHB : HoldsI w t B.flatten) :
    Calls Try.prog 82 #[.agg #[.int .i64 rA.x0, .int .i64 rA.y0, .int .i64 rA.x1, .int .i64 rA.y1, .slice s NA m], .agg #[.int .i64 rB.x0, .int .i64 rB.y0, .int .i64 rB.x1, .int .i64 rB.y1, .slice t NB m'], .int .i64 st, .int .i64 kn] w fun e w' => ∃ v, e = .returned v ∧ Gl w v (Ex.unC st kn n A B).flatten w' := by
  obtain ⟨i0, hi, hz0, hz1, hz2⟩ := info_parts infoI
  obtain ⟨i1, gi, gz0, gz1, gz2⟩ := info_parts infoS
  obtain ⟨j1, j2, j3⟩ := jn_iff.1 hj
  have hlA : NA = A.length * n := by rw [hNA]; exact Ex.flat_len hA
  have hlB : NB = B.length * n := by rw [hNB]; exact Ex.flat_len hB
  have HNA : Hid (NA = A.flatten.length ∧ NA = A.length * n) := ⟨hNA, hlA⟩
  have HNB : Hid (NB = B.flatten.length ∧ NB = B.length * n) := ⟨hNB, hlB⟩
  clear hNA hNB hlA hlB
  have x0 := ((Blk.fresh w 30 #[.int .i64 rA.x0, .int .i64 rA.y0, .int .i64 rA.x1, .int .i64 rA.y1, .slice s NA m]).alloc (.cells #[.int .i64 rB.x0, .int .i64 rB.y0, .int .i64 rB.x1, .int .i64 rB.y1, .slice t NB m'] 30)).alloc (.cells #[] 28)
  have x1 := (Blk.freshAt (w.alloc (.cells #[.int .i64 rA.x0, .int .i64 rA.y0, .int .i64 rA.x1, .int .i64 rA.y1, .slice s NA m] 30)) (w.heap.size + 1) (by simp) 30 #[.int .i64 rB.x0, .int .i64 rB.y0, .int .i64 rB.x1, .int .i64 rB.y1, .slice t NB m']).alloc (.cells #[] 28)
  have BW := below_alloc (below_alloc (Below.refl _ w) (.cells #[.int .i64 rA.x0, .int .i64 rA.y0, .int .i64 rA.x1, .int .i64 rA.y1, .slice s NA m] 30)) (.cells #[.int .i64 rB.x0, .int .i64 rB.y0, .int .i64 rB.x1, .int .i64 rB.y1, .slice t NB m'] 30)
  go_enter Try.func82, Try.ntmps82
  go_wp2_with fail
  have HSZ : Hid ((((w.alloc (.cells #[.int .i64 rA.x0, .int .i64 rA.y0, .int .i64 rA.x1, .int .i64 rA.y1, .slice s NA m] 30)).alloc (.cells #[.int .i64 rB.x0, .int .i64 rB.y0, .int .i64 rB.x1, .int .i64 rB.y1, .slice t NB m'] 30))).heap.size = w.heap.size + 1 + 1) := by show (((w.alloc (.cells #[.int .i64 rA.x0, .int .i64 rA.y0, .int .i64 rA.x1, .int .i64 rA.y1, .slice s NA m] 30)).alloc (.cells #[.int .i64 rB.x0, .int .i64 rB.y0, .int .i64 rB.x1, .int .i64 rB.y1, .slice t NB m'] 30))).heap.size = _; simp
  have c0 := c2_one (w := ((w.alloc (.cells #[.int .i64 rA.x0, .int .i64 rA.y0, .int .i64 rA.x1, .int .i64 rA.y1, .slice s NA m] 30)).alloc (.cells #[.int .i64 rB.x0, .int .i64 rB.y0, .int .i64 rB.x1, .int .i64 rB.y1, .slice t NB m'] 30))) (W := ((w.alloc (.cells #[.int .i64 rA.x0, .int .i64 rA.y0, .int .i64 rA.x1, .int .i64 rA.y1, .slice s NA m] 30)).alloc (.cells #[.int .i64 rB.x0, .int .i64 rB.y0, .int .i64 rB.x1, .int .i64 rB.y1, .slice t NB m'] 30))) (Below.refl _ _) (w.heap.size + 1 + 1) (by simp)
  replace hHA := (hHA.alloc (.cells #[.int .i64 rA.x0, .int .i64 rA.y0, .int .i64 rA.x1, .int .i64 rA.y1, .slice s NA m] 30)).alloc (.cells #[.int .i64 rB.x0, .int .i64 rB.y0, .int .i64 rB.x1, .int .i64 rB.y1, .slice t NB m'] 30)
  replace hHB := (hHB.alloc (.cells #[.int .i64 rA.x0, .int .i64 rA.y0, .int .i64 rA.x1, .int .i64 rA.y1, .slice s NA m] 30)).alloc (.cells #[.int .i64 rB.x0, .int .i64 rB.y0, .int .i64 rB.x1, .int .i64 rB.y1, .slice t NB m'] 30)
  have x0' := (Blk.fresh w 30 #[.int .i64 rA.x0, .int .i64 rA.y0, .int .i64 rA.x1, .int .i64 rA.y1, .slice s NA m]).alloc (.cells #[.int .i64 rB.x0, .int .i64 rB.y0, .int .i64 rB.x1, .int .i64 rB.y1, .slice t NB m'] 30)
  have x1' := Blk.freshAt (w.alloc (.cells #[.int .i64 rA.x0, .int .i64 rA.y0, .int .i64 rA.x1, .int .i64 rA.y1, .slice s NA m] 30)) (w.heap.size + 1) (by simp) 30 #[.int .i64 rB.x0, .int .i64 rB.y0, .int .i64 rB.x1, .int .i64 rB.y1, .slice t NB m']
  clear x0 x1
  obtain ⟨Z, hZ⟩ : ∃ Z, Z = List.zipWith (Ex.unF st kn) (Ex.trn n A) (Ex.trn n B) := ⟨_, rfl⟩
  have hZl : Z.length = n := by rw [hZ]; simp [Ex.trn_len]
  have hZg : ∀ x (hx : x < Z.length), Z[x] = Ex.unF st kn (colA A x) (colA B x) := by
    intro x hx
    subst hZ
    simp [Ex.trn, colA]
  have HZ : Hid _ := hZ
  have HZl : Hid _ := hZl
  clear hZ hZl
  go_loopw [10, 11, 12, 13, 14, 15, 16, 17] (fun v i _ _ _ _ _ _ wr => ∃ (x : Nat) (z : Value) (u : List Value) (c : List (List Int)), x ≤ n ∧ i = .int .i64 x ∧ z = v ∧ c = Z.take x ∧ C2 (((w.alloc (.cells #[.int .i64 rA.x0, .int .i64 rA.y0, .int .i64 rA.x1, .int .i64 rA.y1, .slice s NA m] 30)).alloc (.cells #[.int .i64 rB.x0, .int .i64 rB.y0, .int .i64 rB.x1, .int .i64 rB.y1, .slice t NB m'] 30))) wr z (.slice none 0 0) u [] c []) (fun _ i _ _ _ _ _ _ _ => n - (intOf i).toNat)
  case atStart => exact ⟨0, _, [], [], Nat.zero_le _, rfl, rfl, by simp, c0⟩
  case round =>
    obtain ⟨W0, rfl⟩ : ∃ W0, W0 = wr := ⟨_, rfl⟩
    obtain ⟨x, z, u, c, hx, rfl, rfl, hcz, hG⟩ := hrel
    clear c0
    by_cases hlt : x < n
    · have hxi : (x : Int) < (n : Int) := by omega
      have w1 : IntKind.i64.wrap ((x : Int) + 1) = (x : Int) + 1 := IntWalk.i64_in _ (by omega)
      have hxZ : x < Z.length := by rw [HZl.out]; exact hlt
      have hnx := List.take_succ_eq_append_getElem hxZ
      rw [hZg x hxZ, ← hcz] at hnx
      have hul : u.length ≤ 4096 := by rw [hG.e1.1, hcz, List.length_take]; omega
      have HN : Hid _ := hnx
      clear hnx hcz hxZ
      have g0 := x0'.below hG.below
      have g1 := x1'.below hG.below
      have lA := hHA.below hG.below (Nat.le_refl _)
      have lB := hHB.below hG.below (Nat.le_refl _)
      have ga := g2_start (Below.refl W0.heap.size W0)
      go_wp2_with fail
      go_loopw [12, 14] (fun v i wr => ∃ (y p : Nat) (o : List Int) (q : Value), y ≤ A.length ∧ p = y * n + x ∧ i = .int .i64 p ∧ o = (colA A x).take y ∧ q = v ∧ G2 W0 q o (.slice (some ⟨W0.heap.size + 1, 0, none⟩) 0 0) [] wr) (fun _ i _ => NA - (intOf i).toNat)
      case atStart => exact ⟨0, x, [], _, Nat.zero_le _, by simp, rfl, by simp, rfl, ga⟩
      case round =>
        obtain ⟨y, p, o, q, hy, hp, rfl, hO, rfl, hQ⟩ := hrel
        clear ga
        have f0 := g0.below hQ.l1.below
        have y4 := f0.cell 4 _ rfl
        obtain ⟨st1, st2⟩ := stride (h := A.length) hlt hy
        rw [← hp, ← HNA.out.2] at st1
        by_cases hpl : p < NA
        · have hpi : (p : Int) < (NA : Int) := by omega
          have hyA := st1.1 hpl
          obtain ⟨k1, k2, k3⟩ := col_get hA hlt hyA
          rw [show y * n + x = p from hp.symm] at st2
          have hpb : p ≤ 16781312 := by have h1 := mul_4096 (show y ≤ 4096 by omega) hn; omega
          have w2 := stride_w hpb hn
          have htk := List.take_succ_eq_append_getElem k2
          have lAz := lA.below hQ.l1.below (Nat.le_refl _)
          rcases lAz with e0 | ⟨bb, off, rfl, hr⟩
          · rw [e0] at k1; exact absurd k1 (Nat.not_lt_zero _)
          have yv := hr _ k1
          rw [k3, ← hp] at yv
          have hol : o.length ≤ 4096 := by rw [hO, List.length_take]; omega
          have hX0 : o ++ [(colA A x)[y]] = (colA A x).take (y + 1) := by rw [htk, ← hO]
          have HX : Hid _ := hX0
          have HS : Hid _ := st2
          generalize (colA A x)[y] = V at *
          clear hr k1 k2 k3 htk hX0 hO st1 st2 hp hpb
          go_wp2_with (first | (at_builtin; refine wpList_append_own_at _ rfl _ _ 28 rfl W0.heap.size 3 i0 (.int .i64 0) 1 8 Try.underlying28 hi hz0 hz1 hz2 rfl (by decide) _ _ _ rfl (own_below hQ.l1.own ((Below.refl _ _).alloc (Nat.le_refl _) _)) ⟨wr.heap.size, 0, none⟩ 1 1 [.int .i64 V] rfl rfl (one_new wr _ _) (oneOne _) (by unfold maxLen; omega) (by omega) (by have := hQ.l1.below.size; simp; omega) ?_))
          intro v' wz hown hgrow _ hat
          obtain ⟨sv, mv, rfl⟩ := own_slice hown
          have HG : Hid _ := hQ.push _ hgrow hown hat
          clear hown hgrow hat hQ
          go_wp2
          go_roundw
          case rel => exact ⟨y + 1, _, _, _, by omega, HS.out.symm, by go_num, HX.out, rfl, HG.out⟩
          case measure => simp [intOf]; omega
        · have hyA : y = A.length := Nat.le_antisymm hy (Nat.le_of_not_lt fun h => hpl (st1.2 h))
          have hOa : o = colA A x := by rw [hO, List.take_of_length_le (by simp [colA]; omega)]
          subst hOa
          have hQs := hQ.swap
          have hpi : ¬ (p : Int) < (NA : Int) := by omega
          obtain ⟨sa, ma, rfl⟩ := own_slice hQ.l1.own
          clear hO st1 st2 hp hQ hyA
          go_wp2_with fail
          clear y4 f0 hpi
          go_loopw [13, 15] (fun v i wr => ∃ (y p : Nat) (o : List Int) (qb : Value), y ≤ B.length ∧ p = y * n + x ∧ i = .int .i64 p ∧ o = (colA B x).take y ∧ qb = v ∧ G2 W0 qb o (.slice sa (colA A x).length ma) (colA A x) wr) (fun _ i _ => NB - (intOf i).toNat)
          case atStart => exact ⟨0, x, [], _, Nat.zero_le _, by simp, rfl, by simp, rfl, hQs⟩
          case round =>
            obtain ⟨y, p, o, q, hy, hp, rfl, hO, rfl, hQ⟩ := hrel
            clear hQs
            have f0 := g1.below hQ.l1.below
            have y4 := f0.cell 4 _ rfl
            obtain ⟨st1, st2⟩ := stride (h := B.length) hlt hy
            rw [← hp, ← HNB.out.2] at st1
            by_cases hpl : p < NB
            · have hpi : (p : Int) < (NB : Int) := by omega
              have hyA := st1.1 hpl
              obtain ⟨k1, k2, k3⟩ := col_get hB hlt hyA
              rw [show y * n + x = p from hp.symm] at st2
              have hpb : p ≤ 16781312 := by have h1 := mul_4096 (show y ≤ 4096 by omega) hn; omega
              have w2 := stride_w hpb hn
              have htk := List.take_succ_eq_append_getElem k2
              have lAz := lB.below hQ.l1.below (Nat.le_refl _)
              rcases lAz with e0 | ⟨bb, off, rfl, hr⟩
              · rw [e0] at k1; exact absurd k1 (Nat.not_lt_zero _)
              have yv := hr _ k1
              rw [k3, ← hp] at yv
              have hol : o.length ≤ 4096 := by rw [hO, List.length_take]; omega
              have hX0 : o ++ [(colA B x)[y]] = (colA B x).take (y + 1) := by rw [htk, ← hO]
              have HX : Hid _ := hX0
              have HS : Hid _ := st2
              generalize (colA B x)[y] = V at *
              clear hr k1 k2 k3 htk hX0 hO st1 st2 hp hpb
              go_wp2_with (first | (at_builtin; refine wpList_append_own_at _ rfl _ _ 28 rfl W0.heap.size 3 i0 (.int .i64 0) 1 8 Try.underlying28 hi hz0 hz1 hz2 rfl (by decide) _ _ _ rfl (own_below hQ.l1.own ((Below.refl _ _).alloc (Nat.le_refl _) _)) ⟨wr.heap.size, 0, none⟩ 1 1 [.int .i64 V] rfl rfl (one_new wr _ _) (oneOne _) (by unfold maxLen; omega) (by omega) (by have := hQ.l1.below.size; simp; omega) ?_))
              intro v' wz hown hgrow _ hat
              obtain ⟨sv, mv, rfl⟩ := own_slice hown
              have HG : Hid _ := hQ.push _ hgrow hown hat
              clear hown hgrow hat hQ
              go_wp2
              go_roundw
              case rel => exact ⟨y + 1, _, _, _, by omega, HS.out.symm, by go_num, HX.out, rfl, HG.out⟩
              case measure => simp [intOf]; omega
            · have hyA : y = B.length := Nat.le_antisymm hy (Nat.le_of_not_lt fun h => hpl (st1.2 h))
              have hOa : o = colA B x := by rw [hO, List.take_of_length_le (by simp [colA]; omega)]
              subst hOa
              have hpi : ¬ (p : Int) < (NB : Int) := by omega
              obtain ⟨sb, mb, rfl, lb, _⟩ := hQ.l1.holds
              obtain ⟨sa', ma', e9, la, _⟩ := hQ.l2.holds
              obtain ⟨rfl, rfl⟩ : sa = sa' ∧ ma = ma' := by simpa using e9
              have hG1 := hG.step hQ.l1.below
              have cI := inv_n (colA A x) (colA B x) st kn sa sb ma mb _ _ wr rfl rfl hk (by simpa [colA] using hj) (col_within hA hlt wA) (col_within hB hlt wB) (by simpa [colA] using hc) la lb
              clear hO st1 st2 hp hQ hyA e9 la lb
              go_wp2_with fail
              refine cI.mono ?_
              rintro e w3 ⟨s3, m3, rfl, a3, hb, _, _, f3⟩
              have E3 := Elt.fresh (m := m3) hG1.own1 hG1.own2 f3 a3
              have hG2 := hG1.step hb
              clear a3 hb f3 hG1 cI
              go_wp2_with (first | (at_builtin; refine wpList_append_own_at _ rfl _ _ 119 rfl (((w.alloc (.cells #[.int .i64 rA.x0, .int .i64 rA.y0, .int .i64 rA.x1, .int .i64 rA.y1, .slice s NA m] 30)).alloc (.cells #[.int .i64 rB.x0, .int .i64 rB.y0, .int .i64 rB.x1, .int .i64 rB.y1, .slice t NB m'] 30))).heap.size 28 i1 (.slice none 0 0) 1 24 Try.underlying119 gi gz0 gz1 gz2 rfl (by decide) _ _ _ rfl (own_below hG2.own1 ((Below.refl _ _).alloc (Nat.le_refl _) _)) ⟨w3.heap.size, 0, none⟩ 1 1 [.slice s3 (Ex.unF st kn (colA A x) (colA B x)).length m3] rfl rfl (one_newS w3 _ _) (by intro u hu; simp at hu; subst hu; rfl) (by unfold maxLen; omega) (by omega) (by have := hG2.below.size; simp at this; simp; omega) ?_))
              intro v1' w4 hown hgrow _ hat
              obtain ⟨sv1, mv1, rfl⟩ := own_slice hown
              rw [← HSZ.out] at hown
              have HG : Hid _ := hG2.push E3 _ hgrow hown hat
              clear hown hgrow hat hG2 E3
              go_wp2
              go_roundw
              case rel => exact ⟨x + 1, _, _, _, by omega, by go_num, rfl, HN.out.symm, HG.out⟩
              case measure => simp [intOf]; omega
    · obtain rfl : x = n := Nat.le_antisymm hx (Nat.le_of_not_lt hlt)
      have hcZ : c = Z := by rw [hcz, List.take_of_length_le (Nat.le_of_eq HZl.out)]
      subst hcZ
      have hZw : Ex.Wide (A.length + B.length) c := by
        intro r hr
        rw [HZ.out] at hr
        obtain ⟨k, hk', rfl⟩ := List.getElem_of_mem hr
        rw [List.getElem_zipWith, Ex.unF_len, Ex.trn_mem (List.getElem_mem _), Ex.trn_mem (List.getElem_mem _)]
      obtain ⟨s1, m1, rfl, gC⟩ := hG.holds
      have cR := rows_r c _ s1 m1 W0 hZw j3 (by rw [HZl.out]; exact hn) gC
      have HB : Hid _ := below_call BW hG.below
      have HF : Hid ((Ex.trn (A.length + B.length) c).flatten = (Ex.unC st kn x A B).flatten) := by rw [HZ.out]; exact rfl
      clear hG gC hcz
      go_wp2_with fail
      refine cR.mono ?_
      rintro e w6 ⟨v1, rfl, G1⟩
      have R1 := G1.up HB.out
      rw [HF.out] at R1
      have HR1 : Hid _ := R1
      clear R1 G1 cR
      go_wp2
      go_ret
      exact ⟨_, rfl, HR1.out⟩
end Go.Proofs.Ytnfnidgabgdphaa
