/-
  add of the code's writer where a new byte begins; add at every state.
-/
import Derived.Test.YtaddendclipkkaaWa
import Derived.Maps.AppendAt
set_option maxRecDepth 100000
namespace Go.Proofs.Ytaddendclipkkaa
open Go.RowKit

theorem grow_obj {w W W2 : World} {a B n : Nat} {e T : TypeId} {cs : Array Value} {sv v' x : Value} {xs : List Value} (k0 : Kp a w W) (b : Blk W a T cs) (h1 : cs[1]? = some sv) (own : W.ownsRow B e 1 sv n xs) (hne : e ≠ T)
    (hown : W2.ownsRow B e 1 v' (n + 1) (xs ++ [x])) (hg : (W.alloc (.cells #[x] e)).grownBy W2 sv.ownBlock) (hat : v'.ownBlock = sv.ownBlock ∨ v'.ownBlock = some (W.heap.size + 1)) :
    Blk (W2.setCell ⟨a, 1, none⟩ v') a T (cs.setIfInBounds 1 v') ∧ (W2.setCell ⟨a, 1, none⟩ v').ownsRow B e 1 v' (n + 1) (xs ++ [x]) ∧ Kp a w (W2.setCell ⟨a, 1, none⟩ v') ∧ Blk W2 a T cs := by
  have hs : sv.ownBlock ≠ some a := own_blk_ne own b hne
  have bA := b.alloc (.cells #[x] e)
  have b2 : Blk W2 a T cs := bA.grown hg (fun h => hs h.symm)
  have hv : v'.ownBlock ≠ some a := own_blk_ne hown b2 hne
  have kA : Kp a w (W.alloc (.cells #[x] e)) := k0.trans (Kp.of_below ((Below.refl _ _).alloc (Nat.le_refl _) _) b.lt)
  have cA : (W.alloc (.cells #[x] e)).cell? ⟨a, 1, none⟩ = some sv := (bA.cell 1).trans h1
  have c2 : W2.cell? ⟨a, 1, none⟩ = some sv := (b2.cell 1).trans h1
  refine ⟨b2.set 1 v', own_far hown ⟨a, 1, none⟩ _ hv, kA.grow cA hg hs (hat.elim .inl fun h => .inr fun k hk => by rw [h] at hk; simp at hk; simp; omega), b2⟩
theorem one_new8 (W : World) (x : Value) (T : TypeId) : ∀ j u, ([x] : List Value)[j]? = some u → (W.alloc (.cells #[x] T)).cell? ((⟨W.heap.size, 0, none⟩ : Addr).add j) = some u := by
  intro j u hj
  match j, hj with
  | 0, hj => simp at hj; subst hj; simp [Addr.add]
theorem oneOne8 (x : Int) : ∀ u ∈ ([.int .u8 x] : List Value), u.oneCell' = true := by
  intro u hu; simp at hu; subst hu; rfl
theorem own_form {w : World} {base n : Nat} {e : TypeId} {v : Value} {xs : List Value} (h : w.ownsRow base e 1 v (n + 1) xs) : ∃ g m, v = .slice (some ⟨g, 0, none⟩) (n + 1) m ∧ base ≤ g ∧ (∃ cs, Blk w g e cs) ∧ w.cell? ⟨g, n, none⟩ = xs[n]? ∧ (∀ j, w.frozen? ⟨g, j, none⟩ = false) := by
  rcases h.2 with ⟨_, h0⟩ | ⟨g, cap, cur, rfl, hb, hg, hc, hm, hs, ht⟩
  · omega
  · refine ⟨g, cap, rfl, hb, ⟨cur, hg⟩, ?_, fun j => by simp [World.frozen?, hg]⟩
    rw [← ht, List.getElem?_take_of_lt (by omega), Array.getElem?_toList]
    simp [World.cell?, hg]
theorem addz_end {w W1 : World} {B a g m n fr cnt : Nat} {bs : List Int} {b : Int} (hB : B ≤ a) (hl : bs.length = n) (hne : g ≠ a) (k0 : Kp a w W1) (hfr : fr + 1 = Bi.wd bs)
    (b1 : Blk W1 a 88 #[.pointer (some ⟨a, 0, none⟩), .slice (some ⟨g, 0, none⟩) (n + 1) m, .int .i64 fr, .int .i64 cnt])
    (o1 : W1.ownsRow B 5 1 (.slice (some ⟨g, 0, none⟩) (n + 1) m) (n + 1) ((bs ++ [0]).map (Value.int .u8))) (hb : Bi.bit b) :
    WrC ((W1.setCell ⟨g, n, none⟩ (.int .u8 (bits .or .u8 0 (b * 2 ^ fr % 256)))).setCell ⟨a, 3, none⟩ (.int .i64 ((cnt : Int) + 1))).drew B a (.slice (some ⟨g, 0, none⟩) (n + 1) m) (Bi.addB (bs, 0) b).1 fr (cnt + 1) ∧
    Kp a w ((W1.setCell ⟨g, n, none⟩ (.int .u8 (bits .or .u8 0 (b * 2 ^ fr % 256)))).setCell ⟨a, 3, none⟩ (.int .i64 ((cnt : Int) + 1))).drew := by
  have hw := Bi.wd_cases bs
  rw [or_u8 (by omega) hb (by omega) (by simp)]
  have e : (Bi.addB (bs, 0) b).1 = bs ++ [b * 2 ^ fr] := by simp [Bi.addB, ← hfr]
  have hfp : Fp W1 a g := .inr ⟨_, b1.cell 1, rfl⟩
  rw [e, Int.zero_add]
  refine ⟨⟨hB, ?_, ?_⟩, ?_⟩
  · have := ((b1.far (p := ⟨g, n, none⟩) (fun h => hne h.symm) (.int .u8 (b * 2 ^ fr))).set 3 (.int .i64 ((cnt : Int) + 1)))
    simpa using this.drew
  · have e2 : (bs ++ [b * 2 ^ fr]).map (Value.int .u8) = ((bs ++ [0]).map (Value.int .u8)).set n (.int .u8 (b * 2 ^ fr)) := by simp [← hl]
    rw [e2, List.length_append, hl]
    exact own_far (own_put o1 n _) ⟨a, 3, none⟩ _ (by simp [Value.ownBlock, hne])
  · have k1 := (k0.row hfp hne n (.int .u8 (b * 2 ^ fr)))
    have k2 := k1.set (i := 3) (by simpa [World.setCell] using b1.lt) (by decide) (.int .i64 ((cnt : Int) + 1))
    exact k2.trans (Kp.of_below (Below.refl _ _).drew (by simpa [World.setCell] using b1.lt))
set_option maxHeartbeats 4000000 in
theorem add_z (w : World) (B a : Nat) (sv : Value) (bs : List Int) (cnt : Nat) (b : Int) (hW : WrC w B a sv bs 0 cnt) (hb : Bi.bit b) (hc : cnt + 1 ≤ 1000000000) (hl : bs.length ≤ 1000000000) :
    Calls Try.prog 73 #[.pointer (some ⟨a, 0, none⟩), .int .u8 b] w fun e w' => e = .returned (.tuple #[]) ∧ (∃ sv', WrC w' B a sv' (Bi.addB (bs, 0) b).1 (Bi.addB (bs, 0) b).2 (cnt + 1)) ∧ Kp a w w' := by
  obtain ⟨c0, c1, c2, c3⟩ := hW.open
  replace c2 : w.cell? ⟨a, 2, none⟩ = some (.int .i64 0) := c2
  have f := hW.blk.free
  have hs : sv.ownBlock ≠ some a := own_blk_ne hW.own hW.blk (by decide)
  have hBw : B ≤ w.heap.size := Nat.le_of_lt (Nat.lt_of_le_of_lt hW.ge hW.blk.lt)
  obtain ⟨i0, hi, hz0, hz1, hz2⟩ := info_parts info8
  obtain ⟨_, s, m, hsv, hH, _⟩ := HoldsB.of_own hW.own
  have o1 := own_far hW.own ⟨a, 2, none⟩ (.int .i64 8) hs
  have o2 := own_far o1 ⟨a, 2, none⟩ (.int .i64 7) hs
  obtain ⟨_, s1, m1, hsv1, hH1, _⟩ := HoldsB.of_own o1
  have b1 := hW.blk.set 2 (.int .i64 8)
  have b2 := b1.set 2 (.int .i64 7)
  have k1 := (Kp.refl a w).set (i := 2) hW.blk.lt (by decide) (.int .i64 8)
  have k2 := k1.set (i := 2) b1.lt (by decide) (.int .i64 7)
  have HL := Lib.hid hl
  rw [hsv] at hsv1
  obtain ⟨rfl, _, rfl⟩ : s = s1 ∧ True ∧ m = m1 := by simpa using hsv1
  clear hsv1 hH
  have HW := Lib.hid hW
  have HO1 := Lib.hid o1
  have HO2 := Lib.hid o2
  have HB1 := Lib.hid b1
  have HB2 := Lib.hid b2
  have HK1 := Lib.hid k1
  have HK2 := Lib.hid k2
  have HSV := Lib.hid hsv
  subst hsv
  clear o1 o2 b1 b2 k1 k2 hW hs
  cases hsf : sfB bs with
  | false =>
    have hst := fun W (h : HoldsB W s bs) => stuffed_c bs s m W h hl
    rw [hsf] at hst
    have hwd : 7 + 1 = Bi.wd bs := by unfold Bi.wd; unfold sfB at hsf; simp at hsf; simp [hsf]
    have HWD := Lib.hid hwd
    clear hwd
    go_enter Try.func73, Try.ntmps73
    go_upto_region 4 with (first | (go_at_call 49; refine (hst _ hH1).mono ?_; rintro e wn ⟨rfl, hw⟩; replace hw := hw.symm; subst hw))
    have hBs : B ≤ (w.setCell ⟨a, 2, none⟩ (.int .i64 8)).heap.size := by simpa [World.setCell] using hBw
    have HCS := Lib.hid (HB1.out.cell 1)
    have HCF := Lib.hid (HB1.out.free)
    clear hst HK2 HO2 HB2 hH1
    generalize w.setCell ⟨a, 2, none⟩ (.int .i64 8) = W1 at *
    have d1 : W1.cell? ⟨a, 1, none⟩ = some (.slice s bs.length m) := HCS.out
    have df : ∀ i, W1.frozen? ⟨a, i, none⟩ = false := HCF.out
    clear c0 c1 c2 c3 f HCS HCF
    go_wp2_with (first | (at_builtin; refine wpList_append_own_at _ rfl _ _ 22 rfl B 5 i0 (.int .u8 0) 1 1 Try.underlying22 hi hz0 hz1 hz2 rfl (by decide) _ bs.length _ rfl (own_below HO1.out ((Below.refl _ _).alloc (Nat.le_refl _) _)) ⟨W1.heap.size, 0, none⟩ 1 1 [.int .u8 0] rfl rfl (one_new8 _ _ _) (oneOne8 _) (by unfold maxLen; omega) (by omega) (by simp; omega) ?_))
    intro v' w2 hown hgrow _ hat
    obtain ⟨x1, x2, x3, x4⟩ := grow_obj HK1.out HB1.out rfl HO1.out (by decide) hown hgrow (by simpa using hat)
    obtain ⟨g, m2, rfl, hgB, ⟨cs, hBg⟩, hg, fg⟩ := own_form x2
    have hne : g ≠ a := hBg.ne x1 (by decide)
    have y1 := x1.set 2 (.int .i64 7)
    have y2 := own_far x2 ⟨a, 2, none⟩ (.int .i64 7) (by simp [Value.ownBlock, hne])
    have y3 := x3.set (i := 2) x1.lt (by decide) (.int .i64 7)
    have y4 : ((w2.setCell ⟨a, 1, none⟩ (.slice (some ⟨g, 0, none⟩) (bs.length + 1) m2)).setCell ⟨a, 2, none⟩ (.int .i64 7)).cell? ⟨g, bs.length, none⟩ = some (.int .u8 0) := cell_far _ (hg.trans (by simp)) hne
    have y5 := (hBg.far (p := ⟨a, 2, none⟩) hne (.int .i64 7)).free
    have Y1 := Lib.hid y1
    have Y2 := Lib.hid y2
    have Y3 := Lib.hid y3
    have Y4 := Lib.hid y4
    have Y5 := Lib.hid y5
    have z1 : w2.cell? ⟨a, 1, none⟩ = some (.slice s bs.length m) := x4.cell 1
    have z2 : w2.cell? ⟨a, 2, none⟩ = some (.int .i64 8) := x4.cell 2
    have zf := x4.free
    clear x1 x2 x3 x4 hBg hg fg y1 y2 y3 y4 y5 hown hgrow hat d1 df
    go_upto_region 6 with fail
    clear z1 z2 zf
    generalize (w2.setCell ⟨a, 1, none⟩ (.slice (some ⟨g, 0, none⟩) (bs.length + 1) m2)).setCell ⟨a, 2, none⟩ (.int .i64 7) = W3 at *
    have q1 : W3.cell? ⟨a, 1, none⟩ = some (.slice (some ⟨g, 0, none⟩) (bs.length + 1) m2) := Y1.out.cell 1
    have q2 : W3.cell? ⟨a, 2, none⟩ = some (.int .i64 7) := Y1.out.cell 2
    have q3 : W3.cell? ⟨a, 3, none⟩ = some (.int .i64 cnt) := Y1.out.cell 3
    have q4 := Y4.out
    have f1 := Y1.out.free
    have fg1 := Y5.out
    obtain ⟨n, hn⟩ : ∃ n, n = bs.length := ⟨_, rfl⟩
    rw [← hn] at q1 q4 Y1 Y2 hl
    rw [← hn]
    have HN := Lib.hid hn
    clear hn Y4 Y5
    have hne' : a ≠ g := fun e => hne e.symm
    have e1 : IntKind.i64.wrap ((n : Int) + 1 - 1) = (n : Int) := by rw [show (n : Int) + 1 - 1 = n by omega]; exact IntWalk.i64_in _ (by omega)
    have e2 : IntKind.i64.wrap (((n + 1 : Nat) : Int) - 1) = (n : Int) := by rw [show ((n + 1 : Nat) : Int) - 1 = n by omega]; exact IntWalk.i64_in _ (by omega)
    have e6 : IntKind.i64.wrap (n : Int) = (n : Int) := IntWalk.i64_in _ (by omega)
    have e3 : (0 : Int) ≤ (n : Int) := by omega
    have e4 : (n : Int) < (n : Int) + 1 := by omega
    have e5 : (n : Int) < ((n + 1 : Nat) : Int) := by omega
    go_region_law (fail)
    all_goals
      go_wp2_with fail
      go_end0
      have z := addz_end (fr := 7) HW.out.ge HN.out.symm hne Y3.out HWD.out Y1.out (by rw [List.map_append]; exact Y2.out) hb
      rw [show (2 : Int) ^ 7 = 128 from rfl] at z
      refine ⟨rfl, ⟨.slice (some ⟨g, 0, none⟩) (n + 1) m2, ?_⟩, z.2⟩
      rw [show (Bi.addB (bs, 0) b).2 = 7 by simp [Bi.addB, ← HWD.out]]
      exact z.1
  | true =>
    have hst := fun W (h : HoldsB W s bs) => stuffed_c bs s m W h hl
    rw [hsf] at hst
    have hwd : 6 + 1 = Bi.wd bs := by unfold Bi.wd; unfold sfB at hsf; simp at hsf; simp [hsf]
    have HWD := Lib.hid hwd
    clear hwd
    go_enter Try.func73, Try.ntmps73
    go_upto_region 4 with (first | (go_at_call 49; refine (hst _ hH1).mono ?_; rintro e wn ⟨rfl, hw⟩; replace hw := hw.symm; subst hw))
    have hBs : B ≤ ((w.setCell ⟨a, 2, none⟩ (.int .i64 8)).setCell ⟨a, 2, none⟩ (.int .i64 7)).heap.size := by simpa [World.setCell] using hBw
    have HCS := Lib.hid (HB2.out.cell 1)
    have HCF := Lib.hid (HB2.out.free)
    clear hst HK1 HO1 HB1 hH1
    generalize (w.setCell ⟨a, 2, none⟩ (.int .i64 8)).setCell ⟨a, 2, none⟩ (.int .i64 7) = W1 at *
    have d1 : W1.cell? ⟨a, 1, none⟩ = some (.slice s bs.length m) := HCS.out
    have df : ∀ i, W1.frozen? ⟨a, i, none⟩ = false := HCF.out
    clear c0 c1 c2 c3 f HCS HCF
    go_wp2_with (first | (at_builtin; refine wpList_append_own_at _ rfl _ _ 22 rfl B 5 i0 (.int .u8 0) 1 1 Try.underlying22 hi hz0 hz1 hz2 rfl (by decide) _ bs.length _ rfl (own_below HO2.out ((Below.refl _ _).alloc (Nat.le_refl _) _)) ⟨W1.heap.size, 0, none⟩ 1 1 [.int .u8 0] rfl rfl (one_new8 _ _ _) (oneOne8 _) (by unfold maxLen; omega) (by omega) (by simp; omega) ?_))
    intro v' w2 hown hgrow _ hat
    obtain ⟨x1, x2, x3, x4⟩ := grow_obj HK2.out HB2.out rfl HO2.out (by decide) hown hgrow (by simpa using hat)
    obtain ⟨g, m2, rfl, hgB, ⟨cs, hBg⟩, hg, fg⟩ := own_form x2
    have hne : g ≠ a := hBg.ne x1 (by decide)
    have y1 := x1.set 2 (.int .i64 6)
    have y2 := own_far x2 ⟨a, 2, none⟩ (.int .i64 6) (by simp [Value.ownBlock, hne])
    have y3 := x3.set (i := 2) x1.lt (by decide) (.int .i64 6)
    have y4 : ((w2.setCell ⟨a, 1, none⟩ (.slice (some ⟨g, 0, none⟩) (bs.length + 1) m2)).setCell ⟨a, 2, none⟩ (.int .i64 6)).cell? ⟨g, bs.length, none⟩ = some (.int .u8 0) := cell_far _ (hg.trans (by simp)) hne
    have y5 := (hBg.far (p := ⟨a, 2, none⟩) hne (.int .i64 6)).free
    have Y1 := Lib.hid y1
    have Y2 := Lib.hid y2
    have Y3 := Lib.hid y3
    have Y4 := Lib.hid y4
    have Y5 := Lib.hid y5
    have z1 : w2.cell? ⟨a, 1, none⟩ = some (.slice s bs.length m) := x4.cell 1
    have z2 : w2.cell? ⟨a, 2, none⟩ = some (.int .i64 7) := x4.cell 2
    have zf := x4.free
    clear x1 x2 x3 x4 hBg hg fg y1 y2 y3 y4 y5 hown hgrow hat d1 df
    go_upto_region 6 with fail
    clear z1 z2 zf
    generalize (w2.setCell ⟨a, 1, none⟩ (.slice (some ⟨g, 0, none⟩) (bs.length + 1) m2)).setCell ⟨a, 2, none⟩ (.int .i64 6) = W3 at *
    have q1 : W3.cell? ⟨a, 1, none⟩ = some (.slice (some ⟨g, 0, none⟩) (bs.length + 1) m2) := Y1.out.cell 1
    have q2 : W3.cell? ⟨a, 2, none⟩ = some (.int .i64 6) := Y1.out.cell 2
    have q3 : W3.cell? ⟨a, 3, none⟩ = some (.int .i64 cnt) := Y1.out.cell 3
    have q4 := Y4.out
    have f1 := Y1.out.free
    have fg1 := Y5.out
    obtain ⟨n, hn⟩ : ∃ n, n = bs.length := ⟨_, rfl⟩
    rw [← hn] at q1 q4 Y1 Y2 hl
    rw [← hn]
    have HN := Lib.hid hn
    clear hn Y4 Y5
    have hne' : a ≠ g := fun e => hne e.symm
    have e1 : IntKind.i64.wrap ((n : Int) + 1 - 1) = (n : Int) := by rw [show (n : Int) + 1 - 1 = n by omega]; exact IntWalk.i64_in _ (by omega)
    have e2 : IntKind.i64.wrap (((n + 1 : Nat) : Int) - 1) = (n : Int) := by rw [show ((n + 1 : Nat) : Int) - 1 = n by omega]; exact IntWalk.i64_in _ (by omega)
    have e6 : IntKind.i64.wrap (n : Int) = (n : Int) := IntWalk.i64_in _ (by omega)
    have e3 : (0 : Int) ≤ (n : Int) := by omega
    have e4 : (n : Int) < (n : Int) + 1 := by omega
    have e5 : (n : Int) < ((n + 1 : Nat) : Int) := by omega
    go_region_law (fail)
    all_goals
      go_wp2_with fail
      go_end0
      have z := addz_end (fr := 6) HW.out.ge HN.out.symm hne Y3.out HWD.out Y1.out (by rw [List.map_append]; exact Y2.out) hb
      rw [show (2 : Int) ^ 6 = 64 from rfl] at z
      refine ⟨rfl, ⟨.slice (some ⟨g, 0, none⟩) (n + 1) m2, ?_⟩, z.2⟩
      rw [show (Bi.addB (bs, 0) b).2 = 6 by simp [Bi.addB, ← HWD.out]]
      exact z.1
end Go.Proofs.Ytaddendclipkkaa
