/-
  Layer 23: contracts of tooLarge, sound and Header.
-/
import Derived.Test.YtkcjbehfhcmiaaaHb
import Derived.Test.YtkcjbehfhcmiaaaHn
set_option maxRecDepth 100000
namespace Go.Proofs.Ytkcjbehfhcmiaaa
open Go.RowKit

theorem holdsC_at {w : World} {b o : Nat} {l : List Hp.Cm} (h : ∀ k (_ : k < l.length), CmAt w b (o + k * 4) l[k]) {k : Nat} (hk : k < l.length) : CmAt w b (o + k * 4) l[k] := h k hk
set_option maxHeartbeats 1000000 in
theorem wide_c (h : Hp.Hd) (s : Option Addr) (m : Nat) (c : Hp.Cm) (g : Nat) (W : World) (hB : Blk W g 26 (hvA h s m)) : Calls Try.prog 97 #[.agg #[.int .i64 c.depth, .bool c.sg, .int .i64 c.dx, .int .i64 c.dy], .pointer (some ⟨g, 0, none⟩)] W fun e w' => e = .returned (.bool (Hp.wideB (Hp.hR h) c)) ∧ Below W.heap.size W w' := by
  obtain ⟨WB, hWB⟩ : ∃ ww, ww = (W.alloc (.cells #[.int .i64 c.depth, .bool c.sg, .int .i64 c.dx, .int .i64 c.dy] 56)) := ⟨_, rfl⟩
  have hb0 : Below W.heap.size W WB := by rw [hWB]; exact (below_alloc (Below.refl _ W) (Nat.le_refl _) _)
  have B0 := Lib.hid hb0
  have hC : Blk WB (W.heap.size) 56 #[.int .i64 c.depth, .bool c.sg, .int .i64 c.dx, .int .i64 c.dy] := by
    have := Blk.new (W) 56 #[.int .i64 c.depth, .bool c.sg, .int .i64 c.dx, .int .i64 c.dy]
    rw [hWB]
    exact (show Blk _ (W.heap.size) _ _ by simpa using this)
  have HC0 := Lib.hid hC
  have HWB := Lib.hid hWB
  clear hb0 hWB hC
  have HH := Lib.hid (hB.alloc (.cells #[.int .i64 c.depth, .bool c.sg, .int .i64 c.dx, .int .i64 c.dy] 56))
  obtain ⟨y0, y1, y2, y3, y4, y5, y6⟩ := HH.out.hd
  clear y4 y5 y6
  have k1 := samples_c (Hp.hR h) c WB
  rw [HWB.out] at k1
  have k2 := fun W1 : World => area_c (Hp.smp (Hp.hR h) c).x0 (Hp.smp (Hp.hR h) c).y0 (Hp.smp (Hp.hR h) c).x1 (Hp.smp (Hp.hR h) c).y1 W1
  have e0 : Pl.areaI (Hp.smp (Hp.hR h) c).x0 (Hp.smp (Hp.hR h) c).y0 (Hp.smp (Hp.hR h) c).x1 (Hp.smp (Hp.hR h) c).y1 = Hp.arR (Hp.smp (Hp.hR h) c) := rfl
  rw [e0] at k2
  have e1 : Hp.wideB (Hp.hR h) c = decide (1048576 < Hp.arR (Hp.smp (Hp.hR h) c)) := rfl
  rw [e1]
  clear e0 e1
  generalize Hp.arR (Hp.smp (Hp.hR h) c) = AR at *
  generalize Hp.smp (Hp.hR h) c = Q at *
  dsimp only [rv, Hp.hR] at k1
  go_enter Try.func97, Try.ntmps97
  go_wp2_with (first | (go_at_call 69; (with_reducible refine k1.mono ?_); rintro e w1 ⟨rfl, hb1⟩; have hb := (show Below WB.heap.size WB w1 by rw [HWB.out]; exact hb1); clear hb1; have B1 := Lib.hid (B0.out.trans (hb.mono B0.out.size)); have HC1 := Lib.hid (HC0.out.below hb); obtain ⟨c0, c1, c2, c3⟩ := HC1.out.four; clear hb) | (go_at_call 28; (with_reducible refine (k2 _).mono ?_); rintro e w2 ⟨rfl, hb2⟩; clear c0 c1 c2 c3; have B2 := Lib.hid (B1.out.trans (hb2.mono B1.out.size)); have HC2 := Lib.hid (HC1.out.below hb2); obtain ⟨c0, c1, c2, c3⟩ := HC2.out.four; clear hb2) | fail)
  go_ret
  exact ⟨rfl, B2.out⟩
/-- The place of the first component that is too wide. -/
def GivesWide (h : Hp.Hd) (W : World) (e : Ending) (w' : World) : Prop := ∃ r : Int, e = .returned (.int .i64 r) ∧ (h.cs.any (Hp.wideB (Hp.hR h)) = false → r = -1) ∧ (h.cs.any (Hp.wideB (Hp.hR h)) = true → 0 ≤ r) ∧ Below W.heap.size W w'
theorem any_yes {f : Hp.Cm → Bool} {l : List Hp.Cm} {k : Nat} (hk : k < l.length) (h : f l[k] = true) : l.any f = true := List.any_eq_true.2 ⟨_, List.getElem_mem hk, h⟩
theorem any_no {f : Hp.Cm → Bool} {l : List Hp.Cm} (h : ∀ j (hj : j < l.length), j < l.length → f l[j] = false) : l.any f = false := by
  rw [List.any_eq_false]
  intro x hx
  obtain ⟨j, hj, rfl⟩ := List.getElem_of_mem hx
  rw [h j hj hj]
  decide
set_option maxHeartbeats 1000000 in
theorem index_c (h : Hp.Hd) (s : Option Addr) (m : Nat) (g : Nat) (W : World) (hl : h.cs.length ≤ 4398046511104) (hB : Blk W g 26 (hvA h s m)) (hC : HoldsC W s h.cs) : Calls Try.prog 107 #[.slice s h.cs.length m, .func (.func 97) #[] #[.pointer (some ⟨g, 0, none⟩)]] W (GivesWide h W) := by
  go_enter Try.func107, Try.ntmps107
  go_wp2_with fail
  go_loopw [5, 8] (fun _ i wr => ∃ k : Nat, k ≤ h.cs.length ∧ i = .int .i64 k ∧ (∀ j (hj : j < h.cs.length), j < k → Hp.wideB (Hp.hR h) h.cs[j] = false) ∧ Below W.heap.size W wr) (fun _ i _ => h.cs.length - (intOf i).toNat)
  case atStart => exact ⟨0, Nat.zero_le _, rfl, fun j _ h => absurd h (Nat.not_lt_zero _), Below.refl _ _⟩
  case round =>
    obtain ⟨k, hk, rfl, hall, hbe⟩ := hrel
    have HA : Hid _ := hall
    have HBe := Lib.hid hbe
    clear hall
    by_cases hlt : k < h.cs.length
    · rcases hC with hC | ⟨bb, off, rfl, hr⟩
      · rw [hC] at hlt; simp at hlt
      have hcm := (hr k hlt).below hbe (Nat.le_refl _)
      have hbl := hB.below hbe
      clear hbe
      have hki : (k : Int) < (h.cs.length : Int) := by omega
      have w2 : IntKind.i64.wrap ((k : Int) + 1) = (k : Int) + 1 := IntWalk.i64_in _ (by omega)
      have HF : Hid (Hp.wideB (Hp.hR h) h.cs[k] = true → h.cs.any (Hp.wideB (Hp.hR h)) = true) := any_yes hlt
      have HV : Hid (Hp.wideB (Hp.hR h) h.cs[k] = false → ∀ j (hj : j < h.cs.length), j < k + 1 → Hp.wideB (Hp.hR h) h.cs[j] = false) := fun a j hj hjk => if e : j = k then by subst e; exact a else HA.out j hj (by omega)
      generalize h.cs[k] = V at *
      obtain ⟨c0, c1, c2, c3⟩ := hcm
      have cW := wide_c h (some ⟨bb, off, none⟩) m V g wr hbl
      cases ho : Hp.wideB (Hp.hR h) V with
      | true =>
        rw [ho] at cW
        have hf := HF.out ho
        have HFF := Lib.hid hf
        clear HF HV HA hf ho hbl
        go_wp2_with (first | (go_at_call 97; (with_reducible refine cW.mono ?_); rintro e wn ⟨rfl, hbn⟩) | fail)
        go_ret
        exact ⟨_, rfl, fun h => by rw [HFF.out] at h; exact absurd h (by decide), fun _ => by omega, HBe.out.trans (hbn.mono HBe.out.size)⟩
      | false =>
        rw [ho] at cW
        have HN : Hid _ := HV.out ho
        clear HF HV HA ho hbl
        go_wp2_with (first | (go_at_call 97; (with_reducible refine cW.mono ?_); rintro e wn ⟨rfl, hbn⟩) | fail)
        go_roundw
        case rel => exact ⟨k + 1, by omega, by go_num, HN.out, HBe.out.trans (hbn.mono HBe.out.size)⟩
        case measure => simp [intOf]; omega
    · obtain rfl : k = h.cs.length := by omega
      have hf := Lib.hid (any_no fun j hj => HA.out j hj)
      clear HA
      go_wp2
      go_ret
      exact ⟨_, rfl, fun _ => rfl, fun h => by rw [hf.out] at h; exact absurd h (by decide), HBe.out⟩
set_option maxHeartbeats 1000000 in
theorem contains_c (h : Hp.Hd) (s : Option Addr) (m : Nat) (g : Nat) (W : World) (hl : h.cs.length ≤ 4398046511104) (hB : Blk W g 26 (hvA h s m)) (hC : HoldsC W s h.cs) : Calls Try.prog 96 #[.slice s h.cs.length m, .func (.func 97) #[] #[.pointer (some ⟨g, 0, none⟩)]] W fun e w' => e = .returned (.bool (h.cs.any (Hp.wideB (Hp.hR h)))) ∧ Below W.heap.size W w' := by
  have cI := index_c h s m g W hl hB hC
  cases hf : h.cs.any (Hp.wideB (Hp.hR h)) with
  | false =>
    go_enter Try.func96, Try.ntmps96
    go_wp2_with fail
    refine cI.mono ?_
    rintro e w' ⟨r, rfl, h1, h2, hb⟩
    obtain rfl := h1 hf
    clear h1 h2
    go_wp2
    go_ret
    exact ⟨rfl, hb⟩
  | true =>
    go_enter Try.func96, Try.ntmps96
    go_wp2_with fail
    refine cI.mono ?_
    rintro e w' ⟨r, rfl, h1, h2, hb⟩
    have h3 := h2 hf
    clear h1 h2
    go_wp2
    go_ret
    exact ⟨rfl, hb⟩
theorem hdB_facts {h : Hp.Hd} (hd : Hp.hdB h = true) : Pl.validB h.a h.b h.c h.d = true ∧ Pl.emptyB h.a h.b h.c h.d = false ∧ (1 ≤ h.tw ∧ h.tw ≤ 4096) ∧ (1 ≤ h.th ∧ h.th ≤ 4096) ∧ h.cs.length ≤ 4 ∧ 1 ≤ h.cs.length := by
  simp only [Hp.hdB, Bool.and_eq_true, Hp.in_iff, Bool.not_eq_true'] at hd
  obtain ⟨hv, he, ⟨⟨tw1, tw2⟩, th1, th2⟩, n1, n2⟩ := hd
  exact ⟨hv, he, ⟨tw1, tw2⟩, ⟨th1, th2⟩, by omega, by omega⟩
set_option maxHeartbeats 1000000 in
theorem tooLarge_c (h : Hp.Hd) (s : Option Addr) (m : Nat) (W : World) (hd : Hp.hdB h = true) (hC : HoldsC W s h.cs) : Calls Try.prog 55 #[.agg (hvA h s m)] W fun e w' => e = .returned (.bool (Hp.bigB h)) ∧ Below W.heap.size W w' := by
  obtain ⟨hv, he, ⟨t1, t2⟩, ⟨t3, t4⟩, n1, n2⟩ := hdB_facts hd
  obtain ⟨v1, v2, v3, v4, v5, v6⟩ := Pl.valid_iff.1 hv
  have k1 := fun W1 : World => cells_p h.a h.c h.tw W1 t1 v1 (by omega) (by omega) v3
  have k2 := fun W1 : World => cells_p h.b h.d h.th W1 t3 v4 (by omega) (by omega) v6
  have b1 := Hp.cellsI_nn t1 v1 v3
  have b2 := Hp.cellsI_nn t3 v4 v6
  have k3 := contains_c h s m W.heap.size (W.alloc (.cells (hvA h s m) 26)) (by omega) (Blk.new _ _ _) (hC.alloc _)
  have hx : IntKind.i64.wrap (Hp.cellsI h.a h.c h.tw * Hp.cellsI h.b h.d h.th) = Hp.cellsI h.a h.c h.tw * Hp.cellsI h.b h.d h.th := by
    have p1 := Int.mul_nonneg b1.1 b2.1
    have p2 := Int.mul_le_mul b1.2 b2.2 b2.1 (by decide)
    exact IntWalk.i64_in _ (by omega)
  have HB := Lib.hid (show Below W.heap.size W (W.alloc (.cells (hvA h s m) 26)) from below_alloc (Below.refl _ _) (Nat.le_refl _) _)
  have hm : Hp.manyB h = decide (1024 < Hp.cellsI h.a h.c h.tw * Hp.cellsI h.b h.d h.th) := rfl
  have hbig : Hp.bigB h = (Hp.manyB h || h.cs.any (Hp.wideB (Hp.hR h))) := rfl
  rw [hbig, hm]
  clear hv he t1 t2 t3 t4 n2 v1 v2 v3 v4 v5 v6 b1 b2 hd hm hbig
  generalize Hp.cellsI h.a h.c h.tw = C at *
  generalize Hp.cellsI h.b h.d h.th = R at *
  generalize h.cs.any (Hp.wideB (Hp.hR h)) = an at *
  obtain ⟨CR, hCR⟩ : ∃ x, C * R = x := ⟨_, rfl⟩
  have hx2 : wrap64 (C * R) = CR := by rw [← hCR, ← IntWalk.i64_left]; exact hx
  rw [hCR]
  clear hx hCR
  unfold hvA at *
  by_cases g1 : 1024 < CR
  · have e1 : (decide (1024 < CR) || an) = true := by simp [g1]
    rw [e1]
    clear e1
    go_enter Try.func55, Try.ntmps55
    go_wp2_with (first | (go_at_call 65; (with_reducible refine (k1 _).mono ?_); rintro e wn ⟨rfl, rfl⟩) | (go_at_call 65; (with_reducible refine (k2 _).mono ?_); rintro e wn ⟨rfl, rfl⟩) | (go_at_call 96; (with_reducible refine k3.mono ?_); rintro e w1 ⟨rfl, hb1⟩) | fail)
    go_ret
    exact ⟨rfl, HB.out⟩
  ·
    go_enter Try.func55, Try.ntmps55
    go_wp2_with (first | (go_at_call 65; (with_reducible refine (k1 _).mono ?_); rintro e wn ⟨rfl, rfl⟩) | (go_at_call 65; (with_reducible refine (k2 _).mono ?_); rintro e wn ⟨rfl, rfl⟩) | (go_at_call 96; (with_reducible refine k3.mono ?_); rintro e w1 ⟨rfl, hb1⟩) | fail)
    go_ret
    exact ⟨rfl, HB.out.trans (hb1.mono HB.out.size)⟩
theorem holds_two (W : World) (x y : Int) : HoldsI (W.alloc (.cells #[.int .i64 x, .int .i64 y] 3)) (some ⟨W.heap.size, 0, none⟩) [x, y] := holds_new W W.heap.size rfl [x, y] _ rfl
theorem holds_one (W : World) (x : Int) : HoldsI (W.alloc (.cells #[.int .i64 x] 3)) (some ⟨W.heap.size, 0, none⟩) [x] := holds_new W W.heap.size rfl [x] _ rfl
theorem within_two (lo hi x y : Int) (W : World) : Calls Try.prog 41 #[.int .i64 lo, .int .i64 hi, .slice (some ⟨W.heap.size, 0, none⟩) 2 2] (W.alloc (.cells #[.int .i64 x, .int .i64 y] 3)) fun e w' => e = .returned (.bool (Hp.inB lo hi x && Hp.inB lo hi y)) ∧ w' = W.alloc (.cells #[.int .i64 x, .int .i64 y] 3) := by
  rw [← Hp.all_two]
  exact within_i lo hi [x, y] _ 2 _ (by simp) (holds_two W x y)
theorem within_one (lo hi x : Int) (W : World) : Calls Try.prog 41 #[.int .i64 lo, .int .i64 hi, .slice (some ⟨W.heap.size, 0, none⟩) 1 1] (W.alloc (.cells #[.int .i64 x] 3)) fun e w' => e = .returned (.bool (Hp.inB lo hi x)) ∧ w' = W.alloc (.cells #[.int .i64 x] 3) := by
  rw [← Hp.all_one]
  exact within_i lo hi [x] _ 1 _ (by simp) (holds_one W x)
theorem within_oneB (lo hi x : Int) (W : World) (B : Nat) (hB : B = W.heap.size) : Calls Try.prog 41 #[.int .i64 lo, .int .i64 hi, .slice (some ⟨B, 0, none⟩) 1 1] (W.alloc (.cells #[.int .i64 x] 3)) fun e w' => e = .returned (.bool (Hp.inB lo hi x)) ∧ w' = W.alloc (.cells #[.int .i64 x] 3) := hB ▸ within_one lo hi x W
theorem within_twoB (lo hi x y : Int) (W : World) (B : Nat) (hB : B = W.heap.size) : Calls Try.prog 41 #[.int .i64 lo, .int .i64 hi, .slice (some ⟨B, 0, none⟩) 2 2] (W.alloc (.cells #[.int .i64 x, .int .i64 y] 3)) fun e w' => e = .returned (.bool (Hp.inB lo hi x && Hp.inB lo hi y)) ∧ w' = W.alloc (.cells #[.int .i64 x, .int .i64 y] 3) := hB ▸ within_two lo hi x y W
set_option maxHeartbeats 4000000 in
theorem sound_c (h : Hp.Hd) (s : Option Addr) (m : Nat) (W : World) (hl : h.cs.length ≤ 4398046511104) (hC : HoldsC W s h.cs) : Calls Try.prog 54 #[.agg (hvA h s m)] W fun e w' => e = .returned (.bool (Hp.sndB h)) ∧ Below W.heap.size W w' := by
  obtain ⟨WB, hWB⟩ : ∃ ww, ww = (W.alloc (.cells (hvA h s m) 26)) := ⟨_, rfl⟩
  have hb0 : Below W.heap.size W WB := by rw [hWB]; exact (below_alloc (Below.refl _ W) (Nat.le_refl _) _)
  have B0 := Lib.hid hb0
  have hH : Blk WB (W.heap.size) 26 (hvA h s m) := by
    have := Blk.new (W) 26 (hvA h s m)
    rw [hWB]
    exact (show Blk _ (W.heap.size) _ _ by simpa using this)
  have HH0 := Lib.hid hH
  have HWB := Lib.hid hWB
  clear hb0 hWB hH
  have kv := valid_c h.a h.b h.c h.d WB
  rw [HWB.out] at kv
  have ke := fun W1 : World => empty_c h.a h.b h.c h.d W1
  have kw1 := fun W1 : World => within_two 1 4096 h.tw h.th W1
  have kw2 := fun W1 : World => within_oneB 1 4 (h.cs.length : Int) (W1.alloc (.cells #[.int .i64 h.tw, .int .i64 h.th] 3)) (W1.heap.size + 1) (by simp)
  have HS := Lib.hid (show Hp.sndB h = (Hp.hdB h && h.cs.all (Hp.cmB (Hp.hR h))) from rfl)
  have HD := Lib.hid (show Hp.hdB h = (Pl.validB h.a h.b h.c h.d && (!Pl.emptyB h.a h.b h.c h.d && ((Hp.inB 1 4096 h.tw && Hp.inB 1 4096 h.th) && Hp.inB 1 4 (h.cs.length : Int)))) from rfl)
  cases hv : Pl.validB h.a h.b h.c h.d with
  | false =>
    have e : Hp.sndB h = false := by rw [HS.out, HD.out, hv]; rfl
    rw [e]
    rw [hv] at kv
    clear hv e
    unfold hvA at kv ⊢
    go_enter Try.func54, Try.ntmps54
    go_wp2_with (first | (go_at_call 56; (with_reducible refine kv.mono ?_); rintro e w1 ⟨rfl, hb1⟩; have hb := (show Below WB.heap.size WB w1 by rw [HWB.out]; exact hb1); clear hb1; have B1 := Lib.hid (B0.out.trans (hb.mono B0.out.size)); have HH1 := Lib.hid (HH0.out.below hb); obtain ⟨h0, h1, h2, h3, h4, h5, h6⟩ := HH1.out.hd; clear hb) | (go_at_call 26; (with_reducible refine (ke _).mono ?_); rintro e w2 ⟨rfl, hb2⟩; clear h0 h1 h2 h3 h4 h5 h6; have B2 := Lib.hid (B1.out.trans (hb2.mono B1.out.size)); have HH2 := Lib.hid (HH1.out.below hb2); obtain ⟨h0, h1, h2, h3, h4, h5, h6⟩ := HH2.out.hd; clear hb2; have B3 := Lib.hid (below_alloc B2.out B2.out.size (.cells #[.int .i64 h.tw, .int .i64 h.th] 3)); have HH3 := Lib.hid (HH2.out.alloc (.cells #[.int .i64 h.tw, .int .i64 h.th] 3)); have g6 := HH3.out.hd.2.2.2.2.2.2; have HH4 := Lib.hid (HH3.out.alloc (.cells #[.int .i64 (h.cs.length : Int)] 3)); have B4 := Lib.hid (below_alloc B3.out B3.out.size (.cells #[.int .i64 (h.cs.length : Int)] 3)); have i6 := HH4.out.hd.2.2.2.2.2.2) | (go_at_call 41; (with_reducible refine (kw1 _).mono ?_); rintro e w4 ⟨rfl, rfl⟩) | (go_at_call 41; (with_reducible refine (kw2 _).mono ?_); rintro e w5 ⟨rfl, rfl⟩) | fail)
    go_ret
    exact ⟨rfl, B1.out⟩
  | true =>
    rw [hv] at kv
    cases he : Pl.emptyB h.a h.b h.c h.d with
    | true =>
      have e : Hp.sndB h = false := by rw [HS.out, HD.out, hv, he]; rfl
      rw [e]
      rw [he] at ke
      clear hv he e
      unfold hvA at kv ⊢
      go_enter Try.func54, Try.ntmps54
      go_wp2_with (first | (go_at_call 56; (with_reducible refine kv.mono ?_); rintro e w1 ⟨rfl, hb1⟩; have hb := (show Below WB.heap.size WB w1 by rw [HWB.out]; exact hb1); clear hb1; have B1 := Lib.hid (B0.out.trans (hb.mono B0.out.size)); have HH1 := Lib.hid (HH0.out.below hb); obtain ⟨h0, h1, h2, h3, h4, h5, h6⟩ := HH1.out.hd; clear hb) | (go_at_call 26; (with_reducible refine (ke _).mono ?_); rintro e w2 ⟨rfl, hb2⟩; clear h0 h1 h2 h3 h4 h5 h6; have B2 := Lib.hid (B1.out.trans (hb2.mono B1.out.size)); have HH2 := Lib.hid (HH1.out.below hb2); obtain ⟨h0, h1, h2, h3, h4, h5, h6⟩ := HH2.out.hd; clear hb2; have B3 := Lib.hid (below_alloc B2.out B2.out.size (.cells #[.int .i64 h.tw, .int .i64 h.th] 3)); have HH3 := Lib.hid (HH2.out.alloc (.cells #[.int .i64 h.tw, .int .i64 h.th] 3)); have g6 := HH3.out.hd.2.2.2.2.2.2; have HH4 := Lib.hid (HH3.out.alloc (.cells #[.int .i64 (h.cs.length : Int)] 3)); have B4 := Lib.hid (below_alloc B3.out B3.out.size (.cells #[.int .i64 (h.cs.length : Int)] 3)); have i6 := HH4.out.hd.2.2.2.2.2.2) | (go_at_call 41; (with_reducible refine (kw1 _).mono ?_); rintro e w4 ⟨rfl, rfl⟩) | (go_at_call 41; (with_reducible refine (kw2 _).mono ?_); rintro e w5 ⟨rfl, rfl⟩) | fail)
      go_ret
      exact ⟨rfl, B2.out⟩
    | false =>
      rw [he] at ke
      cases ha : (Hp.inB 1 4096 h.tw && Hp.inB 1 4096 h.th) with
      | false =>
        have e : Hp.sndB h = false := by rw [HS.out, HD.out, hv, he, ha]; rfl
        rw [e]
        rw [ha] at kw1
        clear hv he ha e
        unfold hvA at kv ⊢
        go_enter Try.func54, Try.ntmps54
        go_wp2_with (first | (go_at_call 56; (with_reducible refine kv.mono ?_); rintro e w1 ⟨rfl, hb1⟩; have hb := (show Below WB.heap.size WB w1 by rw [HWB.out]; exact hb1); clear hb1; have B1 := Lib.hid (B0.out.trans (hb.mono B0.out.size)); have HH1 := Lib.hid (HH0.out.below hb); obtain ⟨h0, h1, h2, h3, h4, h5, h6⟩ := HH1.out.hd; clear hb) | (go_at_call 26; (with_reducible refine (ke _).mono ?_); rintro e w2 ⟨rfl, hb2⟩; clear h0 h1 h2 h3 h4 h5 h6; have B2 := Lib.hid (B1.out.trans (hb2.mono B1.out.size)); have HH2 := Lib.hid (HH1.out.below hb2); obtain ⟨h0, h1, h2, h3, h4, h5, h6⟩ := HH2.out.hd; clear hb2; have B3 := Lib.hid (below_alloc B2.out B2.out.size (.cells #[.int .i64 h.tw, .int .i64 h.th] 3)); have HH3 := Lib.hid (HH2.out.alloc (.cells #[.int .i64 h.tw, .int .i64 h.th] 3)); have g6 := HH3.out.hd.2.2.2.2.2.2; have HH4 := Lib.hid (HH3.out.alloc (.cells #[.int .i64 (h.cs.length : Int)] 3)); have B4 := Lib.hid (below_alloc B3.out B3.out.size (.cells #[.int .i64 (h.cs.length : Int)] 3)); have i6 := HH4.out.hd.2.2.2.2.2.2) | (go_at_call 41; (with_reducible refine (kw1 _).mono ?_); rintro e w4 ⟨rfl, rfl⟩) | (go_at_call 41; (with_reducible refine (kw2 _).mono ?_); rintro e w5 ⟨rfl, rfl⟩) | fail)
        go_ret
        exact ⟨rfl, B3.out⟩
      | true =>
        rw [ha] at kw1
        cases hn : Hp.inB 1 4 (h.cs.length : Int) with
        | false =>
          have e : Hp.sndB h = false := by rw [HS.out, HD.out, hv, he, ha, hn]; rfl
          rw [e]
          rw [hn] at kw2
          clear hv he ha hn e
          unfold hvA at kv ⊢
          go_enter Try.func54, Try.ntmps54
          go_wp2_with (first | (go_at_call 56; (with_reducible refine kv.mono ?_); rintro e w1 ⟨rfl, hb1⟩; have hb := (show Below WB.heap.size WB w1 by rw [HWB.out]; exact hb1); clear hb1; have B1 := Lib.hid (B0.out.trans (hb.mono B0.out.size)); have HH1 := Lib.hid (HH0.out.below hb); obtain ⟨h0, h1, h2, h3, h4, h5, h6⟩ := HH1.out.hd; clear hb) | (go_at_call 26; (with_reducible refine (ke _).mono ?_); rintro e w2 ⟨rfl, hb2⟩; clear h0 h1 h2 h3 h4 h5 h6; have B2 := Lib.hid (B1.out.trans (hb2.mono B1.out.size)); have HH2 := Lib.hid (HH1.out.below hb2); obtain ⟨h0, h1, h2, h3, h4, h5, h6⟩ := HH2.out.hd; clear hb2; have B3 := Lib.hid (below_alloc B2.out B2.out.size (.cells #[.int .i64 h.tw, .int .i64 h.th] 3)); have HH3 := Lib.hid (HH2.out.alloc (.cells #[.int .i64 h.tw, .int .i64 h.th] 3)); have g6 := HH3.out.hd.2.2.2.2.2.2; have HH4 := Lib.hid (HH3.out.alloc (.cells #[.int .i64 (h.cs.length : Int)] 3)); have B4 := Lib.hid (below_alloc B3.out B3.out.size (.cells #[.int .i64 (h.cs.length : Int)] 3)); have i6 := HH4.out.hd.2.2.2.2.2.2) | (go_at_call 41; (with_reducible refine (kw1 _).mono ?_); rintro e w4 ⟨rfl, rfl⟩) | (go_at_call 41; (with_reducible refine (kw2 _).mono ?_); rintro e w5 ⟨rfl, rfl⟩) | fail)
          go_ret
          exact ⟨rfl, below_alloc B3.out B3.out.size _⟩
        | true =>
          rw [hn] at kw2
          have HE := Lib.hid (show Hp.sndB h = h.cs.all (Hp.cmB (Hp.hR h)) by rw [HS.out, HD.out, hv, he, ha, hn]; rfl)
          clear hv he ha hn HS HD
          unfold hvA at kv ⊢
          go_enter Try.func54, Try.ntmps54
          go_upto_region 3 with (first | (go_at_call 56; (with_reducible refine kv.mono ?_); rintro e w1 ⟨rfl, hb1⟩; have hb := (show Below WB.heap.size WB w1 by rw [HWB.out]; exact hb1); clear hb1; have B1 := Lib.hid (B0.out.trans (hb.mono B0.out.size)); have HH1 := Lib.hid (HH0.out.below hb); obtain ⟨h0, h1, h2, h3, h4, h5, h6⟩ := HH1.out.hd; clear hb) | (go_at_call 26; (with_reducible refine (ke _).mono ?_); rintro e w2 ⟨rfl, hb2⟩; clear h0 h1 h2 h3 h4 h5 h6; have B2 := Lib.hid (B1.out.trans (hb2.mono B1.out.size)); have HH2 := Lib.hid (HH1.out.below hb2); obtain ⟨h0, h1, h2, h3, h4, h5, h6⟩ := HH2.out.hd; clear hb2; have B3 := Lib.hid (below_alloc B2.out B2.out.size (.cells #[.int .i64 h.tw, .int .i64 h.th] 3)); have HH3 := Lib.hid (HH2.out.alloc (.cells #[.int .i64 h.tw, .int .i64 h.th] 3)); have g6 := HH3.out.hd.2.2.2.2.2.2; have HH4 := Lib.hid (HH3.out.alloc (.cells #[.int .i64 (h.cs.length : Int)] 3)); have B4 := Lib.hid (below_alloc B3.out B3.out.size (.cells #[.int .i64 (h.cs.length : Int)] 3)); have i6 := HH4.out.hd.2.2.2.2.2.2) | (go_at_call 41; (with_reducible refine (kw1 _).mono ?_); rintro e w4 ⟨rfl, rfl⟩) | (go_at_call 41; (with_reducible refine (kw2 _).mono ?_); rintro e w5 ⟨rfl, rfl⟩) | fail)
          obtain ⟨w6, hw6⟩ : ∃ w6, w6 = (w2.alloc (.cells #[.int .i64 h.tw, .int .i64 h.th] 3)).alloc (.cells #[.int .i64 (h.cs.length : Int)] 3) := ⟨_, rfl⟩
          have HH6 := Lib.hid (show Blk w6 W.heap.size 26 (hvA h s m) by rw [hw6]; exact HH4.out)
          have B6 := Lib.hid (show Below W.heap.size W w6 by rw [hw6]; exact B4.out)
          rw [← hw6]
          clear hw6 h0 h1 h2 h3 h4 h5 h6 g6 i6
          obtain ⟨h0, h1, h2, h3, h4, h5, h6⟩ := HH6.out.hd
          go_wp2_with fail
          clear h0 h1 h2 h3 h4 h5 h6
          clear kv ke kw1 kw2
          go_loopw [34] (fun i wr => ∃ k : Nat, k ≤ h.cs.length ∧ i = .int .i64 k ∧ (∀ j (hj : j < h.cs.length), j < k → Hp.cmB (Hp.hR h) h.cs[j] = true) ∧ Below W.heap.size W wr ∧ Blk wr W.heap.size 26 (hvA h s m)) (fun i _ => h.cs.length - (intOf i).toNat)
          case atStart => exact ⟨0, Nat.zero_le _, rfl, fun j _ h => absurd h (Nat.not_lt_zero _), B6.out, HH6.out⟩
          case round =>
            obtain ⟨k, hk, rfl, hall, hbe, hbl⟩ := hrel
            have HA : Hid _ := hall
            have HBe := Lib.hid hbe
            have HBl := Lib.hid hbl
            clear hall hbl B6 HH6 B0 B1 B2 B3 B4 HH0 HH1 HH2 HH3 HH4 HWB
            by_cases hlt : k < h.cs.length
            · rcases hC with hC | ⟨bb, off, rfl, hr⟩
              · rw [hC] at hlt; simp at hlt
              have hcm := (hr k hlt).below hbe (Nat.le_refl _)
              clear hbe
              have hki : (k : Int) < (h.cs.length : Int) := by omega
              have w2 : IntKind.i64.wrap ((k : Int) + 1) = (k : Int) + 1 := IntWalk.i64_in _ (by omega)
              have HF : Hid (Hp.cmB (Hp.hR h) h.cs[k] = false → h.cs.all (Hp.cmB (Hp.hR h)) = false) := fun q => List.all_eq_false.2 ⟨_, List.getElem_mem hlt, by rw [q]; decide⟩
              have HV : Hid (Hp.cmB (Hp.hR h) h.cs[k] = true → ∀ j (hj : j < h.cs.length), j < k + 1 → Hp.cmB (Hp.hR h) h.cs[j] = true) := fun a j hj hjk => if e : j = k then by subst e; exact a else HA.out j hj (by omega)
              generalize h.cs[k] = V at *
              have HCM := Lib.hid (show Hp.cmB (Hp.hR h) V = (Hp.inB 1 16 V.depth && ((Hp.inB 1 4 V.dx && Hp.inB 1 4 V.dy) && !Hp.emR (Hp.smp (Hp.hR h) V))) from rfl)
              obtain ⟨c0, c1, c2, c3⟩ := hcm
              obtain ⟨X1, hX1⟩ : ∃ x, x = wr.alloc (.cells #[.int .i64 V.depth, .bool V.sg, .int .i64 V.dx, .int .i64 V.dy] 56) := ⟨_, rfl⟩
              have HC1 : Blk X1 wr.heap.size 56 #[.int .i64 V.depth, .bool V.sg, .int .i64 V.dx, .int .i64 V.dy] := by rw [hX1]; exact Blk.new _ _ _
              have HL1 : Blk X1 W.heap.size 26 (hvA h (some ⟨bb, off, none⟩) m) := by rw [hX1]; exact HBl.out.alloc _
              have BB1 : Below W.heap.size W X1 := by rw [hX1]; exact below_alloc HBe.out HBe.out.size _
              have hs1 : X1.heap.size = wr.heap.size + 1 := by rw [hX1]; simp
              have HC2 := Lib.hid (HC1.alloc (.cells #[.int .i64 V.depth] 3))
              have HL2 := Lib.hid (HL1.alloc (.cells #[.int .i64 V.depth] 3))
              have BB2 := Lib.hid (below_alloc BB1 BB1.size (.cells #[.int .i64 V.depth] 3))
              have HC3 := Lib.hid (HC2.out.alloc (.cells #[.int .i64 V.dx, .int .i64 V.dy] 3))
              have HL3 := Lib.hid (HL2.out.alloc (.cells #[.int .i64 V.dx, .int .i64 V.dy] 3))
              have BB3 := Lib.hid (below_alloc BB2.out BB2.out.size (.cells #[.int .i64 V.dx, .int .i64 V.dy] 3))
              have kd := within_oneB 1 16 V.depth X1 (wr.heap.size + 1) hs1.symm
              have kxy := within_twoB 1 4 V.dx V.dy (X1.alloc (.cells #[.int .i64 V.depth] 3)) (wr.heap.size + 1 + 1) (by simp [hs1])
              have ks := samples_c (Hp.hR h) V ((X1.alloc (.cells #[.int .i64 V.depth] 3)).alloc (.cells #[.int .i64 V.dx, .int .i64 V.dy] 3))
              have ke := fun W1 : World => empty_c (Hp.smp (Hp.hR h) V).x0 (Hp.smp (Hp.hR h) V).y0 (Hp.smp (Hp.hR h) V).x1 (Hp.smp (Hp.hR h) V).y1 W1
              obtain ⟨Q, hQ⟩ : ∃ q, Hp.smp (Hp.hR h) V = q := ⟨_, rfl⟩
              rw [hQ] at ks ke
              have HEM := Lib.hid (show Hp.emR (Hp.smp (Hp.hR h) V) = Pl.emptyB Q.x0 Q.y0 Q.x1 Q.y1 by rw [hQ]; rfl)
              clear hQ
              obtain ⟨p0, p1, p2, p3⟩ := HC2.out.four
              obtain ⟨q0, q1, q2, q3⟩ := HC3.out.four
              obtain ⟨h0, h1, h2, h3, -, -, -⟩ := HL3.out.hd
              dsimp only [rv, Hp.hR] at ks
              rw [hX1] at kd kxy ks p0 p1 p2 p3 q0 q1 q2 q3 h0 h1 h2 h3
              have HX1 := Lib.hid hX1
              clear HC1 HL1 hX1 hs1
              cases hd1 : Hp.inB 1 16 V.depth with
              | false =>
                have hf := Lib.hid (HF.out (by rw [HCM.out, hd1]; rfl))
                rw [hd1] at kd
                clear HF HV HA hd1
                go_wp2_with (first | (go_at_call 41; (with_reducible refine kd.mono ?_); rintro e wn ⟨rfl, rfl⟩) | fail)
                go_ret
                exact ⟨congrArg (fun b => Ending.returned (.bool b)) (HE.out.trans hf.out).symm, HX1.out ▸ BB2.out⟩
              | true =>
                rw [hd1] at kd
                cases hd2 : (Hp.inB 1 4 V.dx && Hp.inB 1 4 V.dy) with
                | false =>
                  have hf := Lib.hid (HF.out (by rw [HCM.out, hd1, hd2]; rfl))
                  rw [hd2] at kxy
                  clear HF HV HA hd1 hd2
                  go_wp2_with (first | (go_at_call 41; (with_reducible refine kd.mono ?_); rintro e wn ⟨rfl, rfl⟩) | (go_at_call 41; (with_reducible refine kxy.mono ?_); rintro e wn ⟨rfl, rfl⟩) | fail)
                  go_ret
                  exact ⟨congrArg (fun b => Ending.returned (.bool b)) (HE.out.trans hf.out).symm, HX1.out ▸ BB3.out⟩
                | true =>
                  rw [hd2] at kxy
                  cases hem : Hp.emR (Hp.smp (Hp.hR h) V) with
                  | true =>
                    have hf := Lib.hid (HF.out (by rw [HCM.out, hd1, hd2, hem]; rfl))
                    rw [← HEM.out, hem] at ke
                    clear HF HV HA hd1 hd2 hem HCM HEM
                    go_wp2_with (first | (go_at_call 41; (with_reducible refine kd.mono ?_); rintro e wn ⟨rfl, rfl⟩) | (go_at_call 41; (with_reducible refine kxy.mono ?_); rintro e wn ⟨rfl, rfl⟩) | (go_at_call 69; (with_reducible refine ks.mono ?_); rintro e wn ⟨rfl, hbn⟩; have BBn := Lib.hid (BB3.out.trans ((show Below _ _ wn from HX1.out ▸ hbn).mono BB3.out.size)); clear hbn) | (go_at_call 26; (with_reducible refine (ke _).mono ?_); rintro e wm ⟨rfl, hbm⟩; have BBm := Lib.hid (BBn.out.trans (hbm.mono BBn.out.size)); clear hbm) | fail)
                    go_ret
                    exact ⟨congrArg (fun b => Ending.returned (.bool b)) (HE.out.trans hf.out).symm, BBm.out⟩
                  | false =>
                    have HN : Hid _ := HV.out (by rw [HCM.out, hd1, hd2, hem]; rfl)
                    rw [← HEM.out, hem] at ke
                    clear HF HV HA hd1 hd2 hem HCM HEM
                    go_wp2_with (first | (go_at_call 41; (with_reducible refine kd.mono ?_); rintro e wn ⟨rfl, rfl⟩) | (go_at_call 41; (with_reducible refine kxy.mono ?_); rintro e wn ⟨rfl, rfl⟩) | (go_at_call 69; (with_reducible refine ks.mono ?_); rintro e wn ⟨rfl, hbn⟩; have hbn := (show Below _ _ wn from HX1.out ▸ hbn); have BBn := Lib.hid (BB3.out.trans (hbn.mono BB3.out.size)); have HLn := Lib.hid (HL3.out.below hbn); clear hbn) | (go_at_call 26; (with_reducible refine (ke _).mono ?_); rintro e wm ⟨rfl, hbm⟩; have BBm := Lib.hid (BBn.out.trans (hbm.mono BBn.out.size)); have HLm := Lib.hid (HLn.out.below hbm); clear hbm) | fail)
                    go_roundw
                    case rel => exact ⟨k + 1, by omega, by go_num, HN.out, BBm.out, HLm.out⟩
                    case measure => simp [intOf]; omega
            · obtain rfl : k = h.cs.length := by omega
              have hf := Lib.hid (show h.cs.all (Hp.cmB (Hp.hR h)) = true from List.all_eq_true.2 fun x hx => by
                obtain ⟨j, hj, rfl⟩ := List.getElem_of_mem hx
                exact HA.out j hj hj)
              clear HA
              go_wp2
              go_ret
              exact ⟨congrArg (fun b => Ending.returned (.bool b)) (HE.out.trans hf.out).symm, HBe.out⟩
set_option maxHeartbeats 1000000 in
theorem header_c (h : Hp.Hd) (s : Option Addr) (m : Nat) (W : World) (hl : h.cs.length ≤ 4398046511104) (hC : HoldsC W s h.cs) : Calls Try.prog 24 #[.agg (hvA h s m)] W fun e w' => e = .returned (.int .i64 (Hp.headM h)) ∧ Below W.heap.size W w' := by
  obtain ⟨WB, hWB⟩ : ∃ ww, ww = (W.alloc (.cells (hvA h s m) 26)) := ⟨_, rfl⟩
  have hb0 : Below W.heap.size W WB := by rw [hWB]; exact (below_alloc (Below.refl _ W) (Nat.le_refl _) _)
  have B0 := Lib.hid hb0
  have hH : Blk WB (W.heap.size) 26 (hvA h s m) := by
    have := Blk.new (W) 26 (hvA h s m)
    rw [hWB]
    exact (show Blk _ (W.heap.size) _ _ by simpa using this)
  have HH0 := Lib.hid hH
  have HWB := Lib.hid hWB
  clear hb0 hWB hH
  have k1 := sound_c h s m WB hl (by rw [HWB.out]; exact hC.alloc _)
  rw [HWB.out] at k1
  have HM := Lib.hid (show Hp.headM h = if Hp.sndB h = false then 12 else if Hp.bigB h = true then 5 else 0 from rfl)
  cases hs : Hp.sndB h with
  | false =>
    rw [HM.out, if_pos hs]
    rw [hs] at k1
    clear hs HM
    unfold hvA at k1 ⊢
    go_enter Try.func24, Try.ntmps24
    go_wp2_with (first | (go_at_call 54; (with_reducible refine k1.mono ?_); rintro e w1 ⟨rfl, hb1⟩; have hb := (show Below WB.heap.size WB w1 by rw [HWB.out]; exact hb1); clear hb1; have B1 := Lib.hid (B0.out.trans (hb.mono B0.out.size)); have HH1 := Lib.hid (HH0.out.below hb); obtain ⟨h0, h1, h2, h3, h4, h5, h6⟩ := HH1.out.hd; clear hb) | fail)
    go_ret
    exact ⟨rfl, B1.out⟩
  | true =>
    have hd : Hp.hdB h = true := by
      have : Hp.sndB h = (Hp.hdB h && h.cs.all (Hp.cmB (Hp.hR h))) := rfl
      rw [hs] at this
      simpa using (Bool.and_eq_true_iff.1 this.symm).1
    have k2 := fun (W1 : World) (h1 : HoldsC W1 s h.cs) => tooLarge_c h s m W1 hd h1
    have HK := Lib.hid (fun (W1 : World) (hb : Below W.heap.size W W1) => k2 W1 (hC.below hb (Nat.le_refl _)))
    clear k2
    rw [HM.out, if_neg (by rw [hs]; decide)]
    rw [hs] at k1
    clear hs HM hd
    cases hbg : Hp.bigB h with
    | true =>
      rw [hbg] at HK
      rw [if_pos rfl]
      clear hbg
      unfold hvA at k1 ⊢
      go_enter Try.func24, Try.ntmps24
      go_wp2_with (first | (go_at_call 54; (with_reducible refine k1.mono ?_); rintro e w1 ⟨rfl, hb1⟩; have hb := (show Below WB.heap.size WB w1 by rw [HWB.out]; exact hb1); clear hb1; have B1 := Lib.hid (B0.out.trans (hb.mono B0.out.size)); have HH1 := Lib.hid (HH0.out.below hb); obtain ⟨h0, h1, h2, h3, h4, h5, h6⟩ := HH1.out.hd; clear hb; have k2 := HK.out w1 B1.out; unfold hvA at k2) | (go_at_call 55; (with_reducible refine k2.mono ?_); rintro e w2 ⟨rfl, hb2⟩) | fail)
      go_ret
      exact ⟨rfl, B1.out.trans (hb2.mono B1.out.size)⟩
    | false =>
      rw [hbg] at HK
      rw [if_neg (by decide)]
      clear hbg
      unfold hvA at k1 ⊢
      go_enter Try.func24, Try.ntmps24
      go_wp2_with (first | (go_at_call 54; (with_reducible refine k1.mono ?_); rintro e w1 ⟨rfl, hb1⟩; have hb := (show Below WB.heap.size WB w1 by rw [HWB.out]; exact hb1); clear hb1; have B1 := Lib.hid (B0.out.trans (hb.mono B0.out.size)); have HH1 := Lib.hid (HH0.out.below hb); obtain ⟨h0, h1, h2, h3, h4, h5, h6⟩ := HH1.out.hd; clear hb; have k2 := HK.out w1 B1.out; unfold hvA at k2) | (go_at_call 55; (with_reducible refine k2.mono ?_); rintro e w2 ⟨rfl, hb2⟩) | fail)
      go_ret
      exact ⟨rfl, B1.out.trans (hb2.mono B1.out.size)⟩
end Go.Proofs.Ytkcjbehfhcmiaaa
