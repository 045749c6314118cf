/-
  Layer 14: Segments, told where its list lies.
-/
import Derived.Test.YtnmmgjbjnhiaoaaDoorPb
set_option maxRecDepth 100000
namespace Go.Proofs.YtnmmgjbjnhiaoaaDoor
open Go.RowKit

/-- A list of numbers in memory of the call's own. -/
def GivesJ (l : List Int) (w : World) (e : Ending) (w' : World) : Prop := ∃ s m, e = .returned (.slice s l.length m) ∧ HoldsI w' s l ∧ Below w.heap.size w w' ∧ ∀ p, s = some p → w.heap.size ≤ p.block ∧ p.block < w'.heap.size
set_option maxHeartbeats 8000000 in
theorem segsJ_t (p : Nat) (b s c y : Bool) (h1 : 1 ≤ p) (h2 : p ≤ 178) (w : World) : Calls Tryd.prog 56 #[.int .i64 (p : Int), .agg #[.bool b, .bool true, .bool s, .bool c, .bool y]] w (GivesJ (segC b true p) w) := by
  obtain ⟨i0, hi, hz0, hz1, hz2⟩ := info_parts infoI
  have hI : Hid (SegAt w ⟨b, true, s, c, y⟩ [] (.slice none 0 0) (w.alloc (.cells #[.bool b, .bool true, .bool s, .bool c, .bool y] 43))) := ⟨World.ownsRow_nil _ _ _ _, Blk.new w 43 _, below_alloc (Below.refl _ w) _⟩
  have g1 : ¬ (p : Int) < 1 := by omega
  have g2 : ¬ (178 : Int) < p := by omega
  have H2 := Lib.hid h2
  clear h1 h2
  go_enter Tryd.func56, Tryd.ntmps56
  go_wp2_with fail
  clear g1 g2
  go_loopw [5, 6, 14] (fun z q i wr => ∃ (k : Nat) (sv : Value), k ≤ p ∧ i = .int .i64 (k : Int) ∧ z = sv ∧ Hid (SegAt w ⟨b, true, s, c, y⟩ (segC b true k) sv wr)) (fun _ _ i _ => p - (intOf i).toNat)
  case atStart => exact ⟨0, _, Nat.zero_le _, rfl, rfl, hI⟩
  case round =>
    obtain ⟨k, sv, hk, rfl, hz, hT⟩ := hrel
    obtain ⟨s5, m5, rfl⟩ := own_slice hT.out.own
    subst hz
    have hK := Lib.hid (show k ≤ 178 by have := H2.out; omega)
    by_cases hlt : k < p
    · obtain ⟨l, hl⟩ : ∃ l, l = segC b true k := ⟨_, rfl⟩
      rw [← hl] at hT ⊢
      have hlen := segC_len b true k
      have hin := segC_in b true k
      rw [← hl] at hlen hin
      have hl178 : l.length ≤ 178 := by have := hK.out; omega
      have HL := Lib.hid hl
      have HT := Lib.hid hT.out
      have HLn := Lib.hid hlen
      have HIN := Lib.hid hin
      clear hl hlen hin
      obtain ⟨m0, m1, m2, m3, m4⟩ := HT.out.cells
      have wk : IntKind.i64.wrap ((k : Int) - 1) = (k : Int) - 1 := by rw [IntWalk.i64_left]; unfold wrap64; have := hK.out; omega
      by_cases hk0 : k = 0
      · have kk : ((k : Int) == 0) = true := by simp [hk0]
        have KK := Lib.hid hk0
        clear hk0
        go_wp2_with fail
        go_quiet (fail)
        replace HT := Lib.hid (HT.out.step (drewN_below wr nq))
        generalize wr.drewN nq = w1 at *
        have hws := HT.out.below.size
        go_wp2_with (first | (at_builtin; refine wpList_append_own_at _ rfl _ _ 28 rfl w.heap.size 3 i0 (.int .i64 0) 1 8 Tryd.underlying28 hi hz0 hz1 hz2 rfl (by decide) _ l.length _ rfl (own_below HT.out.own ((Below.refl _ _).alloc (Nat.le_refl _) _)) ⟨w1.heap.size, 0, none⟩ 1 1 [.int .i64 0] rfl rfl (one_new8 _ _ _) (by intro u hu; simp at hu; subst hu; rfl) (by unfold maxLen; omega) (by omega) (by simp; omega) ?_))
        intro v' w2 hown hgrow _ _
        have T2 := HT.out.grow hown hgrow
        clear hown hgrow hws
        obtain ⟨g, pc, rfl, c9, f9, T3⟩ := T2.at (n := l.length) (by simp)
        have e9 : (l ++ [(0 : Int)]).getD l.length 0 = 0 := by simp
        rw [e9] at c9 T3
        have T4 := Lib.hid T3
        have HN := Lib.hid (show newSeg b true k = true from by unfold newSeg; rw [KK.out]; rfl)
        clear T2 T3 e9 wk
        have hp178 := H2.out
        go_wp2_with fail
        go_roundw
        case rel =>
          refine ⟨k + 1, _, by omega, by go_num, rfl, ?_⟩
          have := T4.out
          rw [segC, HN.out, if_pos rfl, ← HL.out]
          exact this
        case measure => simp [intOf]; omega
      · have kk : ((k : Int) == 0) = false := by simp [hk0]
        have KK := Lib.hid hk0
        clear hk0
        go_wp2_with fail
        go_quiet (fail)
        replace HT := Lib.hid (HT.out.step (drewN_below wr nq))
        generalize wr.drewN nq = w1 at *
        have hws := HT.out.below.size
        go_wp2_with (first | (at_builtin; refine wpList_append_own_at _ rfl _ _ 28 rfl w.heap.size 3 i0 (.int .i64 0) 1 8 Tryd.underlying28 hi hz0 hz1 hz2 rfl (by decide) _ l.length _ rfl (own_below HT.out.own ((Below.refl _ _).alloc (Nat.le_refl _) _)) ⟨w1.heap.size, 0, none⟩ 1 1 [.int .i64 0] rfl rfl (one_new8 _ _ _) (by intro u hu; simp at hu; subst hu; rfl) (by unfold maxLen; omega) (by omega) (by simp; omega) ?_))
        intro v' w2 hown hgrow _ _
        have T2 := HT.out.grow hown hgrow
        clear hown hgrow hws
        obtain ⟨g, pc, rfl, c9, f9, T3⟩ := T2.at (n := l.length) (by simp)
        have e9 : (l ++ [(0 : Int)]).getD l.length 0 = 0 := by simp
        rw [e9] at c9 T3
        have T4 := Lib.hid T3
        have HN := Lib.hid (show newSeg b true k = true from by unfold newSeg; simp)
        clear T2 T3 e9 wk
        have hp178 := H2.out
        go_wp2_with fail
        go_roundw
        case rel =>
          refine ⟨k + 1, _, by omega, by go_num, rfl, ?_⟩
          have := T4.out
          rw [segC, HN.out, if_pos rfl, ← HL.out]
          exact this
        case measure => simp [intOf]; omega
    · obtain rfl : k = p := by omega
      go_wp2_with fail
      go_ret
      obtain ⟨_, h⟩ := own_holds hT.out.own
      exact ⟨s5, m5, rfl, h, hT.out.below, by intro p hp; obtain ⟨h1, ds, h2⟩ := own_foot hT.out.own (k := p.block) (by rw [hp]; rfl); exact ⟨h1, h2.lt⟩⟩
set_option maxHeartbeats 8000000 in
theorem segsJ_f (p : Nat) (b s c y : Bool) (h1 : 1 ≤ p) (h2 : p ≤ 178) (w : World) : Calls Tryd.prog 56 #[.int .i64 (p : Int), .agg #[.bool b, .bool false, .bool s, .bool c, .bool y]] w (GivesJ (segC b false p) w) := by
  obtain ⟨i0, hi, hz0, hz1, hz2⟩ := info_parts infoI
  have hI : Hid (SegAt w ⟨b, false, s, c, y⟩ [] (.slice none 0 0) (w.alloc (.cells #[.bool b, .bool false, .bool s, .bool c, .bool y] 43))) := ⟨World.ownsRow_nil _ _ _ _, Blk.new w 43 _, below_alloc (Below.refl _ w) _⟩
  have g1 : ¬ (p : Int) < 1 := by omega
  have g2 : ¬ (178 : Int) < p := by omega
  have H2 := Lib.hid h2
  clear h1 h2
  go_enter Tryd.func56, Tryd.ntmps56
  go_wp2_with fail
  clear g1 g2
  go_loopw [5, 6, 14] (fun z q i wr => ∃ (k : Nat) (sv : Value), k ≤ p ∧ i = .int .i64 (k : Int) ∧ z = sv ∧ Hid (SegAt w ⟨b, false, s, c, y⟩ (segC b false k) sv wr)) (fun _ _ i _ => p - (intOf i).toNat)
  case atStart => exact ⟨0, _, Nat.zero_le _, rfl, rfl, hI⟩
  case round =>
    obtain ⟨k, sv, hk, rfl, hz, hT⟩ := hrel
    obtain ⟨s5, m5, rfl⟩ := own_slice hT.out.own
    subst hz
    have hK := Lib.hid (show k ≤ 178 by have := H2.out; omega)
    by_cases hlt : k < p
    · obtain ⟨l, hl⟩ : ∃ l, l = segC b false k := ⟨_, rfl⟩
      rw [← hl] at hT ⊢
      have hlen := segC_len b false k
      have hin := segC_in b false k
      rw [← hl] at hlen hin
      have hl178 : l.length ≤ 178 := by have := hK.out; omega
      have HL := Lib.hid hl
      have HT := Lib.hid hT.out
      have HLn := Lib.hid hlen
      have HIN := Lib.hid hin
      clear hl hlen hin
      obtain ⟨m0, m1, m2, m3, m4⟩ := HT.out.cells
      have wk : IntKind.i64.wrap ((k : Int) - 1) = (k : Int) - 1 := by rw [IntWalk.i64_left]; unfold wrap64; have := hK.out; omega
      by_cases hk0 : k = 0
      · have kk : ((k : Int) == 0) = true := by simp [hk0]
        have KK := Lib.hid hk0
        clear hk0
        go_wp2_with fail
        go_quiet (fail)
        replace HT := Lib.hid (HT.out.step (drewN_below wr nq))
        generalize wr.drewN nq = w1 at *
        have hws := HT.out.below.size
        go_wp2_with (first | (at_builtin; refine wpList_append_own_at _ rfl _ _ 28 rfl w.heap.size 3 i0 (.int .i64 0) 1 8 Tryd.underlying28 hi hz0 hz1 hz2 rfl (by decide) _ l.length _ rfl (own_below HT.out.own ((Below.refl _ _).alloc (Nat.le_refl _) _)) ⟨w1.heap.size, 0, none⟩ 1 1 [.int .i64 0] rfl rfl (one_new8 _ _ _) (by intro u hu; simp at hu; subst hu; rfl) (by unfold maxLen; omega) (by omega) (by simp; omega) ?_))
        intro v' w2 hown hgrow _ _
        have T2 := HT.out.grow hown hgrow
        clear hown hgrow hws
        obtain ⟨g, pc, rfl, c9, f9, T3⟩ := T2.at (n := l.length) (by simp)
        have e9 : (l ++ [(0 : Int)]).getD l.length 0 = 0 := by simp
        rw [e9] at c9 T3
        have T4 := Lib.hid T3
        have HN := Lib.hid (show newSeg b false k = true from by unfold newSeg; rw [KK.out]; rfl)
        clear T2 T3 e9 wk
        have hp178 := H2.out
        go_wp2_with fail
        go_roundw
        case rel =>
          refine ⟨k + 1, _, by omega, by go_num, rfl, ?_⟩
          have := T4.out
          rw [segC, HN.out, if_pos rfl, ← HL.out]
          exact this
        case measure => simp [intOf]; omega
      · have kk : ((k : Int) == 0) = false := by simp [hk0]
        have KK := Lib.hid hk0
        clear hk0
        have r1 := fun W => raw_c (k : Int) ⟨b, false, s, c, y⟩ (by have := hK.out; omega) W
        have r2 := fun W => raw_c ((k : Int) - 1) ⟨b, false, s, c, y⟩ (by have := hK.out; omega) W
        unfold Mo.val at r1 r2
        have HLT := Lib.hid HT.out.box.lt
        have n0 : wr.drew.cell? ⟨w.heap.size, 0, none⟩ = some (.bool b) := m0
        have n1 : wr.drew.cell? ⟨w.heap.size, 1, none⟩ = some (.bool false) := m1
        have n2 : wr.drew.cell? ⟨w.heap.size, 2, none⟩ = some (.bool s) := m2
        have n3 : wr.drew.cell? ⟨w.heap.size, 3, none⟩ = some (.bool c) := m3
        have n4 : wr.drew.cell? ⟨w.heap.size, 4, none⟩ = some (.bool y) := m4
        by_cases hd : (rawM (k : Int) b != rawM ((k : Int) - 1) b) = true
        · have HN0 := Lib.hid (show newSeg b false k = true by unfold newSeg; rw [hd]; simp)
          generalize rawM (k : Int) b = x1 at *
          generalize rawM ((k : Int) - 1) b = x2 at *
          have hd3 : (!x1 == x2) = true := by revert hd; cases x1 <;> cases x2 <;> simp
          go_wp2_with fail
          go_region_held3 (fun w' => w'.cell? ⟨w.heap.size, 0, none⟩ = some (.bool b) ∧ w'.cell? ⟨w.heap.size, 1, none⟩ = some (.bool false) ∧ w'.cell? ⟨w.heap.size, 2, none⟩ = some (.bool s) ∧ w'.cell? ⟨w.heap.size, 3, none⟩ = some (.bool c) ∧ w'.cell? ⟨w.heap.size, 4, none⟩ = some (.bool y))
            (first | (with_reducible exact ⟨m0, m1, m2, m3, m4⟩) | (with_reducible exact ⟨n0, n1, n2, n3, n4⟩) | (with_reducible exact ⟨d0, d1, d2, d3, d4⟩) | (with_reducible exact ⟨e0, e1, e2, e3, e4⟩) | fail)
            (first | (go_simp; go_at_call 58; first | ((with_reducible refine (r1 _).mono ?_); rintro e w5 ⟨rfl, hb5⟩; have B5 := Lib.hid hb5; have d0 := (hb5.cell (p := ⟨w.heap.size, 0, none⟩) HLT.out).trans m0; have d1 := (hb5.cell (p := ⟨w.heap.size, 1, none⟩) HLT.out).trans m1; have d2 := (hb5.cell (p := ⟨w.heap.size, 2, none⟩) HLT.out).trans m2; have d3 := (hb5.cell (p := ⟨w.heap.size, 3, none⟩) HLT.out).trans m3; have d4 := (hb5.cell (p := ⟨w.heap.size, 4, none⟩) HLT.out).trans m4; clear hb5) | ((with_reducible refine (r2 _).mono ?_); rintro e w6 ⟨rfl, hb6⟩; have B6 := Lib.hid (below_call B5.out hb6); have e0 := (B6.out.cell (p := ⟨w.heap.size, 0, none⟩) HLT.out).trans m0; have e1 := (B6.out.cell (p := ⟨w.heap.size, 1, none⟩) HLT.out).trans m1; have e2 := (B6.out.cell (p := ⟨w.heap.size, 2, none⟩) HLT.out).trans m2; have e3 := (B6.out.cell (p := ⟨w.heap.size, 3, none⟩) HLT.out).trans m3; have e4 := (B6.out.cell (p := ⟨w.heap.size, 4, none⟩) HLT.out).trans m4; clear hb6)) | fail)
          replace HT := Lib.hid (HT.out.step (below_call (Below.refl _ wr).drew B6.out))
          clear d0 d1 d2 d3 d4 e0 e1 e2 e3 e4 n0 n1 n2 n3 n4
          clear r1 r2 B5 B6 HLT
          have hws := HT.out.below.size
          go_wp2_with (first | (at_builtin; refine wpList_append_own_at _ rfl _ _ 28 rfl w.heap.size 3 i0 (.int .i64 0) 1 8 Tryd.underlying28 hi hz0 hz1 hz2 rfl (by decide) _ l.length _ rfl (own_below HT.out.own ((Below.refl _ _).alloc (Nat.le_refl _) _)) ⟨w6.heap.size, 0, none⟩ 1 1 [.int .i64 0] rfl rfl (one_new8 _ _ _) (by intro u hu; simp at hu; subst hu; rfl) (by unfold maxLen; omega) (by omega) (by simp; omega) ?_))
          intro v' w2 hown hgrow _ _
          have T2 := HT.out.grow hown hgrow
          clear hown hgrow hws
          obtain ⟨g, pc, rfl, c9, f9, T3⟩ := T2.at (n := l.length) (by simp)
          have e9 : (l ++ [(0 : Int)]).getD l.length 0 = 0 := by simp
          rw [e9] at c9 T3
          have T4 := Lib.hid T3
          have HN := Lib.hid (show newSeg b false k = true from HN0.out)
          clear T2 T3 e9 wk
          have hp178 := H2.out
          go_wp2_with fail
          go_roundw
          case rel =>
            refine ⟨k + 1, _, by omega, by go_num, rfl, ?_⟩
            have := T4.out
            rw [segC, HN.out, if_pos rfl, ← HL.out]
            exact this
          case measure => simp [intOf]; omega
        · have hd2 : (rawM (k : Int) b != rawM ((k : Int) - 1) b) = false := by simpa using hd
          have HN0 := Lib.hid (show newSeg b false k = false by unfold newSeg; rw [hd2]; simp [KK.out])
          clear hd
          generalize rawM (k : Int) b = x1 at *
          generalize rawM ((k : Int) - 1) b = x2 at *
          have hd3 : (!x1 == x2) = false := by revert hd2; cases x1 <;> cases x2 <;> simp
          obtain ⟨n, hn⟩ : ∃ n, l.length = n + 1 := ⟨l.length - 1, by have := HLn.out.2 (by have := KK.out; omega); omega⟩
          rw [hn] at HT ⊢
          have hn178 : n ≤ 178 := by omega
          go_wp2_with fail
          go_region_held3 (fun w' => w'.cell? ⟨w.heap.size, 0, none⟩ = some (.bool b) ∧ w'.cell? ⟨w.heap.size, 1, none⟩ = some (.bool false) ∧ w'.cell? ⟨w.heap.size, 2, none⟩ = some (.bool s) ∧ w'.cell? ⟨w.heap.size, 3, none⟩ = some (.bool c) ∧ w'.cell? ⟨w.heap.size, 4, none⟩ = some (.bool y))
            (first | (with_reducible exact ⟨m0, m1, m2, m3, m4⟩) | (with_reducible exact ⟨n0, n1, n2, n3, n4⟩) | (with_reducible exact ⟨d0, d1, d2, d3, d4⟩) | (with_reducible exact ⟨e0, e1, e2, e3, e4⟩) | fail)
            (first | (go_simp; go_at_call 58; first | ((with_reducible refine (r1 _).mono ?_); rintro e w5 ⟨rfl, hb5⟩; have B5 := Lib.hid hb5; have d0 := (hb5.cell (p := ⟨w.heap.size, 0, none⟩) HLT.out).trans m0; have d1 := (hb5.cell (p := ⟨w.heap.size, 1, none⟩) HLT.out).trans m1; have d2 := (hb5.cell (p := ⟨w.heap.size, 2, none⟩) HLT.out).trans m2; have d3 := (hb5.cell (p := ⟨w.heap.size, 3, none⟩) HLT.out).trans m3; have d4 := (hb5.cell (p := ⟨w.heap.size, 4, none⟩) HLT.out).trans m4; clear hb5) | ((with_reducible refine (r2 _).mono ?_); rintro e w6 ⟨rfl, hb6⟩; have B6 := Lib.hid (below_call B5.out hb6); have e0 := (B6.out.cell (p := ⟨w.heap.size, 0, none⟩) HLT.out).trans m0; have e1 := (B6.out.cell (p := ⟨w.heap.size, 1, none⟩) HLT.out).trans m1; have e2 := (B6.out.cell (p := ⟨w.heap.size, 2, none⟩) HLT.out).trans m2; have e3 := (B6.out.cell (p := ⟨w.heap.size, 3, none⟩) HLT.out).trans m3; have e4 := (B6.out.cell (p := ⟨w.heap.size, 4, none⟩) HLT.out).trans m4; clear hb6)) | fail)
          replace HT := Lib.hid (HT.out.step (below_call (Below.refl _ wr).drew B6.out))
          clear d0 d1 d2 d3 d4 e0 e1 e2 e3 e4 n0 n1 n2 n3 n4
          clear r1 r2 B5 B6 HLT
          obtain ⟨g, pc, he, c9, f9, T3⟩ := HT.out.at (n := n) hn
          have T4 := Lib.hid T3
          have hxi := HIN.out (l.getD n 0) (by
            have e : l.getD n 0 = l[n]'(by omega) := by simp [List.getD, hn]
            rw [e]; exact List.getElem_mem _)
          generalize l.getD n 0 = x at *
          have wx : IntKind.i64.wrap (x + 1) = x + 1 := by rw [IntWalk.i64_left]; unfold wrap64; have := hK.out; omega
          have HX := Lib.hid hxi
          simp at he
          obtain ⟨rfl, rfl⟩ := he
          clear T3 wk hxi hn
          have hp178 := H2.out
          go_wp2_with fail
          go_roundw
          case rel =>
            refine ⟨k + 1, _, by omega, by go_num, rfl, ?_⟩
            have := T4.out
            rw [segC, HN0.out, if_neg (by simp), ← HL.out]
            exact this
          case measure => simp [intOf]; omega
    · obtain rfl : k = p := by omega
      go_wp2_with fail
      go_ret
      obtain ⟨_, h⟩ := own_holds hT.out.own
      exact ⟨s5, m5, rfl, h, hT.out.below, by intro p hp; obtain ⟨h1, ds, h2⟩ := own_foot hT.out.own (k := p.block) (by rw [hp]; rfl); exact ⟨h1, h2.lt⟩⟩
theorem segsJ_any (n : Nat) (m : Mo) (hn : n ≤ 178) (W : World) : Calls Tryd.prog 56 #[.int .i64 (n : Int), m.val] W (GivesJ (segs n m.b m.r) W) := by
  obtain ⟨b, r, s, c, y⟩ := m
  unfold segs Mo.val
  dsimp only
  by_cases h : (n : Int) < 1 ∨ 178 < (n : Int)
  · rw [if_pos h]
    have k := segs_no n ⟨b, r, s, c, y⟩ h W
    unfold Mo.val at k
    exact k.mono fun e w' z => ⟨none, 0, z.1, .inl rfl, z.2, fun p hp => by cases hp⟩
  · rw [if_neg h, Int.toNat_natCast]
    cases r with
    | true => exact segsJ_t n b s c y (by omega) (by omega) W
    | false => exact segsJ_f n b s c y (by omega) (by omega) W
end Go.Proofs.YtnmmgjbjnhiaoaaDoor
