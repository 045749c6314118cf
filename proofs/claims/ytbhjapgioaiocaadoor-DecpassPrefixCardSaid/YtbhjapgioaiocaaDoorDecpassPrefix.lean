/-
  For all blocks and numbers the statement DecpassPrefix returns true; they read afterwards as before.
  Conditions: none beyond those of the given statement (the listed variables are tied by the card).
-/
import Derived.Test.YtbhjapgioaiocaaDoorDp
import Derived.Test.YtbhjapgioaiocaaDoorTie
import Derived.Test.YtbhjapgioaiocaaDoorCards
import Derived.LaidMore
import Derived.Lay
import Derived.SevenTiedAt
import Derived.Stop.Joined
set_option maxRecDepth 100000
namespace Go.Proofs.YtbhjapgioaiocaaDoor.decpassPrefix
open Go.ChangeShapes Go.WideShapes Go.ChangeAt Go.RowKit Go.Joins Go.Deep

theorem getD_at {w : World} {s : Option Addr} {l : List Int} (h : HoldsI w s l) {k : Nat} (hk : k < l.length) : ∃ b off, s = some ⟨b, off, none⟩ ∧ w.cell? ⟨b, off + k, none⟩ = some (.int .i64 (l.getD k 0)) := h.at hk
set_option maxHeartbeats 16000000 in
theorem walk (b : BV) (k : Int) (W : World) (hT : Cx.Tabs W) (K : BVk W b) : Calls Tryd.prog 12 #[b.val, .int .i64 k] W fun e w' => e = .returned (.bool true) ∧ Below W.heap.size W w' := by
  have hE := fun {w1 : World} (hb : Below W.heap.size W w1) => ex16_c w1 (hT.below hb)
  have HT := Lib.hid hT
  have hal := below_alloc (Below.refl _ W) (.cells b.cs 68)
  have K1 := K.call hal
  have kS := small6_c b _ K1
  have MB := Blk.new W 68 b.cs
  have kP := xplanes_c b.s b.l b.cp (W.alloc (.cells b.cs 68)) K1.h K1.r (by have := K1.len; omega)
  have kV := fun W => xvalid_c b.o W
  have HA := Lib.hid hal
  have HMB := Lib.hid MB
  have HK := Lib.hid K
  have hmx := hmx
  obtain ⟨c0, c1, c2, c3, c4, c5, c6, c7, c8, c9⟩ := l6c MB
  by_cases hs : b.small
  · obtain ⟨w0, h0, hw, hh, w12, h12, hfit, hlen, hl144, hp60⟩ := small_ok6 hs
    have hok := okV_all6 K.r hp60
    rw [decide_eq_true hs] at kS
    obtain ⟨w, h, s, l, cp, sf, fl, cf, o, ⟨mb, mr, ms, mc, my⟩⟩ := b
    dsimp only at hw hh hlen hl144 hp60 hok
    subst hw hh
    unfold BV.val BV.cs at *
    dsimp only at *
    by_cases ho : 0 ≤ o ∧ o ≤ 3
    · rw [decide_eq_true ho] at kV
      by_cases hk0 : k < 0
      · generalize plnN l = pl at *
        clear hs K K1 hal MB hT hok ho hfit hlen hl144 hp60 w12 h12 HK
        go_enter Tryd.func12, Tryd.ntmps12
        go_wp2_with (first | (go_at_call 26; (with_reducible refine kP.mono ?_); rintro e wn ⟨rfl, rfl⟩) | (go_at_call 35; (with_reducible refine kS.mono ?_); rintro e w1 ⟨rfl, hb⟩; have H1 := Lib.hid (below_call HA.out hb); have B1 := Lib.hid (HMB.out.below hb); obtain ⟨c0, c1, c2, c3, c4, c5, c6, c7, c8, c9⟩ := l6c B1.out; clear hb) | (go_at_call 27; (with_reducible refine (kV _).mono ?_); rintro e wn ⟨rfl, rfl⟩) | (go_at_call 31; (with_reducible refine (hE H1.out).mono ?_); rintro e w2 ⟨rfl, hb⟩; have H2 := Lib.hid (below_call H1.out hb); clear hb))
        go_ret
        exact ⟨rfl, H2.out⟩
      · have hp60' : ((plnN l : Nat) : Int) ≤ 60 := by omega
        have wp1 : IntKind.i64.wrap (3 * (plnN l : Int)) = 3 * (plnN l : Int) := by rw [IntWalk.i64_left]; unfold wrap64; omega
        have wp2 : IntKind.i64.wrap (3 * (plnN l : Int) - 2) = 3 * (plnN l : Int) - 2 := by rw [IntWalk.i64_left]; unfold wrap64; omega
        by_cases hkp : max 0 (3 * (plnN l : Int) - 2) < k
        · generalize plnN l = pl at *
          clear hs K K1 hal MB hT hok ho hfit hlen hl144 hp60 hp60' w12 h12 HK
          go_enter Tryd.func12, Tryd.ntmps12
          go_wp2_with (first | (go_at_call 26; (with_reducible refine kP.mono ?_); rintro e wn ⟨rfl, rfl⟩) | (go_at_call 35; (with_reducible refine kS.mono ?_); rintro e w1 ⟨rfl, hb⟩; have H1 := Lib.hid (below_call HA.out hb); have B1 := Lib.hid (HMB.out.below hb); obtain ⟨c0, c1, c2, c3, c4, c5, c6, c7, c8, c9⟩ := l6c B1.out; clear hb) | (go_at_call 27; (with_reducible refine (kV _).mono ?_); rintro e wn ⟨rfl, rfl⟩) | (go_at_call 31; (with_reducible refine (hE H1.out).mono ?_); rintro e w2 ⟨rfl, hb⟩; have H2 := Lib.hid (below_call H1.out hb); clear hb))
          go_ret
          exact ⟨rfl, H2.out⟩
        · obtain ⟨n, rfl⟩ : ∃ n : Nat, k = n := ⟨k.toNat, by omega⟩
          have hnp : n ≤ 3 * plnN l - 2 := by omega
          obtain ⟨Ls, hLs⟩ : ∃ L, L = symL w0 h0 (plnN l) o ⟨mb, mr, ms, mc, my⟩ (setV w0 h0 l l.length) (3 * plnN l - 2) := ⟨_, rfl⟩
          have hLl : Ls.length = 3 * plnN l - 2 := by rw [hLs, symL_len]
          have k1 := fun w1 (hb : Below W.heap.size W w1) => symbols_c3 s l cp w0 h0 o ⟨mb, mr, ms, mc, my⟩ w1 hfit hlen ho (HK.out.call hb).h (HT.out.below hb) HK.out.r 0 Ls (fun ⟨v, hv, hn⟩ => absurd (hok v hv) hn) (fun _ => ⟨rfl, hLs⟩)
          have htl : (Ls.take n).length = n := by rw [List.length_take]; omega
          obtain ⟨vl, ml, v1, v2, v3, v4, v5, v6⟩ := val_pre w0 h0 l o ⟨mb, mr, ms, mc, my⟩ hfit hok hp60 hlen ho n hnp (Ls.take n) (by rw [hLs]; exact symL_take _ _ _ _ _ _ _ _ hnp)
          have kD := fun w1 (hb : Below W.heap.size W w1) (s2 : Option Addr) (m2 : Nat) (hW : HoldsW w1 s2 Ls) => dval_c s2 m2 (Ls.take n) (plnN l) w0 h0 o ⟨mb, mr, ms, mc, my⟩ w1 (HT.out.below hb) (hW.take n)
          rw [v1, v2, v3, htl] at kD
          unfold Mo.val at k1 kD
          dsimp only at k1 kD
          have hpb : n = 0 ∨ (0 ≤ plnP ((n : Int) - 1) ∧ plnP ((n : Int) - 1) ≤ (plnN l : Int) - 1) := by
            rcases Nat.eq_zero_or_pos n with h | h
            · exact .inl h
            · right
              have := pln_bound (plnN l) (n - 1) (by omega)
              rwa [show (((n - 1 : Nat) : Int)) = (n : Int) - 1 by omega] at this
          have kpp := fun W => passR_c ((n : Int) - 1) (by omega) W
          have wn1 : IntKind.i64.wrap ((n : Int) - 1) = (n : Int) - 1 := by rw [IntWalk.i64_left]; unfold wrap64; omega
          generalize plnP ((n : Int) - 1) = plq at *
          generalize kndP ((n : Int) - 1) = kd at *
          have wq1 : IntKind.i64.wrap ((plnN l : Int) - 1) = (plnN l : Int) - 1 := by rw [IntWalk.i64_left]; unfold wrap64; omega
          have wq2 : 0 < n → IntKind.i64.wrap ((plnN l : Int) - 1 - plq) = (plnN l : Int) - 1 - plq := fun _ => by rw [IntWalk.i64_left]; unfold wrap64; omega
          have wq3 : 0 < n → IntKind.i64.wrap ((plnN l : Int) - plq) = (plnN l : Int) - plq := fun _ => by rw [IntWalk.i64_left]; unfold wrap64; omega
          generalize plnN l = pl at *
          have HV6 := Lib.hid v6
          have HV4 := Lib.hid v4
          have HV5 := Lib.hid v5
          have HLL := Lib.hid hLl
          have H144 := Lib.hid hl144
          have H60 := Lib.hid hp60
          have HNP := Lib.hid hnp
          have HQ2 := Lib.hid wq2
          have HQ3 := Lib.hid wq3
          have nlt : ¬ (Ls.length : Int) < (n : Int) := by omega
          clear hs K K1 hal MB hT hok ho hfit hlen hl144 hp60 hp60' hLs w12 h12 v1 v2 v3 v4 v5 v6 htl hLl hnp hpb wq2 wq3
          go_enter Tryd.func12, Tryd.ntmps12
          go_wp2_with (first | (go_at_call 26; (with_reducible refine kP.mono ?_); rintro e wn ⟨rfl, rfl⟩) | (go_at_call 35; (with_reducible refine kS.mono ?_); rintro e w1 ⟨rfl, hb⟩; have H1 := Lib.hid (below_call HA.out hb); have B1 := Lib.hid (HMB.out.below hb); obtain ⟨c0, c1, c2, c3, c4, c5, c6, c7, c8, c9⟩ := l6c B1.out; clear hb) | (go_at_call 27; (with_reducible refine (kV _).mono ?_); rintro e wn ⟨rfl, rfl⟩) | (go_at_call 22; (with_reducible refine (k1 _ H1.out).mono ?_); rintro e w2 ⟨v2, rfl, hS, hb⟩; obtain ⟨s2, m2, rfl, hz2, hm2⟩ := ss_holdsW hS; have Z2 := Lib.hid hz2; have M2 := Lib.hid hm2; have H2 := Lib.hid (below_call H1.out hb); have B2 := Lib.hid (B1.out.below hb); clear c0 c1 c2 c3 c4 c5 c6 c7 c8 c9; clear hb hS hz2 hm2))
          have HD2 := Lib.hid (below_call H2.out (Below.refl w2.heap.size w2).drew)
          have BD := B2.out.below (Below.refl w2.heap.size w2).drew
          obtain ⟨c0, c1, c2, c3, c4, c5, c6, c7, c8, c9⟩ := l6c BD
          have cap2 : (n : Int) ≤ (m2 : Int) := by have := M2.out; have := HLL.out; have := HNP.out; omega
          have cap2' : n ≤ m2 := by omega
          have kD2 := kD _ HD2.out s2 m2 (Z2.out.call (Below.refl w2.heap.size w2).drew)
          have HBD := Lib.hid BD
          clear BD
          go_region_held3 (fun w' => w'.cell? ⟨W.heap.size, 0, none⟩ = some (.int .i64 (w0 : Int)) ∧ w'.cell? ⟨W.heap.size, 1, none⟩ = some (.int .i64 (h0 : Int)) ∧ w'.cell? ⟨W.heap.size, 4, none⟩ = some (.int .i64 o) ∧ w'.cell? ⟨W.heap.size, 5, none⟩ = some (.bool mb) ∧ w'.cell? ⟨W.heap.size, 6, none⟩ = some (.bool mr) ∧ w'.cell? ⟨W.heap.size, 7, none⟩ = some (.bool ms) ∧ w'.cell? ⟨W.heap.size, 8, none⟩ = some (.bool mc) ∧ w'.cell? ⟨W.heap.size, 9, none⟩ = some (.bool my))
            (first | (with_reducible exact ⟨c0, c1, c4, c5, c6, c7, c8, c9⟩) | (with_reducible exact ⟨d0, d1, d4, d5, d6, d7, d8, d9⟩) | fail)
            (first | (go_simp; go_at_call 32; (with_reducible refine kD2.mono ?_); rintro e w3 ⟨v, u, rfl, hS, hb⟩; obtain ⟨s3, m3, rfl, h3⟩ := tw_holdA l.length HV4.out hS; obtain ⟨s4, m4, rfl, h4⟩ := tw_holdB l.length HV5.out hS; have A3 := Lib.hid h3; have A4 := Lib.hid h4; have H3 := Lib.hid (below_call HD2.out hb); have B3 := Lib.hid (HBD.out.below hb); obtain ⟨d0, d1, d2, d3, d4, d5, d6, d7, d8, d9⟩ := l6c B3.out; clear hb hS h3 h4) | fail)
          all_goals
            clear c0 c1 c2 c3 c4 c5 c6 c7 c8 c9
            go_wp2_with (first | (go_at_call 29; (with_reducible refine (kpp _).mono ?_); rintro e wn ⟨rfl, rfl⟩))
            clear d0 d1 d2 d3 d4 d5 d6 d7 d8 d9 kpp
            go_loopw [104] (fun i wr => ∃ j : Nat, j ≤ l.length ∧ i = .int .i64 (j : Int) ∧ Hid (Below w3.heap.size w3 wr)) (fun i _ => (l.length - (intOf i).toNat))
            case atStart => exact ⟨0, by omega, rfl, Below.refl _ _⟩
            case round =>
              obtain ⟨j, hj, rfl, hB⟩ := hrel
              by_cases hlt : j < l.length
              · obtain ⟨mi, y1, y2, y3, y4, y5⟩ := HV6.out j hlt
                obtain ⟨b1, o1, rfl, e1⟩ := getD_at (A3.out.call hB.out) (show j < vl.length by have := HV4.out; omega)
                obtain ⟨b2, o2, rfl, e2⟩ := getD_at (A4.out.call hB.out) (show j < ml.length by have := HV5.out; omega)
                obtain ⟨b3, o3, rfl, e3⟩ := getD_at ((HK.out.call (below_call H3.out hB.out)).h) hlt
                rw [y1] at e2
                rw [y2] at e1
                obtain ⟨-, -, d2, -, -, -, -, -, -, -⟩ := l6c (B3.out.below hB.out)
                have kk := fun W => kept_c (l.getD j 0) mi y3 (by have := H60.out; omega) W
                have wj : IntKind.i64.wrap ((j : Int) + 1) = ((j + 1 : Nat) : Int) := by have := H144.out; rw [IntWalk.i64_left]; unfold wrap64; omega
                have m1 : ¬ (mi : Int) < 0 := by omega
                have m2' : ¬ (pl : Int) < (mi : Int) := by omega
                generalize l.getD j 0 = x at *
                have kk2 : ∀ q, Calls Tryd.prog 36 #[.int .i64 x, .int .i64 (mi : Int)] (wr.drewN q) fun e w' => e = .returned (.int .i64 (keptM x mi)) ∧ w' = wr.drewN q := fun q => kk _
                generalize keptM x mi = kx at *
                have hxx : (kx != kx) = false := by simp
                have HLT := Lib.hid hlt
                clear y1 y2 y3 kk hj hlt
                have y6 : (n = 0 ∧ (mi : Int) = (pl : Int)) ∨ (0 < n ∧ (mi : Int) = (pl : Int) - 1 - plq) ∨ (0 < n ∧ kd ≠ 2 ∧ (mi : Int) = (pl : Int) - plq) := by
                  rcases y5 with ⟨z1, z2⟩ | z | z
                  · exact .inl ⟨z1, by rw [z2]⟩
                  · exact .inr (.inl z)
                  · exact .inr (.inr z)
                clear y4 y5
                generalize ((mi : Nat) : Int) = mz at *
                rcases y6 with ⟨z1, z2⟩ | ⟨z1, z2⟩ | ⟨z1, z2, z3⟩
                · have n0 : (((n : Nat) : Int) == 0) = true := by simp; omega
                  have n1 : ¬ (0 : Int) < (n : Int) := by omega
                  have hmm : (mz != (pl : Int)) = false := by simp [z2]
                  have Z2 := Lib.hid z2
                  clear z1 z2
                  go_wp2_with fail
                  go_quiet ((go_at_call 36; exact Calls.quiet_of_same (kk2 _)))
                  have HB2 := Lib.hid (below_call hB.out (drewN_below wr nq))
                  have e2 := (drewN_below wr nq).cell (p := ⟨b2, o2 + j, none⟩) (cell_lt e2) |>.trans e2
                  generalize wr.drewN nq = wq at *
                  go_wp2_with fail
                  go_roundw
                  case rel => exact ⟨j + 1, HLT.out, by go_num, HB2⟩
                  case measure => have := HLT.out; simp [intOf]; omega
                · have n0 : (((n : Nat) : Int) == 0) = false := by simp; omega
                  have n1 : (0 : Int) < (n : Int) := by omega
                  have q2 := HQ2.out z1
                  have hmm : (mz != (pl : Int) - 1 - plq) = false := by simp [z2]
                  have Z2 := Lib.hid z2
                  clear z1 z2
                  go_wp2_with fail
                  go_quiet ((go_at_call 36; exact Calls.quiet_of_same (kk2 _)))
                  have HB2 := Lib.hid (below_call hB.out (drewN_below wr nq))
                  have e2 := (drewN_below wr nq).cell (p := ⟨b2, o2 + j, none⟩) (cell_lt e2) |>.trans e2
                  generalize wr.drewN nq = wq at *
                  go_wp2_with fail
                  go_roundw
                  case rel => exact ⟨j + 1, HLT.out, by go_num, HB2⟩
                  case measure => have := HLT.out; simp [intOf]; omega
                · have n0 : (((n : Nat) : Int) == 0) = false := by simp; omega
                  have n1 : (0 : Int) < (n : Int) := by omega
                  have q2 := HQ2.out z1
                  have q3 := HQ3.out z1
                  have hmm : (mz != (pl : Int) - 1 - plq) = true := by simp; omega
                  have hmm2 : (mz != (pl : Int) - plq) = false := by simp [z3]
                  have hk2 : (kd == 2) = false := by simp [z2]
                  have Z3 := Lib.hid z3
                  clear z1 z2 z3
                  go_wp2_with fail
                  go_quiet ((go_at_call 36; exact Calls.quiet_of_same (kk2 _)))
                  have HB2 := Lib.hid (below_call hB.out (drewN_below wr nq))
                  have e2 := (drewN_below wr nq).cell (p := ⟨b2, o2 + j, none⟩) (cell_lt e2) |>.trans e2
                  generalize wr.drewN nq = wq at *
                  go_wp2_with fail
                  go_roundw
                  case rel => exact ⟨j + 1, HLT.out, by go_num, HB2⟩
                  case measure => have := HLT.out; simp [intOf]; omega
              · have HBB := Lib.hid (below_call H3.out hB.out)
                have hE1 := hE HBB.out
                go_wp2_with (first | (go_at_call 31; (with_reducible refine hE1.mono ?_); rintro e w6 ⟨rfl, hb⟩; have H6 := Lib.hid (below_call HBB.out hb); clear hb))
                go_ret
                exact ⟨rfl, H6.out⟩
    · rw [decide_eq_false ho] at kV
      clear hs K K1 hal MB hT hok ho hfit hlen hl144 hp60 w12 h12
      generalize plnN l = pl at *
      generalize l.length = N at *
      go_enter Tryd.func12, Tryd.ntmps12
      go_wp2_with (first | (go_at_call 26; (with_reducible refine kP.mono ?_); rintro e wn ⟨rfl, rfl⟩) | (go_at_call 35; (with_reducible refine kS.mono ?_); rintro e w1 ⟨rfl, hb⟩; have H1 := Lib.hid (below_call HA.out hb); have B1 := Lib.hid (HMB.out.below hb); obtain ⟨c0, c1, c2, c3, c4, c5, c6, c7, c8, c9⟩ := l6c B1.out; clear hb) | (go_at_call 27; (with_reducible refine (kV _).mono ?_); rintro e wn ⟨rfl, rfl⟩) | (go_at_call 31; (with_reducible refine (hE H1.out).mono ?_); rintro e w2 ⟨rfl, hb⟩; have H2 := Lib.hid (below_call H1.out hb); clear hb))
      go_ret
      exact ⟨rfl, H2.out⟩
  · rw [decide_eq_false hs] at kS
    obtain ⟨w, h, s, l, cp, sf, fl, cf, o, ⟨mb, mr, ms, mc, my⟩⟩ := b
    unfold BV.val BV.cs at *
    dsimp only at *
    clear hs K K1 hal MB hT
    generalize plnN l = pl at *
    generalize l.length = N at *
    go_enter Tryd.func12, Tryd.ntmps12
    go_wp2_with (first | (go_at_call 26; (with_reducible refine kP.mono ?_); rintro e wn ⟨rfl, rfl⟩) | (go_at_call 35; (with_reducible refine kS.mono ?_); rintro e w1 ⟨rfl, hb⟩; have H1 := Lib.hid (below_call HA.out hb); have B1 := Lib.hid (HMB.out.below hb); obtain ⟨c0, c1, c2, c3, c4, c5, c6, c7, c8, c9⟩ := l6c B1.out; clear hb) | (go_at_call 31; (with_reducible refine (hE H1.out).mono ?_); rintro e w2 ⟨rfl, hb⟩; have H2 := Lib.hid (below_call H1.out hb); clear hb))
    go_ret
    exact ⟨rfl, H2.out⟩

set_option maxRecDepth 100000 in
theorem lifted (os : Os) (started : os.Started) (H : Type) (enc : TypeId × Value → H) :
    ReturnsInHanded {} Tryd.checked os 12 .any (fun w args => (Rows.decpassPrefixSpec.pre enc Tryd.prog Tryd.f12 Rows.decpassPrefixRow.domain false w args ∧ laidMetH Tryd.prog Rows.decpassPrefixRow.laid w) ∧ sizedMet enc Tryd.prog Tryd.f12 (OpenSpec.ofChange Rows.decpassPrefixSpec) false w args)
      (Rows.decpassPrefixSpec.post enc Tryd.prog Tryd.f12 false true false false) := by
  refine returnsInHanded_of_change_and (C := Tryd.checked) (X := fun w _ => laidMetH Tryd.prog Rows.decpassPrefixRow.laid w) (fun _ _ _ hh h => h.of_heap hh) own started (by kernel_rfl) Tryd.func12
    (ChangeSpec.witness_shaped (enc := enc) (C := Tryd.checked) (os := os) (X := fun w _ => laidMetH Tryd.prog Rows.decpassPrefixRow.laid w) false (World.laidAll Tryd.prog os Rows.decpassPrefixRow.laid) #[.agg #[.int .i64 0, .int .i64 0, .slice none 0 0, .slice none 0 0, .int .i64 0, .bool false, .bool false, .bool false, .bool false, .bool false], .int .i64 0] 8 (World.laidAll_os _ _ _)
      (World.shaped_of_ZipB (by kernel_rfl) (by kernel_rfl)) (by kernel_rfl) (by kernel_rfl) (by kernel_rfl)
      (by rw [MakeChecks.laidMetH_plain _ _ _ (by kernel_rfl)]; exact laidMet_laidAll _ (by kernel_rfl) (by kernel_rfl))) ?_
  intro W base args ds gs before hval0 hW _ _ hL _
  have hval : ∀ (j : Nat) t v, Tryd.f12.params[j]? = some t → args[j]? = some v → Value.okWide Tryd.prog W .any base t v := hval0
  have hT : Cx.Tabs W := Cx.tabs_of_laid hL
  have hW' := hW
  obtain ⟨p, q, hA0, hV, rfl, _, _⟩ := hW
  have hA : DataW.TrodAll enc Tryd.prog W 0 (fun _ => true) true Tryd.f12.params.toList args.toList ds p := hA0
  rw [Tryd.params12] at hA hval
  obtain ⟨v0, vs0, d0, ds0, p0, q0, hargs, rfl, rfl, h0, r0⟩ := trodAll_cons hA
  obtain ⟨v1, vs1, d1, ds1, p1, q1, rfl, rfl, rfl, h1, r1⟩ := trodAll_cons r0
  obtain ⟨rfl, rfl, rfl⟩ := trodAll_nil r1
  obtain rfl : args = #[v0, v1] := by cases args; simp_all
  obtain ⟨rfl, rfl⟩ := trodVars_none hV
  clear hA0 hval0
  simp only [List.append_nil] at hW'
  have l0 : ∀ x ∈ p0, x.block < W.heap.size := fun x hx => hW'.lt x (by simp [hx])
  have l1 : ∀ x ∈ p1, x.block < W.heap.size := fun x hx => hW'.lt x (by simp [hx])
  obtain ⟨B0, rfl, hB0⟩ := open_L6 (hval 0 68 v0 rfl rfl) h0
  obtain ⟨i1, rfl, _, _, wi1⟩ := open_int Tryd.underlying3 (hval 1 3 v1 rfl rfl) h1
  refine (walk B0 i1 W hT hB0).mono fun e W' ⟨he, hb⟩ => ?_
  subst he
  exact ⟨_, rfl, post_low (pa := p0 ++ (p1 ++ ([]))) (pv := []) hW' (fun _ _ _ => (trodAll_cons_mk (shut_bool Tryd.underlying4 _) trodAll_mk0)) (fun sp hsp => (trodAll_cons_mk (trod_low laidOut (by kernel_rfl) (of_decide_eq_true (by kernel_rfl)) h0 hb l0 (fun x hx => hsp x (by simp [hx]))) (trodAll_cons_mk (trod_low laidOut (by kernel_rfl) (of_decide_eq_true (by kernel_rfl)) h1 hb l1 (fun x hx => hsp x (by simp [hx]))) trodAll_mk0))) (fun _ _ => rfl) (by simp) hb (ok_one (by kernel_rfl) rfl (okWide_bool_mk Tryd.underlying4 _))⟩

theorem over : Rows.decpassPrefixRow.holds Tryd.pinned (OpenSpec.ofChange Rows.decpassPrefixSpec) :=
  OpenClaim.holds_of_wide 12 Tryd.f12 rfl rfl rfl rfl rfl rfl rfl ⟨rfl, rfl, rfl, rfl, rfl⟩ rfl rfl rfl rfl rfl (by kernel_rfl) Tryd.func12 (by kernel_rfl)
    (of_decide_eq_true (by kernel_rfl)) (by unfold Func.isWrapper; first | (rw [if_pos (by decide +kernel)]; kernel_rfl) | (rw [if_neg (by decide +kernel)]; exact ⟨rfl, rfl⟩))
    (fun os started H enc _ => lifted os started H enc)
theorem proved : Rows.DecpassPrefixCardSaid :=
  Claim7.holds_tied_plain_at .later [] [.data, .data, .data] true Rows.decpassPrefixCard.stood.harness false over (fun _ h => by cases h) (by kernel_rfl) (fun _ h => by cases h) decpassPrefix_row_tie rfl ⟨rfl, rfl⟩ (by kernel_rfl) rfl
    (fun f fn hf hfn => by
      obtain rfl : f = 12 := Option.some.inj ((show Tryd.prog.funcNamed Rows.decpassPrefixRow.func = some 12 by kernel_rfl).symm.trans hf) |>.symm
      obtain rfl : fn = Tryd.f12 := (Option.some.inj (Tryd.func12.symm.trans hfn)).symm
      exact ⟨by kernel_rfl, fun j t ht => by
        rw [Tryd.params12] at ht
        have hm : t ∈ [68, 3] := by simpa using Array.mem_of_getElem? ht
        have hall : ([68, 3].all fun u => !Tryd.prog.wantsStandIn u) = true := by kernel_rfl
        exact (show Tryd.prog.wantsStandIn t = false by simpa using List.all_eq_true.1 hall t hm)⟩)
    (by kernel_rfl)
#print axioms proved
end Go.Proofs.YtbhjapgioaiocaaDoor.decpassPrefix
