/-
  For all lists of integers and shapes the statement BlockencFits returns true; they read afterwards as before.
  Conditions: none beyond those of the given statement (the listed variables are tied by the card).
-/
import Derived.Test.YtklchodbnjebnaaDoorNU
import Derived.Test.YtklchodbnjebnaaDoorTie
import Derived.Test.YtklchodbnjebnaaDoorCards
import Derived.LaidMore
import Derived.Lay
import Derived.SevenTiedAt
import Derived.Stop.Joined
set_option maxRecDepth 100000
namespace Go.Proofs.YtklchodbnjebnaaDoor.blockencFits
open Go.ChangeShapes Go.WideShapes Go.ChangeAt Go.RowKit Go.Joins Go.Deep

theorem sh8 {w : World} {g : Nat} {sw sh so : Int} {mb mr ms mc my : Bool} (h : Blk w g 39 #[.int .i64 sw, .int .i64 sh, .int .i64 so, .bool mb, .bool mr, .bool ms, .bool mc, .bool my]) : w.cell? ⟨g, 0, none⟩ = some (.int .i64 sw) ∧ w.cell? ⟨g, 1, none⟩ = some (.int .i64 sh) ∧ w.cell? ⟨g, 2, none⟩ = some (.int .i64 so) ∧ w.cell? ⟨g, 3, none⟩ = some (.bool mb) ∧ w.cell? ⟨g, 4, none⟩ = some (.bool mr) ∧ w.cell? ⟨g, 5, none⟩ = some (.bool ms) ∧ w.cell? ⟨g, 6, none⟩ = some (.bool mc) ∧ w.cell? ⟨g, 7, none⟩ = some (.bool my) := ⟨h.cell 0, h.cell 1, h.cell 2, h.cell 3, h.cell 4, h.cell 5, h.cell 6, h.cell 7⟩
theorem en_open {W w' : World} {l : List Int} {w h o : Int} {m : Mo} {e : Ending} (z : EnG W l w h o m e w') : ∃ (x0 : Int) (se : Option Addr) (ne me : Nat) (sd : Option Addr) (nd md : Nat) (c : Int), e = .returned (.tuple #[.agg #[.int .i64 x0, .slice se ne me, .slice sd nd md], .int .i64 c]) ∧ Below W.heap.size W w' ∧
    ((c ≠ 0 ∧ x0 = 0 ∧ ne = 0 ∧ nd = 0) ∨ (c = 0 ∧ symE l w h o = 0 ∧ x0 = plnN l ∧ ne = (encC w.toNat h.toNat l o m).E.length ∧ nd = (encC w.toNat h.toNat l o m).D.length ∧ (encC w.toNat h.toNat l o m).D.length ≤ 65535 ∧ CvAt w' (.agg #[.int .i64 x0, .slice se ne me, .slice sd nd md]) (plnN l) (encC w.toNat h.toNat l o m).E (encC w.toNat h.toNat l o m).D)) := by
  obtain ⟨hb, z⟩ := z
  rcases z with ⟨c, _, h2, rfl⟩ | ⟨h1, ⟨_, rfl⟩ | ⟨h2, v, rfl, h3, _⟩⟩
  · exact ⟨0, none, 0, 0, none, 0, 0, c, rfl, hb, .inl ⟨h2, rfl, rfl, rfl⟩⟩
  · exact ⟨0, none, 0, 0, none, 0, 0, 5, rfl, hb, .inl ⟨by decide, rfl, rfl, rfl⟩⟩
  · have h4 := h3
    obtain ⟨se, me, sd, md, rfl, _⟩ := h4
    exact ⟨_, se, _, me, sd, _, md, 0, rfl, hb, .inr ⟨rfl, h1, rfl, rfl, rfl, h2, h3⟩⟩
theorem symE_ok {l : List Int} {w h o : Int} (z : symE l w h o = 0) : fits w h ∧ (l.length : Int) = w * h ∧ (0 ≤ o ∧ o ≤ 3) ∧ ∀ v ∈ l, okV v := by
  unfold symE at z
  by_cases h1 : fits w h
  · rw [if_neg (by simpa using h1)] at z
    by_cases h2 : (l.length : Int) ≠ w * h
    · rw [if_pos h2] at z; omega
    · rw [if_neg h2] at z
      by_cases h3 : o < 0 ∨ 3 < o
      · rw [if_pos h3] at z; omega
      · rw [if_neg h3] at z
        by_cases h4 : ∃ v ∈ l, ¬ okV v
        · rw [if_pos h4] at z; omega
        · exact ⟨h1, by simpa using h2, by omega, fun v hv => Classical.byContradiction fun hn => h4 ⟨v, hv, hn⟩⟩
  · rw [if_pos h1] at z; omega
theorem en_va {l : List Int} {w h o : Int} {m : Mo} (z : symE l w h o = 0) (h144 : l.length ≤ 144) (h65 : (encC w.toNat h.toNat l o m).D.length ≤ 65535) : vaE (plnN l) (encC w.toNat h.toNat l o m).E (encC w.toNat h.toNat l o m).D.length = 0 ∧ (encC w.toNat h.toNat l o m).E.length = 3 * plnN l - 2 ∧ (plnN l = 0 → (encC w.toNat h.toNat l o m).D = []) := by
  obtain ⟨h1, h2, _, h4⟩ := symE_ok z
  unfold fits at h1
  refine enc_va (by omega) ?_ h4 h65
  have h5 : ((w.toNat * h.toNat : Nat) : Int) = w * h := by rw [Int.natCast_mul, Int.toNat_of_nonneg (by omega), Int.toNat_of_nonneg (by omega)]
  omega
set_option maxHeartbeats 8000000 in
theorem walk (s : Option Addr) (l : List Int) (cp : Nat) (sv : ShV) (W : World) (hT : Cx.Tabs W) (hH : HoldsI W s l) (hr : ∀ v ∈ l, i64R v) : Calls Tryd.prog 5 #[.slice s l.length cp, sv.val] W fun e w' => e = .returned (.bool true) ∧ Below W.heap.size W w' := by
  have hA := fun (w1 : World) (hb : Below W.heap.size W w1) => awake17_c w1 (hT.below hb)
  have hmx9 := fun x y : Int => hmx x y
  obtain ⟨sw, sh, so, ⟨mb, mr, ms, mc, my⟩⟩ := sv
  unfold ShV.val ShV.cs
  dsimp only
  obtain ⟨WA, hWA⟩ : ∃ x, x = W.alloc (.cells #[.int .i64 sw, .int .i64 sh, .int .i64 so, .bool mb, .bool mr, .bool ms, .bool mc, .bool my] 39) := ⟨_, rfl⟩
  have hB : Below W.heap.size W WA := by rw [hWA]; exact below_alloc (Below.refl _ W) _
  have hX : Blk WA W.heap.size 39 #[.int .i64 sw, .int .i64 sh, .int .i64 so, .bool mb, .bool mr, .bool ms, .bool mc, .bool my] := by rw [hWA]; exact Blk.new W _ _
  have HX := Lib.hid hX
  have HB := Lib.hid hB
  have HWA := Lib.hid hWA
  have HAW := Lib.hid hA
  have HH := Lib.hid hH
  have HR := Lib.hid hr
  by_cases h144 : l.length ≤ 144
  · have ke := encode_c s l cp sw sh so ⟨mb, mr, ms, mc, my⟩ WA h144 (hH.below hB (Nat.le_refl _)) (hT.below hB) hr
    unfold Mo.val at ke
    dsimp only at ke
    rw [hWA] at ke
    have h144i : ¬ (144 : Int) < (l.length : Int) := by omega
    have H144 := Lib.hid h144
    clear hA hT hB hX hWA hH hr h144
    go_enter Tryd.func5, Tryd.ntmps5
    go_upto_region 4 with (first | (go_at_call 15; (with_reducible refine ke.mono ?_); rintro e w1 z; obtain ⟨x0, se, ne, me, sd, nd, md9, cc, rfl, hb, hz⟩ := en_open z; have B1 := Lib.hid (show Below WA.heap.size WA w1 by rw [HWA.out]; exact hb); have Z1 := Lib.hid hz; have X1 := Lib.hid ((HX.out.below B1.out).alloc (.cells #[.int .i64 x0, .slice se ne me, .slice sd nd md9] 25)); have C1 := Lib.hid (Blk.new w1 25 #[.int .i64 x0, .slice se ne me, .slice sd nd md9]); have W1 := Lib.hid (below_alloc (below_call HB.out B1.out) (.cells #[.int .i64 x0, .slice se ne me, .slice sd nd md9] 25)); clear z hb hz))
    obtain ⟨c0, c1, c2⟩ : (w1.alloc (.cells #[.int .i64 x0, .slice se ne me, .slice sd nd md9] 25)).cell? ⟨w1.heap.size, 0, none⟩ = some (.int .i64 x0) ∧ (w1.alloc (.cells #[.int .i64 x0, .slice se ne me, .slice sd nd md9] 25)).cell? ⟨w1.heap.size, 1, none⟩ = some (.slice se ne me) ∧ (w1.alloc (.cells #[.int .i64 x0, .slice se ne me, .slice sd nd md9] 25)).cell? ⟨w1.heap.size, 2, none⟩ = some (.slice sd nd md9) := ⟨C1.out.cell 0, C1.out.cell 1, C1.out.cell 2⟩
    obtain ⟨y0, y1, y2, y3, y4, y5, y6, y7⟩ := sh8 X1.out
    rcases Z1.out with ⟨q1, rfl, rfl, rfl⟩ | ⟨rfl, q1, hx0, hne, hnd, q2, hcv⟩
    · have ka := HAW.out _ W1.out
      clear ke Z1
      go_wp2_with (first | (go_at_call 9; (with_reducible refine ka.mono ?_); rintro e w9 ⟨rfl, hb9⟩; have W9 := Lib.hid (below_call W1.out hb9); clear hb9))
      go_ret
      exact ⟨rfl, W9.out⟩
    · obtain ⟨v1, v2, v3⟩ := en_va q1 H144.out q2
      obtain ⟨f1, _, _, f4⟩ := symE_ok q1
      have hpl := pln60 f4
      have hmx64 : mxN l < 1152921504606846976 := mxN_lt l _ (by decide) fun v hv => by have := f4 v hv; unfold okV at this; omega
      obtain ⟨pl, hple⟩ : ∃ p, p = plnN l := ⟨_, rfl⟩
      obtain ⟨E, hE⟩ : ∃ p, p = (encC sw.toNat sh.toNat l so ⟨mb, mr, ms, mc, my⟩).E := ⟨_, rfl⟩
      obtain ⟨D, hD⟩ : ∃ p, p = (encC sw.toNat sh.toNat l so ⟨mb, mr, ms, mc, my⟩).D := ⟨_, rfl⟩
      rw [← hE, ← hD, ← hple] at v1
      rw [← hE, ← hple] at v2
      rw [← hD, ← hple] at v3
      rw [← hD] at hnd q2
      rw [← hE] at hne
      rw [← hple] at hx0 hpl
      rw [← hE, ← hD, ← hple] at hcv
      subst hx0 hne hnd
      have HPL := Lib.hid hple
      have HV1 := Lib.hid v1
      have HV2 := Lib.hid v2
      have HV3 := Lib.hid v3
      have HOK := Lib.hid f4
      have HP6 := Lib.hid hpl
      have HM64 := Lib.hid hmx64
      have HCV := Lib.hid hcv
      obtain ⟨WB, hWB⟩ : ∃ x, x = w1.alloc (.cells #[.int .i64 (pl : Int), .slice se E.length me, .slice sd D.length md9] 25) := ⟨_, rfl⟩
      rw [← hWB] at c0 c1 c2 y0 y1 y2 y3 y4 y5 y6 y7 X1 C1 W1
      have HWB := Lib.hid hWB
      have HZ := Lib.hid (show HoldsI WB s l by rw [HWB.out]; exact HH.out.below (by rw [← HWB.out]; exact W1.out) (Nat.le_refl _))
      clear ke Z1 hcv hple hE hD v1 v2 v3 q2 hpl hmx64 f1 f4 q1 hWB
      go_wp2_with fail
      rw [← HWB.out]
      go_loopw [7, 50] (fun e i wr => ∃ k : Nat, k ≤ l.length ∧ i = .int .i64 (k : Int) ∧ e = .int .i64 (mxN (l.take k) : Int) ∧ wr = WB) (fun _ i _ => l.length - (intOf i).toNat)
      case atStart => exact ⟨0, Nat.zero_le _, rfl, rfl, rfl⟩
      case round =>
        obtain ⟨k, hk, rfl, rfl, hwr⟩ := hrel
        obtain rfl := hwr.symm
        clear hwr
        by_cases hlt : k < l.length
        · obtain ⟨b, off, rfl, hA⟩ := HZ.out.resolve_left (fun h => by rw [h] at hlt; simp at hlt)
          have c9 := hA k hlt
          have hnx := mxN_take l k hlt
          have hv := HR.out _ (List.getElem_mem hlt)
          have hok := HOK.out _ (List.getElem_mem hlt)
          unfold okV at hok
          obtain ⟨v, hve⟩ : ∃ v, v = l[k] := ⟨_, rfl⟩
          rw [← hve] at c9 hnx hv hok
          have wv : IntKind.i64.wrap (-v) = -v := by unfold i64R at hv; rw [IntWalk.i64_left]; unfold wrap64; omega
          have hmm : max (max ((mxN (l.take k) : Nat) : Int) v) (-v) = ((mxN (l.take (k + 1)) : Nat) : Int) := by rw [hnx]; omega
          have hmn : max ((mxN (l.take k) : Nat) : Int) (max v (-v)) = ((mxN (l.take (k + 1)) : Nat) : Int) := by rw [hnx]; omega
          have wk : IntKind.i64.wrap ((k : Int) + 1) = ((k + 1 : Nat) : Int) := by have := H144.out; rw [IntWalk.i64_left]; unfold wrap64; omega
          have HLT := Lib.hid hlt
          clear hnx hv hok hve
          generalize ((mxN (l.take k) : Nat) : Int) = ma at *
          generalize hmb : ((mxN (l.take (k + 1)) : Nat) : Int) = mb at *
          have HMB := Lib.hid hmb
          clear hmb
          go_wp2_with fail
          go_roundw
          case rel => exact ⟨k + 1, HLT.out, by go_num, by rw [HMB.out], trivial⟩
          case measure => have := HLT.out; simp [intOf]; omega
        · have hkl : k = l.length := by omega
          subst hkl
          rw [List.take_length]
          obtain ⟨mx, hmxe⟩ : ∃ m, m = mxN l := ⟨_, rfl⟩
          rw [← hmxe]
          have hbit : ∀ j, pl ≤ j ↔ mx < 2 ^ j := fun j => by
            have h1 := bit_iff mx j (by have := HM64.out; omega)
            have h2 : pl = Lib.bitLen mx := by rw [HPL.out, hmxe]; rfl
            rw [h2]; exact h1
          have HBIT := Lib.hid hbit
          have HMX := Lib.hid (show mx < 1152921504606846976 by rw [hmxe]; exact HM64.out)
          clear hmxe hbit
          go_wp2_with fail
          go_loopw [7, 10] (fun e i wr => ∃ j : Nat, j ≤ pl ∧ i = .int .i64 (j : Int) ∧ e = .int .i64 ((mx / 2 ^ j : Nat) : Int) ∧ wr = WB) (fun e _ _ => (intOf e).toNat)
          case atStart => exact ⟨0, Nat.zero_le _, rfl, by simp, rfl⟩
          case round =>
            obtain ⟨j, hj, rfl, rfl, hwr⟩ := hrel
            obtain rfl := hwr.symm
            clear hwr
            have hp6 := HP6.out
            by_cases hz : mx / 2 ^ j = 0
            · have hjp : pl = j := by
                have h1 : mx < 2 ^ j := (Nat.div_eq_zero_iff_lt (Nat.two_pow_pos _)).1 hz
                have h2 := (HBIT.out j).2 h1
                omega
              subst hjp
              rw [hz]
              have hv2 := HV2.out
              have wl1 : IntKind.i64.wrap (3 * (pl : Int)) = 3 * (pl : Int) := by rw [IntWalk.i64_left]; unfold wrap64; omega
              have wl2 : IntKind.i64.wrap (3 * (pl : Int) - 2) = 3 * (pl : Int) - 2 := by rw [IntWalk.i64_left]; unfold wrap64; omega
              have hl1 : max 0 (3 * (pl : Int) - 2) = (E.length : Int) := by omega
              have hcv := cvB HCV.out
              obtain ⟨hE, -, -, -, -, -⟩ := hcv
              have kv := bvalid_c (pl : Int) E se me sd D.length md9 ⟨mb, mr, ms, mc, my⟩ WB (by rw [HWB.out]; exact hE.below (below_alloc (Below.refl _ w1) _) (Nat.le_refl _)) (by omega)
              unfold Mo.val VaG at kv
              dsimp only at kv
              rw [HV1.out] at kv
              clear hE
              have HV2' := Lib.hid hv2
              clear hv2
              by_cases h0 : pl = 0
              · have hdl : D.length = 0 := by rw [HV3.out h0]; rfl
                have hel : E.length = 0 := by have := HV2.out; omega
                have hp0 : ((pl : Nat) : Int) = 0 := by omega
                have hB8 : Calls Tryd.prog 10 #[.agg #[.int .i64 0, .slice se 0 me, .slice sd 0 md9], .agg #[.bool mb, .bool mr, .bool ms, .bool mc, .bool my]] WB fun e w' => e = .returned (.int .i64 0) ∧ Below WB.heap.size WB w' := by rw [hp0, hel, hdl] at kv; exact kv
                clear h0 kv wl1 wl2 hl1
                clear HV1 HV2 HV2' HV3 HCV HPL HBIT HP6
                have kv := hB8
                clear hB8
                generalize ((pl : Nat) : Int) = P at *
                generalize E.length = el at *
                generalize D.length = dl at *
                subst hel hdl hp0
                clear hmx9 hz
                have q3 : max (0 : Int) (-2) = 0 := by decide
                go_wp2_with (first | (go_at_call 10; (with_reducible refine kv.mono ?_); rintro e w5 ⟨rfl, hb5⟩; have W5 := Lib.hid (below_call W1.out hb5); have ka := HAW.out _ W5.out; clear hb5) | (go_at_call 9; (with_reducible refine ka.mono ?_); rintro e w9 ⟨rfl, hb9⟩; have W9 := Lib.hid (below_call W5.out hb9); clear hb9))
                go_ret
                exact ⟨rfl, W9.out⟩
              · have hp0 : ¬ ((pl : Nat) : Int) = 0 := by omega
                clear h0
                go_wp2_with (first | (go_at_call 10; (with_reducible refine kv.mono ?_); rintro e w5 ⟨rfl, hb5⟩; have W5 := Lib.hid (below_call W1.out hb5); have ka := HAW.out _ W5.out; clear hb5) | (go_at_call 9; (with_reducible refine ka.mono ?_); rintro e w9 ⟨rfl, hb9⟩; have W9 := Lib.hid (below_call W5.out hb9); clear hb9))
                go_ret
                exact ⟨rfl, W9.out⟩
            · have hjp : j < pl := by
                rcases Nat.lt_or_ge j pl with h | h
                · exact h
                · exact absurd ((Nat.div_eq_zero_iff_lt (Nat.two_pow_pos _)).2 ((HBIT.out j).1 h)) hz
              have hn2 : mx / 2 ^ (j + 1) = mx / 2 ^ j / 2 := by rw [Nat.pow_succ, Nat.div_div_eq_div_mul]
              have hMb : mx / 2 ^ j ≤ mx := Nat.div_le_self _ _
              have hMb2 := HMX.out
              generalize mx / 2 ^ j = M at *
              have hM0 : (0 : Int) < (M : Int) := by omega
              have hq : Int.tdiv (M : Int) 2 = ((M / 2 : Nat) : Int) := by rw [Int.tdiv_eq_ediv_of_nonneg (by omega)]; omega
              have hq2 : (M : Int) / 2 = ((M / 2 : Nat) : Int) := by omega
              have wq : IntKind.i64.wrap ((M / 2 : Nat) : Int) = ((M / 2 : Nat) : Int) := by rw [IntWalk.i64_left]; unfold wrap64; omega
              have wk : IntKind.i64.wrap ((j : Int) + 1) = ((j + 1 : Nat) : Int) := by rw [IntWalk.i64_left]; unfold wrap64; omega
              have HLT := Lib.hid hjp
              have HN2 := Lib.hid hn2
              have HMM := Lib.hid (show M / 2 < M by omega)
              clear hn2 hMb hMb2 hz hp6
              generalize hm2 : ((M / 2 : Nat) : Int) = M2 at *
              have HM2 := Lib.hid hm2
              clear hm2
              go_wp2_with fail
              go_roundw
              case rel => exact ⟨j + 1, HLT.out, by go_num, by rw [HN2.out, HM2.out], trivial⟩
              case measure => have := HMM.out; simp [intOf]; omega
  · have ka := hA WA hB
    rw [hWA] at ka
    have h144i : (144 : Int) < (l.length : Int) := by omega
    clear hA hT hB hX hWA hH hr h144
    go_enter Tryd.func5, Tryd.ntmps5
    go_wp2_with (first | (go_at_call 9; (with_reducible refine ka.mono ?_); rintro e w2 ⟨rfl, hb2⟩; have W2 := Lib.hid (below_call HB.out (show Below WA.heap.size WA w2 by rw [HWA.out]; exact hb2)); clear hb2))
    go_ret
    exact ⟨rfl, W2.out⟩

set_option maxRecDepth 100000 in
theorem lifted (os : Os) (started : os.Started) (H : Type) (enc : TypeId × Value → H) :
    ReturnsInHanded {} Tryd.checked os 5 .any (fun w args => (Rows.blockencFitsSpec.pre enc Tryd.prog Tryd.f5 Rows.blockencFitsRow.domain false w args ∧ laidMetH Tryd.prog Rows.blockencFitsRow.laid w) ∧ sizedMet enc Tryd.prog Tryd.f5 (OpenSpec.ofChange Rows.blockencFitsSpec) false w args)
      (Rows.blockencFitsSpec.post enc Tryd.prog Tryd.f5 false true false false) := by
  refine returnsInHanded_of_change_and (C := Tryd.checked) (X := fun w _ => laidMetH Tryd.prog Rows.blockencFitsRow.laid w) (fun _ _ _ hh h => h.of_heap hh) own started (by kernel_rfl) Tryd.func5
    (ChangeSpec.witness_shaped (enc := enc) (C := Tryd.checked) (os := os) (X := fun w _ => laidMetH Tryd.prog Rows.blockencFitsRow.laid w) false (World.laidAll Tryd.prog os Rows.blockencFitsRow.laid) #[.slice none 0 0, .agg #[.int .i64 0, .int .i64 0, .int .i64 0, .bool false, .bool false, .bool false, .bool false, .bool false]] 8 (World.laidAll_os _ _ _)
      (World.shaped_of_ZipB (by kernel_rfl) (by kernel_rfl)) (by kernel_rfl) (by kernel_rfl) (by kernel_rfl)
      (by rw [MakeChecks.laidMetH_plain _ _ _ (by kernel_rfl)]; exact laidMet_laidAll _ (by kernel_rfl) (by kernel_rfl))) ?_
  intro W base args ds gs before hval0 hW _ _ hL _
  have hval : ∀ (j : Nat) t v, Tryd.f5.params[j]? = some t → args[j]? = some v → Value.okWide Tryd.prog W .any base t v := hval0
  have hT : Cx.Tabs W := Cx.tabs_of_laid hL
  have hW' := hW
  obtain ⟨p, q, hA0, hV, rfl, _, _⟩ := hW
  have hA : DataW.TrodAll enc Tryd.prog W 0 (fun _ => true) true Tryd.f5.params.toList args.toList ds p := hA0
  rw [Tryd.params5] at hA hval
  obtain ⟨v0, vs0, d0, ds0, p0, q0, hargs, rfl, rfl, h0, r0⟩ := trodAll_cons hA
  obtain ⟨v1, vs1, d1, ds1, p1, q1, rfl, rfl, rfl, h1, r1⟩ := trodAll_cons r0
  obtain ⟨rfl, rfl, rfl⟩ := trodAll_nil r1
  obtain rfl : args = #[v0, v1] := by cases args; simp_all
  obtain ⟨rfl, rfl⟩ := trodVars_none hV
  clear hA0 hval0
  simp only [List.append_nil] at hW'
  have l0 : ∀ x ∈ p0, x.block < W.heap.size := fun x hx => hW'.lt x (by simp [hx])
  have l1 : ∀ x ∈ p1, x.block < W.heap.size := fun x hx => hW'.lt x (by simp [hx])
  obtain ⟨s0, b0, m0, rfl, hB0, hR0⟩ := open_intsR (hval 0 22 v0 rfl rfl) h0
  obtain ⟨s1, rfl, hS1⟩ := open_Sh7 (hval 1 39 v1 rfl rfl) h1
  refine (walk s0 b0 m0 s1 W hT hB0 hR0).mono fun e W' ⟨he, hb⟩ => ?_
  subst he
  exact ⟨_, rfl, post_low (pa := p0 ++ (p1 ++ ([]))) (pv := []) hW' (fun _ _ _ => (trodAll_cons_mk (shut_bool Tryd.underlying4 _) trodAll_mk0)) (fun sp hsp => (trodAll_cons_mk (trod_low laidOut (by kernel_rfl) (of_decide_eq_true (by kernel_rfl)) h0 hb l0 (fun x hx => hsp x (by simp [hx]))) (trodAll_cons_mk (trod_low laidOut (by kernel_rfl) (of_decide_eq_true (by kernel_rfl)) h1 hb l1 (fun x hx => hsp x (by simp [hx]))) trodAll_mk0))) (fun _ _ => rfl) (by simp) hb (ok_one (by kernel_rfl) rfl (okWide_bool_mk Tryd.underlying4 _))⟩

theorem over : Rows.blockencFitsRow.holds Tryd.pinned (OpenSpec.ofChange Rows.blockencFitsSpec) :=
  OpenClaim.holds_of_wide 5 Tryd.f5 rfl rfl rfl rfl rfl rfl rfl ⟨rfl, rfl, rfl, rfl, rfl⟩ rfl rfl rfl rfl rfl (by kernel_rfl) Tryd.func5 (by kernel_rfl)
    (of_decide_eq_true (by kernel_rfl)) (by unfold Func.isWrapper; first | (rw [if_pos (by decide +kernel)]; kernel_rfl) | (rw [if_neg (by decide +kernel)]; exact ⟨rfl, rfl⟩))
    (fun os started H enc _ => lifted os started H enc)
theorem proved : Rows.BlockencFitsCardSaid :=
  Claim7.holds_tied_plain_at .later [] [.data, .data, .data] true Rows.blockencFitsCard.stood.harness false over (fun _ h => by cases h) (by kernel_rfl) (fun _ h => by cases h) blockencFits_row_tie rfl ⟨rfl, rfl⟩ (by kernel_rfl) rfl
    (fun f fn hf hfn => by
      obtain rfl : f = 5 := Option.some.inj ((show Tryd.prog.funcNamed Rows.blockencFitsRow.func = some 5 by kernel_rfl).symm.trans hf) |>.symm
      obtain rfl : fn = Tryd.f5 := (Option.some.inj (Tryd.func5.symm.trans hfn)).symm
      exact ⟨by kernel_rfl, fun j t ht => by
        rw [Tryd.params5] at ht
        have hm : t ∈ [22, 39] := by simpa using Array.mem_of_getElem? ht
        have hall : ([22, 39].all fun u => !Tryd.prog.wantsStandIn u) = true := by kernel_rfl
        exact (show Tryd.prog.wantsStandIn t = false by simpa using List.all_eq_true.1 hall t hm)⟩)
    (by kernel_rfl)
#print axioms proved
end Go.Proofs.YtklchodbnjebnaaDoor.blockencFits
