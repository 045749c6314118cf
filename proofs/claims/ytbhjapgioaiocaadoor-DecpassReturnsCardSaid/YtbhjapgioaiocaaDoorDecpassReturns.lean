/-
  For all blocks the statement DecpassReturns returns true; they read afterwards as before.
  Conditions: none beyond those of the given statement (the listed variables are tied by the card).
-/
import Derived.Test.YtbhjapgioaiocaaDoorMH
import Derived.Test.YtbhjapgioaiocaaDoorTie
import Derived.Test.YtbhjapgioaiocaaDoorCards
import Derived.LaidMore
import Derived.Lay
import Derived.SevenTiedAt
import Derived.Stop.Joined
set_option maxRecDepth 100000
namespace Go.Proofs.YtbhjapgioaiocaaDoor.decpassReturns
open Go.ChangeShapes Go.WideShapes Go.ChangeAt Go.RowKit Go.Joins Go.Deep

set_option maxHeartbeats 8000000 in
theorem walk (b : BV) (W : World) (hT : Cx.Tabs W) (K : BVk W b) : Calls Tryd.prog 11 #[b.val] W fun e w' => e = .returned (.bool true) ∧ Below W.heap.size W w' := by
  have hE := fun {w1 : World} (hb : Below W.heap.size W w1) => ex16_c w1 (hT.below hb)
  have HT := Lib.hid hT
  have hal := below_alloc (Below.refl _ W) (.cells b.cs 68)
  have K1 := K.call hal
  have kS := small6_c b _ K1
  have MB := Blk.new W 68 b.cs
  by_cases hs : b.small
  · obtain ⟨w0, h0, hw, hh, w12, h12, hfit, hlen, hl144, hp60⟩ := small_ok6 hs
    have hok := okV_all6 K.r hp60
    rw [decide_eq_true hs] at kS
    obtain ⟨w, h, s, l, cp, sf, fl, cf, o, ⟨mb, mr, ms, mc, my⟩⟩ := b
    dsimp only at hw hh hlen hl144 hp60 hok
    subst hw hh
    have kV := fun W => xvalid_c o W
    unfold BV.val BV.cs at *
    dsimp only at *
    have HA := Lib.hid hal
    have HMB := Lib.hid MB
    have HK := Lib.hid K
    by_cases ho : 0 ≤ o ∧ o ≤ 3
    · rw [decide_eq_true ho] at kV
      have kP := fun w1 (hb : Below W.heap.size W w1) => planes_c s l cp w1 (HK.out.call hb).h HK.out.r (by omega)
      obtain ⟨Ls, hLs⟩ : ∃ L, L = symL w0 h0 (plnN l) o ⟨mb, mr, ms, mc, my⟩ (setV w0 h0 l l.length) (3 * plnN l - 2) := ⟨_, rfl⟩
      have k1 := fun w1 (hb : Below W.heap.size W w1) => symbols_c3 s l cp w0 h0 o ⟨mb, mr, ms, mc, my⟩ w1 hfit hlen ho (HK.out.call hb).h (HT.out.below hb) HK.out.r 0 Ls (fun ⟨v, hv, hn⟩ => absurd (hok v hv) hn) (fun _ => ⟨rfl, hLs⟩)
      obtain ⟨v1, v2, v3⟩ := val_all w0 h0 l o ⟨mb, mr, ms, mc, my⟩ hfit hok hp60 hlen ho Ls hLs
      have kD := fun w1 (hb : Below W.heap.size W w1) (s2 : Option Addr) (m2 : Nat) (hW : HoldsW w1 s2 Ls) => dval_c s2 m2 Ls (plnN l) w0 h0 o ⟨mb, mr, ms, mc, my⟩ w1 (HT.out.below hb) hW
      rw [v1, v2, v3] at kD
      have kM := fun W => mkI l.length (by omega) W
      have kE1 := fun (X : World) (t : Option Addr) (k : Nat) (h1 : HoldsI X t l) (h2 : HoldsI X s l) => same03_t X l t s l.length k cp rfl h1 h2 (by omega)
      have kE2 := fun (X : World) (t u : Option Addr) (k : Nat) (h1 : HoldsI X t (List.replicate l.length 0)) (h2 : HoldsI X u (List.replicate l.length 0)) => same03_t X (List.replicate l.length 0) t u l.length k l.length (by simp) h1 h2 (by simp; omega)
      unfold Mo.val at k1 kD
      dsimp only at k1 kD
      generalize plnN l = pl at *
      have HLN := Lib.hid (show l.length ≤ 144 from hl144)
      clear hs K K1 hal MB hT hok ho hfit hlen hl144 hp60 hLs w12 h12 v1 v2 v3
      go_enter Tryd.func11, Tryd.ntmps11
      go_wp2_with (first | (go_at_call 35; (with_reducible refine kS.mono ?_); rintro e w1 ⟨rfl, hb⟩; have H1 := Lib.hid (below_call HA.out hb); have B1 := Lib.hid (HMB.out.below hb); obtain ⟨c0, c1, c2, c3, c4, c5, c6, c7, c8, c9⟩ := l6c B1.out; clear hb) | (go_at_call 27; (with_reducible refine (kV _).mono ?_); rintro e wn ⟨rfl, rfl⟩) | (go_at_call 22; (with_reducible refine (k1 _ H1.out).mono ?_); rintro e w2 ⟨v2, rfl, hS, hb⟩; obtain ⟨s2, m2, rfl, hz2, hm2⟩ := ss_holdsW hS; have Z2 := Lib.hid hz2; have H2 := Lib.hid (below_call H1.out hb); have B2 := Lib.hid (B1.out.below hb); clear c0 c1 c2 c3 c4 c5 c6 c7 c8 c9; clear hb hS hz2 hm2))
      have HD2 := Lib.hid (below_call H2.out (Below.refl w2.heap.size w2).drew)
      have BD := B2.out.below (Below.refl w2.heap.size w2).drew
      obtain ⟨c0, c1, c2, c3, c4, c5, c6, c7, c8, c9⟩ := l6c BD
      have kP2 := kP _ HD2.out
      have kD2 := kD _ HD2.out s2 m2 (Z2.out.call (Below.refl w2.heap.size w2).drew)
      have HBD := Lib.hid BD
      clear BD
      go_region_held3 (fun w' => w'.cell? ⟨W.heap.size, 0, none⟩ = some (.int .i64 (w0 : Int)) ∧ w'.cell? ⟨W.heap.size, 1, none⟩ = some (.int .i64 (h0 : Int)) ∧ w'.cell? ⟨W.heap.size, 2, none⟩ = some (.slice s l.length cp) ∧ w'.cell? ⟨W.heap.size, 4, none⟩ = some (.int .i64 o) ∧ w'.cell? ⟨W.heap.size, 5, none⟩ = some (.bool mb) ∧ w'.cell? ⟨W.heap.size, 6, none⟩ = some (.bool mr) ∧ w'.cell? ⟨W.heap.size, 7, none⟩ = some (.bool ms) ∧ w'.cell? ⟨W.heap.size, 8, none⟩ = some (.bool mc) ∧ w'.cell? ⟨W.heap.size, 9, none⟩ = some (.bool my))
        (first | (with_reducible exact ⟨c0, c1, c2, c4, c5, c6, c7, c8, c9⟩) | (with_reducible exact ⟨d0, d1, d2, d4, d5, d6, d7, d8, d9⟩) | fail)
        (first | (go_simp; go_at_call 25; (with_reducible refine kP2.mono ?_); rintro e wn ⟨rfl, rfl⟩) | (go_simp; go_at_call 32; (with_reducible refine kD2.mono ?_); rintro e w3 ⟨v, u, rfl, hS, hb⟩; obtain ⟨s3, m3, rfl, h3⟩ := tw_holdA l.length rfl hS; obtain ⟨s4, m4, rfl, h4⟩ := tw_holdB l.length (by simp) hS; have A3 := Lib.hid h3; have A4 := Lib.hid h4; have H3 := Lib.hid (below_call HD2.out hb); have B3 := Lib.hid (HBD.out.below hb); obtain ⟨d0, d1, d2, d3, d4, d5, d6, d7, d8, d9⟩ := l6c B3.out; clear hb hS h3 h4) | fail)
      all_goals
        have kE1a := kE1 _ s3 m3 A3.out (HK.out.call H3.out).h
        clear c0 c1 c2 c3 c4 c5 c6 c7 c8 c9
        go_wp2_with (first | (go_at_call 34; first | ((with_reducible refine kE1a.mono ?_); rintro e w4 ⟨rfl, hb⟩; have H4 := Lib.hid (below_call H3.out hb); have A5 := Lib.hid (A4.out.call hb); have B4 := Lib.hid (B3.out.below hb); clear d0 d1 d2 d3 d4 d5 d6 d7 d8 d9; obtain ⟨d0, d1, d2, d3, d4, d5, d6, d7, d8, d9⟩ := l6c B4.out; have kE2a := kE2 (w4.alloc (zI l.length)) s4 (some ⟨w4.heap.size, 0, none⟩) m4 (A5.out.call (below_alloc (Below.refl _ _) _)) (rowAt_made w4 l.length).holds; have H4a := Lib.hid (below_call H4.out (below_alloc (Below.refl _ w4) (zI l.length))); clear hb) | ((with_reducible refine kE2a.mono ?_); rintro e w5 ⟨rfl, hb⟩; have H5 := Lib.hid (below_call H4a.out hb); clear hb)) | (go_at_call 31; (with_reducible refine (hE H5.out).mono ?_); rintro e w6 ⟨rfl, hb⟩; have H6 := Lib.hid (below_call H5.out hb); clear hb))
        go_ret
        exact ⟨rfl, H6.out⟩
    · rw [decide_eq_false ho] at kV
      clear hs K K1 hal MB hT hok ho hfit hlen hl144 hp60 w12 h12
      generalize l.length = N at *
      go_enter Tryd.func11, Tryd.ntmps11
      go_wp2_with (first | (go_at_call 35; (with_reducible refine kS.mono ?_); rintro e w1 ⟨rfl, hb⟩; have H1 := Lib.hid (below_call HA.out hb); have B1 := Lib.hid (HMB.out.below hb); obtain ⟨c0, c1, c2, c3, c4, c5, c6, c7, c8, c9⟩ := l6c B1.out; clear hb) | (go_at_call 27; (with_reducible refine (kV _).mono ?_); rintro e wn ⟨rfl, rfl⟩) | (go_at_call 31; (with_reducible refine (hE H1.out).mono ?_); rintro e w2 ⟨rfl, hb⟩; have H2 := Lib.hid (below_call H1.out hb); clear hb))
      go_ret
      exact ⟨rfl, H2.out⟩
  · obtain ⟨w, h, s, l, cp, sf, fl, cf, o, ⟨mb, mr, ms, mc, my⟩⟩ := b
    rw [decide_eq_false hs] at kS
    unfold BV.val BV.cs at *
    dsimp only at *
    have HA := Lib.hid hal
    have HMB := Lib.hid MB
    clear hs K K1 hal MB hT
    generalize l.length = N at *
    go_enter Tryd.func11, Tryd.ntmps11
    go_wp2_with (first | (go_at_call 35; (with_reducible refine kS.mono ?_); rintro e w1 ⟨rfl, hb⟩; have H1 := Lib.hid (below_call HA.out hb); have B1 := Lib.hid (HMB.out.below hb); obtain ⟨c0, c1, c2, c3, c4, c5, c6, c7, c8, c9⟩ := l6c B1.out; clear hb) | (go_at_call 31; (with_reducible refine (hE H1.out).mono ?_); rintro e w2 ⟨rfl, hb⟩; have H2 := Lib.hid (below_call H1.out hb); clear hb))
    go_ret
    exact ⟨rfl, H2.out⟩

set_option maxRecDepth 100000 in
theorem lifted (os : Os) (started : os.Started) (H : Type) (enc : TypeId × Value → H) :
    ReturnsInHanded {} Tryd.checked os 11 .any (fun w args => (Rows.decpassReturnsSpec.pre enc Tryd.prog Tryd.f11 Rows.decpassReturnsRow.domain false w args ∧ laidMetH Tryd.prog Rows.decpassReturnsRow.laid w) ∧ sizedMet enc Tryd.prog Tryd.f11 (OpenSpec.ofChange Rows.decpassReturnsSpec) false w args)
      (Rows.decpassReturnsSpec.post enc Tryd.prog Tryd.f11 false true false false) := by
  refine returnsInHanded_of_change_and (C := Tryd.checked) (X := fun w _ => laidMetH Tryd.prog Rows.decpassReturnsRow.laid w) (fun _ _ _ hh h => h.of_heap hh) own started (by kernel_rfl) Tryd.func11
    (ChangeSpec.witness_shaped (enc := enc) (C := Tryd.checked) (os := os) (X := fun w _ => laidMetH Tryd.prog Rows.decpassReturnsRow.laid w) false (World.laidAll Tryd.prog os Rows.decpassReturnsRow.laid) #[.agg #[.int .i64 0, .int .i64 0, .slice none 0 0, .slice none 0 0, .int .i64 0, .bool false, .bool false, .bool false, .bool false, .bool false]] 8 (World.laidAll_os _ _ _)
      (World.shaped_of_ZipB (by kernel_rfl) (by kernel_rfl)) (by kernel_rfl) (by kernel_rfl) (by kernel_rfl)
      (by rw [MakeChecks.laidMetH_plain _ _ _ (by kernel_rfl)]; exact laidMet_laidAll _ (by kernel_rfl) (by kernel_rfl))) ?_
  intro W base args ds gs before hval0 hW _ _ hL _
  have hval : ∀ (j : Nat) t v, Tryd.f11.params[j]? = some t → args[j]? = some v → Value.okWide Tryd.prog W .any base t v := hval0
  have hT : Cx.Tabs W := Cx.tabs_of_laid hL
  have hW' := hW
  obtain ⟨p, q, hA0, hV, rfl, _, _⟩ := hW
  have hA : DataW.TrodAll enc Tryd.prog W 0 (fun _ => true) true Tryd.f11.params.toList args.toList ds p := hA0
  rw [Tryd.params11] at hA hval
  obtain ⟨v0, vs0, d0, ds0, p0, q0, hargs, rfl, rfl, h0, r0⟩ := trodAll_cons hA
  obtain ⟨rfl, rfl, rfl⟩ := trodAll_nil r0
  obtain rfl : args = #[v0] := by cases args; simp_all
  obtain ⟨rfl, rfl⟩ := trodVars_none hV
  clear hA0 hval0
  simp only [List.append_nil] at hW'
  have l0 : ∀ x ∈ p0, x.block < W.heap.size := fun x hx => hW'.lt x (by simp [hx])
  obtain ⟨B0, rfl, hB0⟩ := open_L6 (hval 0 68 v0 rfl rfl) h0
  refine (walk B0 W hT hB0).mono fun e W' ⟨he, hb⟩ => ?_
  subst he
  exact ⟨_, rfl, post_low (pa := p0 ++ ([])) (pv := []) hW' (fun _ _ _ => (trodAll_cons_mk (shut_bool Tryd.underlying4 _) trodAll_mk0)) (fun sp hsp => (trodAll_cons_mk (trod_low laidOut (by kernel_rfl) (of_decide_eq_true (by kernel_rfl)) h0 hb l0 (fun x hx => hsp x (by simp [hx]))) trodAll_mk0)) (fun _ _ => rfl) (by simp) hb (ok_one (by kernel_rfl) rfl (okWide_bool_mk Tryd.underlying4 _))⟩

theorem over : Rows.decpassReturnsRow.holds Tryd.pinned (OpenSpec.ofChange Rows.decpassReturnsSpec) :=
  OpenClaim.holds_of_wide 11 Tryd.f11 rfl rfl rfl rfl rfl rfl rfl ⟨rfl, rfl, rfl, rfl, rfl⟩ rfl rfl rfl rfl rfl (by kernel_rfl) Tryd.func11 (by kernel_rfl)
    (of_decide_eq_true (by kernel_rfl)) (by unfold Func.isWrapper; first | (rw [if_pos (by decide +kernel)]; kernel_rfl) | (rw [if_neg (by decide +kernel)]; exact ⟨rfl, rfl⟩))
    (fun os started H enc _ => lifted os started H enc)
theorem proved : Rows.DecpassReturnsCardSaid :=
  Claim7.holds_tied_plain_at .later [] [.data, .data, .data] true Rows.decpassReturnsCard.stood.harness false over (fun _ h => by cases h) (by kernel_rfl) (fun _ h => by cases h) decpassReturns_row_tie rfl ⟨rfl, rfl⟩ (by kernel_rfl) rfl
    (fun f fn hf hfn => by
      obtain rfl : f = 11 := Option.some.inj ((show Tryd.prog.funcNamed Rows.decpassReturnsRow.func = some 11 by kernel_rfl).symm.trans hf) |>.symm
      obtain rfl : fn = Tryd.f11 := (Option.some.inj (Tryd.func11.symm.trans hfn)).symm
      exact ⟨by kernel_rfl, fun j t ht => by
        rw [Tryd.params11] at ht
        have hm : t ∈ [68] := by simpa using Array.mem_of_getElem? ht
        have hall : ([68].all fun u => !Tryd.prog.wantsStandIn u) = true := by kernel_rfl
        exact (show Tryd.prog.wantsStandIn t = false by simpa using List.all_eq_true.1 hall t hm)⟩)
    (by kernel_rfl)
#print axioms proved
end Go.Proofs.YtbhjapgioaiocaaDoor.decpassReturns
