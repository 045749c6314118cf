/-
  For all blocks the statement EncpassSymbols returns true; they read afterwards as before.
  Conditions: none beyond those of the given statement (the listed variables are tied by the card).
-/
import Derived.Test.YtbhjapgioaiocaaDoorMb
import Derived.Test.YtbhjapgioaiocaaDoorXj
import Derived.Test.YtbhjapgioaiocaaDoorTie
import Derived.Test.YtbhjapgioaiocaaDoorCards
import Derived.LaidMore
import Derived.Lay
import Derived.SevenTiedAt
import Derived.Stop.Joined
set_option maxRecDepth 100000
namespace Go.Proofs.YtbhjapgioaiocaaDoor.encpassSymbols
open Go.ChangeShapes Go.WideShapes Go.ChangeAt Go.RowKit Go.Joins Go.Deep

theorem okV_all {l : List Int} (hr : ∀ v ∈ l, i64R v) (hp : plnN l ≤ 60) : ∀ v ∈ l, okV v := fun v hv => by
  have h1 := mxN_le l v hv
  have h3 := mxN_64 l hr
  have h2 := (bit_iff (mxN l) 60 (by omega)).1 hp
  unfold okV
  omega
theorem l5c {w : World} {g : Nat} {c0 c1 c2 c3 c4 c5 c6 c7 c8 c9 : Value} (h : Blk w g 28 #[c0, c1, c2, c3, c4, c5, c6, c7, c8, c9]) : w.cell? ⟨g, 0, none⟩ = some c0 ∧ w.cell? ⟨g, 1, none⟩ = some c1 ∧ w.cell? ⟨g, 2, none⟩ = some c2 ∧ w.cell? ⟨g, 3, none⟩ = some c3 ∧ w.cell? ⟨g, 4, none⟩ = some c4 ∧ w.cell? ⟨g, 5, none⟩ = some c5 ∧ w.cell? ⟨g, 6, none⟩ = some c6 ∧ w.cell? ⟨g, 7, none⟩ = some c7 ∧ w.cell? ⟨g, 8, none⟩ = some c8 ∧ w.cell? ⟨g, 9, none⟩ = some c9 := ⟨h.cell 0, h.cell 1, h.cell 2, h.cell 3, h.cell 4, h.cell 5, h.cell 6, h.cell 7, h.cell 8, h.cell 9⟩
theorem sym_both (b : BV) (W : World) (hT : Cx.Tabs W) (K : BVk W b) (hl : b.l.length ≤ 144) : ∃ (c : Int) (Ls : List (List Sy)), Ls.length ≤ 1000 ∧ (∀ L ∈ Ls, L.length ≤ 1000000000) ∧
    (∀ w1, Below W.heap.size W w1 → Calls Tryd.prog 22 #[.slice b.s b.l.length b.cp, .int .i64 b.W, .int .i64 b.H, .int .i64 b.o, b.m.val] w1 (SGv w1 c Ls)) ∧
    (∀ w1, Below W.heap.size W w1 → Calls Tryd.prog 23 #[.slice b.s b.l.length b.cp, .int .i64 b.W, .int .i64 b.H, .int .i64 b.o, b.m.val] w1 (SGv w1 c Ls)) := by
  obtain ⟨w, h, s, l, cp, sf, fl, cf, o, m⟩ := b
  dsimp only at hl ⊢
  have hr := K.r
  dsimp only at hr
  by_cases hf : fits w h
  · obtain ⟨w0, rfl⟩ : ∃ n : Nat, w = n := ⟨w.toNat, by unfold fits at hf; omega⟩
    obtain ⟨h0, rfl⟩ : ∃ n : Nat, h = n := ⟨h.toNat, by unfold fits at hf; omega⟩
    by_cases hn : l.length = w0 * h0
    · by_cases ho : 0 ≤ o ∧ o ≤ 3
      · by_cases hp : plnN l ≤ 60
        · have hok := okV_all hr hp
          refine ⟨0, _, ?_, ?_, fun w1 hb => symbols_c3 s l cp w0 h0 o m w1 hf hn ho (K.call hb).h (hT.below hb) hr 0 _ (fun ⟨v, hv, hn⟩ => absurd (hok v hv) hn) (fun _ => ⟨rfl, rfl⟩), fun w1 hb => xsymbols_c3 s l cp w0 h0 o m w1 hf hn ho (K.call hb).h hr hok _ rfl⟩
          · rw [symL_len]; omega
          · intro L hL
            obtain ⟨j, hj, rfl⟩ := List.mem_iff_getElem.1 hL
            rw [symL_at]
            have := sym_len w0 h0 (plnN l) o m (setV w0 h0 l l.length) j (by unfold fits at hf; omega) (by unfold fits at hf; omega)
            omega
        · have hne : ∃ v ∈ l, ¬ okV v := by
            apply Classical.byContradiction
            intro hno
            have hall : ∀ v ∈ l, okV v := fun v hv => Classical.byContradiction fun h => hno ⟨v, hv, h⟩
            exact hp (bit_le60 (mxN_lt l _ (by decide) fun v hv => by have := hall v hv; unfold okV at this; omega))
          refine ⟨2, [], by simp, by simp, fun w1 hb => symbols_c3 s l cp w0 h0 o m w1 hf hn ho (K.call hb).h (hT.below hb) hr 2 [] (fun _ => ⟨rfl, rfl⟩) (fun hall => ?_), fun w1 hb => xsymbols_c4 s l cp w0 h0 o m w1 hf hn ho (K.call hb).h hr (by omega)⟩
          obtain ⟨v, hv, hn⟩ := hne
          exact absurd (hall v hv) hn
      · exact ⟨3, [], by simp, by simp, fun w1 _ => symbols_c2 s l cp w0 h0 o m w1 hf hn ho, fun w1 _ => xsymbols_c2 s l cp w0 h0 o m w1 hf hn ho⟩
    · exact ⟨4, [], by simp, by simp, fun w1 _ => symbols_c1 s l cp w0 h0 o m w1 hf hn, fun w1 _ => xsymbols_c1 s l cp w0 h0 o m w1 hf hn⟩
  · exact ⟨2, [], by simp, by simp, fun w1 _ => symbols_c0 s l cp w h o m w1 hf, fun w1 _ => xsymbols_c0 s l cp w h o m w1 hf⟩
set_option maxHeartbeats 8000000 in
theorem walk (b : BV) (W : World) (hT : Cx.Tabs W) (K : BVk W b) : Calls Tryd.prog 4 #[b.val] W fun e w' => e = .returned (.bool true) ∧ Below W.heap.size W w' := by
  have hE := fun {w1 : World} (hb : Below W.heap.size W w1) => ex15_c w1 (hT.below hb)
  have hal := below_alloc (Below.refl _ W) (.cells b.cs 28)
  have HA := Lib.hid hal
  have MB := Blk.new W 28 b.cs
  have HMB := Lib.hid MB
  by_cases hl : b.l.length ≤ 144
  · obtain ⟨c, Ls, hn, hsz, k1, k2⟩ := sym_both b W hT K hl
    obtain ⟨w, h, s, l, cp, sf, fl, cf, o, ⟨mb, mr, ms, mc, my⟩⟩ := b
    unfold BV.val BV.cs at *
    dsimp only at *
    unfold Mo.val at *
    dsimp only at k1 k2
    have hl2 : ¬ 144 < (l.length : Int) := by omega
    have k1 := k1 _ HA.out
    have kSS := fun (X : World) (s2 s3 : Option Addr) (m2 m3 : Nat) (h1 : HoldsZ X s2 Ls) (h2 : HoldsZ X s3 Ls) => samePs_t X Ls s2 s3 m2 m3 h1 h2 (by omega) hsz
    obtain ⟨c0, c1, c2, c3, c4, c5, c6, c7, c8, c9⟩ := l5c MB
    clear hl hn hsz hT K hal MB
    generalize l.length = N at *
    go_enter Tryd.func4, Tryd.ntmps4
    go_wp2_with (first | (go_at_call 22; (with_reducible refine k1.mono ?_); rintro e w2 ⟨v2, rfl, hS, hb⟩; obtain ⟨s2, m2, rfl, hz2⟩ := ss_holds hS; have Z2 := Lib.hid hz2; have H2 := Lib.hid (below_call HA.out hb); have B2 := Lib.hid (HMB.out.below hb); clear c0 c1 c2 c3 c4 c5 c6 c7 c8 c9; obtain ⟨c0, c1, c2, c3, c4, c5, c6, c7, c8, c9⟩ := l5c B2.out; have k2a := k2 _ H2.out; clear hb hS hz2) | (go_at_call 23; (with_reducible refine k2a.mono ?_); rintro e w3 ⟨v3, rfl, hS, hb⟩; obtain ⟨s3, m3, rfl, hz3⟩ := ss_holds hS; have kS1 := kSS _ s2 s3 m2 m3 (Z2.out.call hb) hz3; have H3 := Lib.hid (below_call H2.out hb); clear hb hS hz3) | (go_at_call 24; (with_reducible refine kS1.mono ?_); rintro e w4 ⟨rfl, hd⟩; have H4 := Lib.hid (below_call H3.out hd.below); clear hd) | (go_at_call 16; (with_reducible refine (hE H4.out).mono ?_); rintro e w5 ⟨rfl, hb5⟩; have H5 := Lib.hid (below_call H4.out hb5); clear hb5))
    go_ret
    exact ⟨rfl, H5.out⟩
  · obtain ⟨w, h, s, l, cp, sf, fl, cf, o, ⟨mb, mr, ms, mc, my⟩⟩ := b
    unfold BV.val BV.cs at *
    dsimp only at *
    have hl2 : 144 < (l.length : Int) := by omega
    obtain ⟨-, -, c2, -, -, -, -, -, -, -⟩ := l5c MB
    clear hl hT K hal MB HMB
    generalize l.length = N at *
    go_enter Tryd.func4, Tryd.ntmps4
    go_wp2_with (first | (go_at_call 16; (with_reducible refine (hE HA.out).mono ?_); rintro e w5 ⟨rfl, hb5⟩; have H5 := Lib.hid (below_call HA.out hb5); clear hb5))
    go_ret
    exact ⟨rfl, H5.out⟩

set_option maxRecDepth 100000 in
theorem lifted (os : Os) (started : os.Started) (H : Type) (enc : TypeId × Value → H) :
    ReturnsInHanded {} Tryd.checked os 4 .any (fun w args => (Rows.encpassSymbolsSpec.pre enc Tryd.prog Tryd.f4 Rows.encpassSymbolsRow.domain false w args ∧ laidMetH Tryd.prog Rows.encpassSymbolsRow.laid w) ∧ sizedMet enc Tryd.prog Tryd.f4 (OpenSpec.ofChange Rows.encpassSymbolsSpec) false w args)
      (Rows.encpassSymbolsSpec.post enc Tryd.prog Tryd.f4 false true false false) := by
  refine returnsInHanded_of_change_and (C := Tryd.checked) (X := fun w _ => laidMetH Tryd.prog Rows.encpassSymbolsRow.laid w) (fun _ _ _ hh h => h.of_heap hh) own started (by kernel_rfl) Tryd.func4
    (ChangeSpec.witness_shaped (enc := enc) (C := Tryd.checked) (os := os) (X := fun w _ => laidMetH Tryd.prog Rows.encpassSymbolsRow.laid w) false (World.laidAll Tryd.prog os Rows.encpassSymbolsRow.laid) #[.agg #[.int .i64 0, .int .i64 0, .slice none 0 0, .slice none 0 0, .int .i64 0, .bool false, .bool false, .bool false, .bool false, .bool false]] 8 (World.laidAll_os _ _ _)
      (World.shaped_of_ZipB (by kernel_rfl) (by kernel_rfl)) (by kernel_rfl) (by kernel_rfl) (by kernel_rfl)
      (by rw [MakeChecks.laidMetH_plain _ _ _ (by kernel_rfl)]; exact laidMet_laidAll _ (by kernel_rfl) (by kernel_rfl))) ?_
  intro W base args ds gs before hval0 hW _ _ hL _
  have hval : ∀ (j : Nat) t v, Tryd.f4.params[j]? = some t → args[j]? = some v → Value.okWide Tryd.prog W .any base t v := hval0
  have hT : Cx.Tabs W := Cx.tabs_of_laid hL
  have hW' := hW
  obtain ⟨p, q, hA0, hV, rfl, _, _⟩ := hW
  have hA : DataW.TrodAll enc Tryd.prog W 0 (fun _ => true) true Tryd.f4.params.toList args.toList ds p := hA0
  rw [Tryd.params4] at hA hval
  obtain ⟨v0, vs0, d0, ds0, p0, q0, hargs, rfl, rfl, h0, r0⟩ := trodAll_cons hA
  obtain ⟨rfl, rfl, rfl⟩ := trodAll_nil r0
  obtain rfl : args = #[v0] := by cases args; simp_all
  obtain ⟨rfl, rfl⟩ := trodVars_none hV
  clear hA0 hval0
  simp only [List.append_nil] at hW'
  have l0 : ∀ x ∈ p0, x.block < W.heap.size := fun x hx => hW'.lt x (by simp [hx])
  obtain ⟨B0, rfl, hB0⟩ := open_L5 (hval 0 28 v0 rfl rfl) h0
  refine (walk B0 W hT hB0).mono fun e W' ⟨he, hb⟩ => ?_
  subst he
  exact ⟨_, rfl, post_low (pa := p0 ++ ([])) (pv := []) hW' (fun _ _ _ => (trodAll_cons_mk (shut_bool Tryd.underlying4 _) trodAll_mk0)) (fun sp hsp => (trodAll_cons_mk (trod_low laidOut (by kernel_rfl) (of_decide_eq_true (by kernel_rfl)) h0 hb l0 (fun x hx => hsp x (by simp [hx]))) trodAll_mk0)) (fun _ _ => rfl) (by simp) hb (ok_one (by kernel_rfl) rfl (okWide_bool_mk Tryd.underlying4 _))⟩

theorem over : Rows.encpassSymbolsRow.holds Tryd.pinned (OpenSpec.ofChange Rows.encpassSymbolsSpec) :=
  OpenClaim.holds_of_wide 4 Tryd.f4 rfl rfl rfl rfl rfl rfl rfl ⟨rfl, rfl, rfl, rfl, rfl⟩ rfl rfl rfl rfl rfl (by kernel_rfl) Tryd.func4 (by kernel_rfl)
    (of_decide_eq_true (by kernel_rfl)) (by unfold Func.isWrapper; first | (rw [if_pos (by decide +kernel)]; kernel_rfl) | (rw [if_neg (by decide +kernel)]; exact ⟨rfl, rfl⟩))
    (fun os started H enc _ => lifted os started H enc)
theorem proved : Rows.EncpassSymbolsCardSaid :=
  Claim7.holds_tied_plain_at .later [] [.data, .data, .data] true Rows.encpassSymbolsCard.stood.harness false over (fun _ h => by cases h) (by kernel_rfl) (fun _ h => by cases h) encpassSymbols_row_tie rfl ⟨rfl, rfl⟩ (by kernel_rfl) rfl
    (fun f fn hf hfn => by
      obtain rfl : f = 4 := Option.some.inj ((show Tryd.prog.funcNamed Rows.encpassSymbolsRow.func = some 4 by kernel_rfl).symm.trans hf) |>.symm
      obtain rfl : fn = Tryd.f4 := (Option.some.inj (Tryd.func4.symm.trans hfn)).symm
      exact ⟨by kernel_rfl, fun j t ht => by
        rw [Tryd.params4] at ht
        have hm : t ∈ [28] := by simpa using Array.mem_of_getElem? ht
        have hall : ([28].all fun u => !Tryd.prog.wantsStandIn u) = true := by kernel_rfl
        exact (show Tryd.prog.wantsStandIn t = false by simpa using List.all_eq_true.1 hall t hm)⟩)
    (by kernel_rfl)
#print axioms proved
end Go.Proofs.YtbhjapgioaiocaaDoor.encpassSymbols
