/-
  For all inputs the statement DecpassValues returns true; they read afterwards as before.
  Conditions: none beyond those of the given statement (the listed variables are tied by the card).
-/
import Derived.Test.YtbhjapgioaiocaaDoorMM
import Derived.Test.YtbhjapgioaiocaaDoorTie
import Derived.Test.YtbhjapgioaiocaaDoorCards
import Derived.LaidMore
import Derived.Lay
import Derived.SevenTiedAt
import Derived.Stop.Joined
set_option maxRecDepth 100000
namespace Go.Proofs.YtbhjapgioaiocaaDoor.decpassValues
open Go.ChangeShapes Go.WideShapes Go.ChangeAt Go.RowKit Go.Joins Go.Deep

theorem in_c {w : World} {g : Nat} {s : Option Addr} {n cp : Nat} {a b c d : Int} {z0 z1 z2 z3 z4 : Bool} (h : Blk w g 63 #[.slice s n cp, .int .i64 a, .int .i64 b, .int .i64 c, .int .i64 d, .bool z0, .bool z1, .bool z2, .bool z3, .bool z4]) :
    w.cell? ⟨g, 0, none⟩ = some (.slice s n cp) ∧ w.cell? ⟨g, 1, none⟩ = some (.int .i64 a) ∧ w.cell? ⟨g, 2, none⟩ = some (.int .i64 b) ∧ w.cell? ⟨g, 3, none⟩ = some (.int .i64 c) ∧ w.cell? ⟨g, 4, none⟩ = some (.int .i64 d) ∧ w.cell? ⟨g, 5, none⟩ = some (.bool z0) ∧ w.cell? ⟨g, 6, none⟩ = some (.bool z1) ∧ w.cell? ⟨g, 7, none⟩ = some (.bool z2) ∧ w.cell? ⟨g, 8, none⟩ = some (.bool z3) ∧ w.cell? ⟨g, 9, none⟩ = some (.bool z4) :=
  ⟨h.cell 0, h.cell 1, h.cell 2, h.cell 3, h.cell 4, h.cell 5, h.cell 6, h.cell 7, h.cell 8, h.cell 9⟩
set_option maxHeartbeats 8000000 in
theorem walk (b : IV) (W : World) (hT : Cx.Tabs W) (K : IVk W b) : Calls Tryd.prog 10 #[b.val] W fun e w' => e = .returned (.bool true) ∧ Below W.heap.size W w' := by
  have hE := fun {w1 : World} (hb : Below W.heap.size W w1) => ex16_c w1 (hT.below hb)
  obtain ⟨s, Ls, cp, pl, x, y, o, ⟨mb, mr, ms, mc, my⟩⟩ := b
  obtain ⟨hH, hcp, hz1, hz2⟩ := K
  unfold IV.val IV.cs
  dsimp only at hH hcp hz1 hz2 ⊢
  have hal := below_alloc (Below.refl _ W) (.cells #[.slice s Ls.length cp, .int .i64 pl, .int .i64 x, .int .i64 y, .int .i64 o, .bool mb, .bool mr, .bool ms, .bool mc, .bool my] 63)
  have MB := Blk.new W 63 #[.slice s Ls.length cp, .int .i64 pl, .int .i64 x, .int .i64 y, .int .i64 o, .bool mb, .bool mr, .bool ms, .bool mc, .bool my]
  obtain ⟨c0, c1, c2, c3, c4, c5, c6, c7, c8, c9⟩ := in_c MB
  have hz3 : ∀ L ∈ Ls, L.length ≤ 8796093022208 := fun L hL => by have := hz1 L hL; unfold reachBytes at this; omega
  have hlen : Ls.length ≤ 5864062014806 := by unfold reachBytes at hz2; omega
  have HB := Lib.hid hal
  have HH := Lib.hid hH
  have HT := Lib.hid hT
  have HZ3 := Lib.hid hz3
  have HMB := Lib.hid MB
  have HLEN := Lib.hid hlen
  clear hz1 hz2 hH hT hal MB hz3
  by_cases h178 : 178 < Ls.length
  · have hd : decide (178 < Ls.length) = true := decide_eq_true h178
    have hI : (178 : Int) < (Ls.length : Int) := by omega
    have HD := Lib.hid hd
    have HI := Lib.hid hI
    clear h178 hcp hlen hd hI
    go_enter Tryd.func10, Tryd.ntmps10
    go_wp2_with fail
    go_loopw [3, 15] (fun z i wr => ∃ (k : Nat) (n : Int), k ≤ Ls.length ∧ i = .int .i64 (k : Int) ∧ z = .int .i64 n ∧ Hid (wr = W.alloc (.cells #[.slice s Ls.length cp, .int .i64 pl, .int .i64 x, .int .i64 y, .int .i64 o, .bool mb, .bool mr, .bool ms, .bool mc, .bool my] 63))) (fun _ i _ => (Ls.length - (intOf i).toNat))
    case atStart => exact ⟨0, 0, by omega, rfl, rfl, rfl⟩
    case round =>
      obtain ⟨k, n, hk, rfl, rfl, hw⟩ := hrel
      have hw' := hw.out
      subst hw'
      by_cases hlt : k < Ls.length
      · obtain ⟨b, off, sk, mk, rfl, hA, hY, hmk⟩ := HH.out.at hlt
        have hA := (HB.out.cell (p := ⟨b, off + k, none⟩) (cell_lt hA)).trans hA
        generalize Ls[k] = L at *
        have wk : IntKind.i64.wrap ((k : Int) + 1) = ((k + 1 : Nat) : Int) := by have := HLEN.out; rw [IntWalk.i64_left]; unfold wrap64; omega
        have HLT := Lib.hid hlt
        clear hw
        go_wp2_with fail
        go_roundw
        case rel => exact ⟨k + 1, _, HLT.out, by go_num, rfl, Lib.hid trivial⟩
        case measure => have := HLT.out; simp [intOf]; omega
      · obtain rfl : k = Ls.length := by omega
        have hd := HD.out
        have hI := HI.out
        clear hlt hk hw
        go_wp2_with (first | (go_at_call 31; (with_reducible refine (hE HB.out).mono ?_); rintro e w9 ⟨rfl, hb⟩; have H9 := Lib.hid (below_call HB.out hb); clear hb))
        go_ret
        exact ⟨rfl, H9.out⟩
  · have hd : decide (178 < Ls.length) = false := decide_eq_false h178
    have hI : ¬ (178 : Int) < (Ls.length : Int) := by omega
    have HD := Lib.hid hd
    have HI := Lib.hid hI
    have HSM := Lib.hid (fun k hk => smL_le Ls 8796093022208 HZ3.out k hk)
    have HS1 := Lib.hid (fun k h => smL_succ Ls k h)
    have HME := Lib.hid (smL_mem Ls)
    clear hcp hlen hd hI
    go_enter Tryd.func10, Tryd.ntmps10
    go_wp2_with fail
    go_loopw [3, 15] (fun z i wr => ∃ (k : Nat), k ≤ Ls.length ∧ i = .int .i64 (k : Int) ∧ z = .int .i64 ((smL Ls k : Nat) : Int) ∧ Hid (wr = W.alloc (.cells #[.slice s Ls.length cp, .int .i64 pl, .int .i64 x, .int .i64 y, .int .i64 o, .bool mb, .bool mr, .bool ms, .bool mc, .bool my] 63))) (fun _ i _ => (Ls.length - (intOf i).toNat))
    case atStart => exact ⟨0, by omega, rfl, rfl, rfl⟩
    case round =>
      obtain ⟨k, hk, rfl, rfl, hw⟩ := hrel
      have hw' := hw.out
      subst hw'
      by_cases hlt : k < Ls.length
      · obtain ⟨b, off, sk, mk, rfl, hA, hY, hmk⟩ := HH.out.at hlt
        have hA := (HB.out.cell (p := ⟨b, off + k, none⟩) (cell_lt hA)).trans hA
        have hs1 := HS1.out k hlt
        have hs2 := HSM.out (k + 1) hlt
        generalize Ls[k] = L at *
        have wk : IntKind.i64.wrap ((k : Int) + 1) = ((k + 1 : Nat) : Int) := by have := HLEN.out; rw [IntWalk.i64_left]; unfold wrap64; omega
        have wn : IntKind.i64.wrap (((smL Ls k : Nat) : Int) + (L.length : Int)) = ((smL Ls (k + 1) : Nat) : Int) := by rw [IntWalk.i64_left]; unfold wrap64; omega
        have HLT := Lib.hid hlt
        clear hw hs1 hs2
        go_wp2_with fail
        go_roundw
        case rel => exact ⟨k + 1, HLT.out, by go_num, by first | rfl | (simp; done), Lib.hid trivial⟩
        case measure => have := HLT.out; simp [intOf]; omega
      · obtain rfl : k = Ls.length := by omega
        have hd := HD.out
        have hI := HI.out
        clear hlt hk hw
        obtain ⟨ti, hti⟩ : ∃ t : Int, t = ((smL Ls Ls.length : Nat) : Int) := ⟨_, rfl⟩
        have HTI := Lib.hid hti
        rw [← hti]
        clear hti HSM HS1 HLEN
        by_cases h6 : 6000 < ti
        · clear HH HMB
          go_wp2_with (first | (go_at_call 31; (with_reducible refine (hE HB.out).mono ?_); rintro e w9 ⟨rfl, hb⟩; have H9 := Lib.hid (below_call HB.out hb); clear hb))
          go_ret
          exact ⟨rfl, H9.out⟩
        by_cases hx : 12 < x ∧ x ≤ 64
        · obtain ⟨hx1, hx2⟩ := hx
          clear HH HMB
          go_wp2_with (first | (go_at_call 31; (with_reducible refine (hE HB.out).mono ?_); rintro e w9 ⟨rfl, hb⟩; have H9 := Lib.hid (below_call HB.out hb); clear hb))
          go_ret
          exact ⟨rfl, H9.out⟩
        by_cases hy : 12 < y ∧ y ≤ 64
        · obtain ⟨hy1, hy2⟩ := hy
          have hx3 : ¬ 12 < x ∨ (12 < x ∧ ¬ x ≤ 64) := by omega
          clear HH HMB hx
          rcases hx3 with hx1 | ⟨hx1, hx2⟩
          all_goals
            go_wp2_with (first | (go_at_call 31; (with_reducible refine (hE HB.out).mono ?_); rintro e w9 ⟨rfl, hb⟩; have H9 := Lib.hid (below_call HB.out hb); clear hb))
            go_ret
            exact ⟨rfl, H9.out⟩
        have hx3 : ¬ 12 < x ∨ (12 < x ∧ ¬ x ≤ 64) := by omega
        have hy3 : ¬ 12 < y ∨ (12 < y ∧ ¬ y ≤ 64) := by omega
        have hL7 : ∀ L ∈ Ls, L.length ≤ 700000 := fun L hL => by have h1 := HME.out L hL; have h2 := HTI.out; omega
        have kd := dval_c s cp Ls pl x y o ⟨mb, mr, ms, mc, my⟩ _ (HT.out.below HB.out) (HH.out.call HB.out)
        have ky := fun (w1 : World) (hb : Below W.heap.size W w1) => yval_c s cp Ls pl x y o ⟨mb, mr, ms, mc, my⟩ w1 (HH.out.call hb) hL7
        obtain ⟨l1, l2⟩ := val_lens x y pl o ⟨mb, mr, ms, mc, my⟩ Ls
        unfold Mo.val at kd ky
        dsimp only at kd ky
        generalize valV x y pl o ⟨mb, mr, ms, mc, my⟩ Ls = XV at *
        generalize valM2 x y pl o ⟨mb, mr, ms, mc, my⟩ Ls = XM at *
        generalize valC x y pl o ⟨mb, mr, ms, mc, my⟩ Ls = cc at *
        have kE1 := fun (X : World) (t t2 : Option Addr) (k k2 : Nat) (h1 : HoldsI X t XV) (h2 : HoldsI X t2 XV) => same03_t X XV t t2 XV.length k k2 rfl h1 h2 (by omega)
        have kE2 := fun (X : World) (t t2 : Option Addr) (k k2 : Nat) (h1 : HoldsI X t XM) (h2 : HoldsI X t2 XM) => same03_t X XM t t2 XM.length k k2 rfl h1 h2 (by omega)
        clear hx hy hL7 HME HTI HZ3 l1 l2 HH HD HI
        rcases hx3 with hx1 | ⟨hx1, hx2⟩ <;> rcases hy3 with hy1 | ⟨hy1, hy2⟩
        all_goals
          go_wp2_with (first | (go_at_call 32; (with_reducible refine kd.mono ?_); rintro e w2 ⟨v, u, rfl, hT2, hb⟩; obtain ⟨s2, m2, rfl, h2⟩ := tw_holdA _ rfl hT2; obtain ⟨s3, m3, rfl, h3⟩ := tw_holdB _ rfl hT2; have A2 := Lib.hid h2; have A3 := Lib.hid h3; have H2 := Lib.hid (below_call HB.out hb); have MB2 := HMB.out.below hb; have ky2 := ky _ H2.out; clear c0 c1 c2 c3 c4 c5 c6 c7 c8 c9; obtain ⟨c0, c1, c2, c3, c4, c5, c6, c7, c8, c9⟩ := in_c MB2; clear hb h2 h3 hT2 MB2) | (go_at_call 33; (with_reducible refine ky2.mono ?_); rintro e w3 ⟨v, u, rfl, hT3, hb⟩; obtain ⟨s4, m4, rfl, h4⟩ := tw_holdA _ rfl hT3; obtain ⟨s5, m5, rfl, h5⟩ := tw_holdB _ rfl hT3; have H3 := Lib.hid (below_call H2.out hb); have e1 := kE1 _ s2 s4 m2 m4 (A2.out.call hb) h4; have A3' := Lib.hid (A3.out.call hb); have A5 := Lib.hid h5; clear hb h4 h5 hT3) | (go_at_call 34; first | ((with_reducible refine e1.mono ?_); rintro e w4 ⟨rfl, hb⟩; have H4 := Lib.hid (below_call H3.out hb); have e2 := kE2 _ s3 s5 m3 m5 (A3'.out.call hb) (A5.out.call hb); clear hb) | ((with_reducible refine e2.mono ?_); rintro e w5 ⟨rfl, hb⟩; have H5 := Lib.hid (below_call H4.out hb); clear hb)) | (go_at_call 31; (with_reducible refine (hE H5.out).mono ?_); rintro e w9 ⟨rfl, hb⟩; have H9 := Lib.hid (below_call H5.out hb); clear hb))
          go_ret
          exact ⟨by first | rfl | simp, H9.out⟩

set_option maxRecDepth 100000 in
theorem lifted (os : Os) (started : os.Started) (H : Type) (enc : TypeId × Value → H) :
    ReturnsInHanded {} Tryd.checked os 10 .any (fun w args => (Rows.decpassValuesSpec.pre enc Tryd.prog Tryd.f10 Rows.decpassValuesRow.domain false w args ∧ laidMetH Tryd.prog Rows.decpassValuesRow.laid w) ∧ sizedMet enc Tryd.prog Tryd.f10 (OpenSpec.ofChange Rows.decpassValuesSpec) false w args)
      (Rows.decpassValuesSpec.post enc Tryd.prog Tryd.f10 false true false false) := by
  refine returnsInHanded_of_change_and (C := Tryd.checked) (X := fun w _ => laidMetH Tryd.prog Rows.decpassValuesRow.laid w) (fun _ _ _ hh h => h.of_heap hh) own started (by kernel_rfl) Tryd.func10
    (ChangeSpec.witness_shaped (enc := enc) (C := Tryd.checked) (os := os) (X := fun w _ => laidMetH Tryd.prog Rows.decpassValuesRow.laid w) false (World.laidAll Tryd.prog os Rows.decpassValuesRow.laid) #[.agg #[.slice none 0 0, .int .i64 0, .int .i64 0, .int .i64 0, .int .i64 0, .bool false, .bool false, .bool false, .bool false, .bool false]] 8 (World.laidAll_os _ _ _)
      (World.shaped_of_ZipB (by kernel_rfl) (by kernel_rfl)) (by kernel_rfl) (by kernel_rfl) (by kernel_rfl)
      (by rw [MakeChecks.laidMetH_plain _ _ _ (by kernel_rfl)]; exact laidMet_laidAll _ (by kernel_rfl) (by kernel_rfl))) ?_
  intro W base args ds gs before hval0 hW _ hsz hL _
  have hval : ∀ (j : Nat) t v, Tryd.f10.params[j]? = some t → args[j]? = some v → Value.okWide Tryd.prog W .any base t v := hval0
  have hT : Cx.Tabs W := Cx.tabs_of_laid hL
  have hW' := hW
  obtain ⟨p, q, hA0, hV, rfl, _, _⟩ := hW
  have hA : DataW.TrodAll enc Tryd.prog W 0 (fun _ => true) true Tryd.f10.params.toList args.toList ds p := hA0
  rw [Tryd.params10] at hA hval
  obtain ⟨v0, vs0, d0, ds0, p0, q0, hargs, rfl, rfl, h0, r0⟩ := trodAll_cons hA
  obtain ⟨rfl, rfl, rfl⟩ := trodAll_nil r0
  obtain rfl : args = #[v0] := by cases args; simp_all
  obtain ⟨rfl, rfl⟩ := trodVars_none hV
  have hz0 : ∀ n ∈ d0.weights Tryd.prog 63, n ≤ reachBytes := fun n hn => by
    have hsz' : (DataW.weightsEach Tryd.prog [63] [d0]).all (· ≤ reachBytes) = true := hsz
    have := List.all_eq_true.1 hsz' n (DataW.weights_mem_each (j := 0) rfl rfl n hn)
    simpa using this
  clear hA0 hval0
  simp only [List.append_nil] at hW'
  have l0 : ∀ x ∈ p0, x.block < W.heap.size := fun x hx => hW'.lt x (by simp [hx])
  obtain ⟨B0, rfl, hB0⟩ := open_In (hval 0 63 v0 rfl rfl) h0 hz0
  refine (walk B0 W hT hB0).mono fun e W' ⟨he, hb⟩ => ?_
  subst he
  exact ⟨_, rfl, post_low (pa := p0 ++ ([])) (pv := []) hW' (fun _ _ _ => (trodAll_cons_mk (shut_bool Tryd.underlying4 _) trodAll_mk0)) (fun sp hsp => (trodAll_cons_mk (trod_low laidOut (by kernel_rfl) (of_decide_eq_true (by kernel_rfl)) h0 hb l0 (fun x hx => hsp x (by simp [hx]))) trodAll_mk0)) (fun _ _ => rfl) (by simp) hb (ok_one (by kernel_rfl) rfl (okWide_bool_mk Tryd.underlying4 _))⟩

theorem over : Rows.decpassValuesRow.holds Tryd.pinned (OpenSpec.ofChange Rows.decpassValuesSpec) :=
  OpenClaim.holds_of_wide 10 Tryd.f10 rfl rfl rfl rfl rfl rfl rfl ⟨rfl, rfl, rfl, rfl, rfl⟩ rfl rfl rfl rfl rfl (by kernel_rfl) Tryd.func10 (by kernel_rfl)
    (of_decide_eq_true (by kernel_rfl)) (by unfold Func.isWrapper; first | (rw [if_pos (by decide +kernel)]; kernel_rfl) | (rw [if_neg (by decide +kernel)]; exact ⟨rfl, rfl⟩))
    (fun os started H enc _ => lifted os started H enc)
theorem proved : Rows.DecpassValuesCardSaid :=
  Claim7.holds_tied_plain_at .later [] [.data, .data, .data] true Rows.decpassValuesCard.stood.harness false over (fun _ h => by cases h) (by kernel_rfl) (fun _ h => by cases h) decpassValues_row_tie rfl ⟨rfl, rfl⟩ (by kernel_rfl) rfl
    (fun f fn hf hfn => by
      obtain rfl : f = 10 := Option.some.inj ((show Tryd.prog.funcNamed Rows.decpassValuesRow.func = some 10 by kernel_rfl).symm.trans hf) |>.symm
      obtain rfl : fn = Tryd.f10 := (Option.some.inj (Tryd.func10.symm.trans hfn)).symm
      exact ⟨by kernel_rfl, fun j t ht => by
        rw [Tryd.params10] at ht
        have hm : t ∈ [63] := by simpa using Array.mem_of_getElem? ht
        have hall : ([63].all fun u => !Tryd.prog.wantsStandIn u) = true := by kernel_rfl
        exact (show Tryd.prog.wantsStandIn t = false by simpa using List.all_eq_true.1 hall t hm)⟩)
    (by kernel_rfl)
#print axioms proved
end Go.Proofs.YtbhjapgioaiocaaDoor.decpassValues
