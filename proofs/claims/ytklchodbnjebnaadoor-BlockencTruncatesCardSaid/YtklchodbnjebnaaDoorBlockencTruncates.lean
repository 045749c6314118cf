/-
  For all coded blocks, integers and modes the statement BlockencTruncates returns true; they read afterwards as before.
  Conditions: none beyond those of the given statement (the listed variables are tied by the card).
-/
import Derived.Test.YtklchodbnjebnaaDoorNU
import Derived.Test.YtklchodbnjebnaaDoorZt
import Derived.Test.YtklchodbnjebnaaDoorTie
import Derived.Test.YtklchodbnjebnaaDoorCards
import Derived.LaidMore
import Derived.Lay
import Derived.SevenTiedAt
import Derived.Stop.Joined
set_option maxRecDepth 100000
namespace Go.Proofs.YtklchodbnjebnaaDoor.blockencTruncates
open Go.ChangeShapes Go.WideShapes Go.ChangeAt Go.RowKit Go.Joins Go.Deep

/-- A cut that is allowed. -/
theorem trunc_ok (pl p : Int) (E D F T : List Int) (v : Value) (m : Mo) (W : World) (hv : CvAt W v pl E D) (hl : E.length ≤ 1000000000) (ht : trE pl E D.length p = 0) (hF : E.take p.toNat = F) (hT : trD E D p.toNat = T) :
    Calls Tryd.prog 12 #[v, .int .i64 p, m.val] W fun e w' => ∃ se me sd md, e = .returned (.tuple #[.agg #[.int .i64 pl, .slice se F.length me, .slice sd T.length md], .int .i64 0]) ∧ Below W.heap.size W w' ∧ CvAt w' (.agg #[.int .i64 pl, .slice se F.length me, .slice sd T.length md]) pl F T := by
  refine (btrunc_c pl p E D v m W hv hl).mono ?_
  rintro e w' ⟨hb, ⟨h1, _⟩ | ⟨_, v', rfl, h2, _⟩⟩
  · exact absurd ht h1
  · rw [hF, hT] at h2
    have h3 := h2
    obtain ⟨se, me, sd, md, rfl, _⟩ := h3
    exact ⟨se, me, sd, md, rfl, hb, h2⟩
theorem trunc_no (pl p : Int) (E D : List Int) (v : Value) (m : Mo) (W : World) (hv : CvAt W v pl E D) (hl : E.length ≤ 1000000000) (ht : trE pl E D.length p ≠ 0) :
    Calls Tryd.prog 12 #[v, .int .i64 p, m.val] W fun e w' => e = .returned (.tuple #[.agg #[.int .i64 0, .slice none 0 0, .slice none 0 0], .int .i64 (trE pl E D.length p)]) ∧ Below W.heap.size W w' := by
  refine (btrunc_c pl p E D v m W hv hl).mono ?_
  rintro e w' ⟨hb, ⟨_, rfl⟩ | ⟨h1, _⟩⟩
  · exact ⟨rfl, hb⟩
  · exact absurd h1 ht
/-- The same of the reference. -/
theorem ztrunc_ok (pl p : Int) (E D F T : List Int) (v : Value) (m : Mo) (W : World) (hv : CvAt W v pl E D) (hl : E.length ≤ 1000000000) (ht : trE pl E D.length p = 0) (hF : E.take p.toNat = F) (hT : trD E D p.toNat = T) :
    Calls Tryd.prog 13 #[v, .int .i64 p, m.val] W fun e w' => ∃ se me sd md, e = .returned (.tuple #[.agg #[.int .i64 pl, .slice se F.length me, .slice sd T.length md], .int .i64 0]) ∧ Below W.heap.size W w' ∧ CvAt w' (.agg #[.int .i64 pl, .slice se F.length me, .slice sd T.length md]) pl F T := by
  refine (ztrunc_c pl p E D v m W hv hl).mono ?_
  rintro e w' ⟨hb, ⟨h1, _⟩ | ⟨_, v', rfl, h2, _⟩⟩
  · exact absurd ht h1
  · rw [hF, hT] at h2
    have h3 := h2
    obtain ⟨se, me, sd, md, rfl, _⟩ := h3
    exact ⟨se, me, sd, md, rfl, hb, h2⟩
theorem ztrunc_no (pl p : Int) (E D : List Int) (v : Value) (m : Mo) (W : World) (hv : CvAt W v pl E D) (hl : E.length ≤ 1000000000) (ht : trE pl E D.length p ≠ 0) :
    Calls Tryd.prog 13 #[v, .int .i64 p, m.val] W fun e w' => e = .returned (.tuple #[.agg #[.int .i64 0, .slice none 0 0, .slice none 0 0], .int .i64 (trE pl E D.length p)]) ∧ Below W.heap.size W w' := by
  refine (ztrunc_c pl p E D v m W hv hl).mono ?_
  rintro e w' ⟨hb, ⟨_, rfl⟩ | ⟨h1, _⟩⟩
  · exact ⟨rfl, hb⟩
  · exact absurd h1 ht
theorem cells3 {w : World} {g : Nat} {a b c : Value} (h : Blk w g 25 #[a, b, c]) : w.cell? ⟨g, 0, none⟩ = some a ∧ w.cell? ⟨g, 1, none⟩ = some b ∧ w.cell? ⟨g, 2, none⟩ = some c := ⟨h.cell 0, h.cell 1, h.cell 2⟩
theorem cells5 {w : World} {g : Nat} {a b c d e : Value} (h : Blk w g 27 #[a, b, c, d, e]) : w.cell? ⟨g, 0, none⟩ = some a ∧ w.cell? ⟨g, 1, none⟩ = some b ∧ w.cell? ⟨g, 2, none⟩ = some c ∧ w.cell? ⟨g, 3, none⟩ = some d ∧ w.cell? ⟨g, 4, none⟩ = some e := ⟨h.cell 0, h.cell 1, h.cell 2, h.cell 3, h.cell 4⟩
theorem cv_zero (w : World) : CvAt w (.agg #[.int .i64 0, .slice none 0 0, .slice none 0 0]) 0 [] [] := ⟨none, 0, none, 0, rfl, .inl rfl, .inl rfl, by simp, by simp, fun _ => ⟨rfl, rfl⟩, fun _ => ⟨rfl, rfl⟩⟩
set_option maxHeartbeats 16000000 in
theorem walk (v : Value) (c : CoV) (p : Int) (m : Mo) (W : World) (hT : Cx.Tabs W) (hC : CoR W v c) : Calls Tryd.prog 4 #[v, .int .i64 p, m.val] W fun e w' => e = .returned (.bool true) ∧ Below W.heap.size W w' := by
  have hA := fun (w1 : World) (hb : Below W.heap.size W w1) => awake17_c w1 (hT.below hb)
  have hF := fun (w1 : World) (hb : Below W.heap.size W w1) => few17_c w1 v c (hC.cv.call hb)
  obtain ⟨pl, E, D⟩ := c
  have hcv := hC.cv
  have hcv2 := hC.cv
  obtain ⟨se, me, sd, md9, rfl, _⟩ := hcv2
  obtain ⟨mb, mr, ms, mc, my⟩ := m
  dsimp only at *
  obtain ⟨mo, hmo⟩ : ∃ mo : Mo, mo = ⟨mb, mr, ms, mc, my⟩ := ⟨_, rfl⟩
  have hmv : mo.val = .agg #[.bool mb, .bool mr, .bool ms, .bool mc, .bool my] := by rw [hmo]; rfl
  rw [← hmo, hmv]
  obtain ⟨WA, hWA⟩ : ∃ x, x = (W.alloc (.cells #[.int .i64 pl, .slice se E.length me, .slice sd D.length md9] 25)).alloc (.cells #[.bool mb, .bool mr, .bool ms, .bool mc, .bool my] 27) := ⟨_, rfl⟩
  have hB : Below W.heap.size W WA := by rw [hWA]; exact below_alloc (below_alloc (Below.refl _ W) _) _
  have hX : Blk WA W.heap.size 25 #[.int .i64 pl, .slice se E.length me, .slice sd D.length md9] := by rw [hWA]; exact (Blk.new W _ _).alloc _
  have hY : Blk WA (W.heap.size + 1) 27 #[.bool mb, .bool mr, .bool ms, .bool mc, .bool my] := by
    have := Blk.new (W.alloc (.cells #[.int .i64 pl, .slice se E.length me, .slice sd D.length md9] 25)) 27 #[.bool mb, .bool mr, .bool ms, .bool mc, .bool my]
    rw [hWA]; simpa using this
  obtain ⟨x0, x1, x2⟩ := cells3 hX
  have XD := Lib.hid hX
  have YD := Lib.hid hY
  have PF := Lib.hid (fun (w : World) (hb : Below WA.heap.size WA w) => below_call hB hb)
  have HCV := Lib.hid hcv
  have HMV := Lib.hid hmv
  have HAW := Lib.hid hA
  have kf := hF WA hB
  clear hT hC hB hX hY hcv hmo hmv hA hF
  rw [hWA] at kf x0 x1 x2 XD YD PF
  clear hWA
  by_cases hf : E.length ≤ 300 ∧ D.length ≤ 20000
  · rw [decide_eq_true hf.1, decide_eq_true hf.2] at kf
    by_cases ht : trE pl E D.length p = 0
    · obtain ⟨F, hF⟩ : ∃ x, E.take p.toNat = x := ⟨_, rfl⟩
      obtain ⟨T, hT⟩ : ∃ x, trD E D p.toNat = x := ⟨_, rfl⟩
      have lF : F.length ≤ 1000000000 := by rw [← hF, List.length_take]; omega
      have lT : T.length ≤ 1000000000 := by rw [← hT]; unfold trD; rw [List.length_take]; omega
      have kt := fun (w1 : World) (hb : Below W.heap.size W w1) => trunc_ok pl p E D F T _ mo w1 (HCV.out.call hb) (by omega) ht hF hT
      have ku := fun (w1 : World) (hb : Below W.heap.size W w1) => ztrunc_ok pl p E D F T _ mo w1 (HCV.out.call hb) (by omega) ht hF hT
      have ks := fun (w1 : World) (v1 v2 : Value) (hv : CvAt w1 v1 pl F T) (hv2 : CvAt w1 v2 pl F T) => samec_t w1 v1 v2 pl F T hv hv2 lF lT
      rw [HMV.out] at kt ku
      have KT := Lib.hid kt
      have KU := Lib.hid ku
      have KS := Lib.hid ks
      clear kt ku ks lF lT hF hT hf ht
      go_enter Tryd.func4, Tryd.ntmps4
      go_wp2_with (first
        | (go_at_call 8; (with_reducible refine kf.mono ?_); rintro e w1 ⟨rfl, hb⟩; have P1 := Lib.hid (PF.out _ hb); have X1 := Lib.hid ((XD.out).below hb); have Y1 := Lib.hid ((YD.out).below hb); obtain ⟨x0, x1, x2⟩ := cells3 X1.out; obtain ⟨z0, z1, z2, z3, z4⟩ := cells5 Y1.out; clear hb; have kt := KT.out _ P1.out)
        | (go_at_call 12; (with_reducible refine kt.mono ?_); rintro e w2 ⟨s2, m2, d2, k2, rfl, hb2, hc2⟩; have P2 := Lib.hid (below_alloc (below_call P1.out hb2) (.cells #[.int .i64 pl, .slice s2 F.length m2, .slice d2 T.length k2] 25)); have X2 := Lib.hid ((X1.out.below hb2).alloc (.cells #[.int .i64 pl, .slice s2 F.length m2, .slice d2 T.length k2] 25)); have Y2 := Lib.hid ((Y1.out.below hb2).alloc (.cells #[.int .i64 pl, .slice s2 F.length m2, .slice d2 T.length k2] 25)); have TB2 := Lib.hid (Blk.new w2 25 #[.int .i64 pl, .slice s2 F.length m2, .slice d2 T.length k2]); have H2 := Lib.hid (hc2.call (below_alloc (Below.refl _ w2) (.cells #[.int .i64 pl, .slice s2 F.length m2, .slice d2 T.length k2] 25))); obtain ⟨z0, z1, z2, z3, z4⟩ := cells5 Y2.out; obtain ⟨x0, x1, x2⟩ := cells3 X2.out; have ku := KU.out _ P2.out; clear hb2 hc2)
        | (go_at_call 13; (with_reducible refine ku.mono ?_); rintro e w3 ⟨s3, m3, d3, k3, rfl, hb3, hc3⟩; have P3 := Lib.hid (below_alloc (below_call P2.out hb3) (.cells #[.int .i64 pl, .slice s3 F.length m3, .slice d3 T.length k3] 25)); have TB3 := Lib.hid ((TB2.out.below hb3).alloc (.cells #[.int .i64 pl, .slice s3 F.length m3, .slice d3 T.length k3] 25)); have UB3 := Lib.hid (Blk.new w3 25 #[.int .i64 pl, .slice s3 F.length m3, .slice d3 T.length k3]); have H23 := Lib.hid (H2.out.call (below_alloc hb3 (.cells #[.int .i64 pl, .slice s3 F.length m3, .slice d3 T.length k3] 25))); have H3 := Lib.hid (hc3.call (below_alloc (Below.refl _ w3) (.cells #[.int .i64 pl, .slice s3 F.length m3, .slice d3 T.length k3] 25))); obtain ⟨t0, t1, t2⟩ := cells3 TB3.out; obtain ⟨u0, u1, u2⟩ := cells3 UB3.out; have ks := KS.out _ _ _ H23.out H3.out; clear hb3 hc3)
        | (go_at_call 14; (with_reducible refine ks.mono ?_); rintro e w5 ⟨rfl, hb5⟩; have P5 := Lib.hid (below_call P3.out hb5); have ka := HAW.out _ P5.out; clear hb5)
        | (go_at_call 9; (with_reducible refine ka.mono ?_); rintro e w9 ⟨rfl, hb9⟩; have W9 := Lib.hid (below_call P5.out hb9); clear hb9) | fail)
      go_ret
      exact ⟨rfl, W9.out⟩
    · have kt := fun (w1 : World) (hb : Below W.heap.size W w1) => trunc_no pl p E D _ mo w1 (HCV.out.call hb) (by omega) ht
      have ku := fun (w1 : World) (hb : Below W.heap.size W w1) => ztrunc_no pl p E D _ mo w1 (HCV.out.call hb) (by omega) ht
      have ks := fun (w1 : World) => samec_t w1 _ _ 0 [] [] (cv_zero w1) (cv_zero w1) (by simp) (by simp)
      rw [HMV.out] at kt ku
      generalize trE pl E D.length p = er at *
      have KT := Lib.hid kt
      have KU := Lib.hid ku
      have KS := Lib.hid ks
      clear kt ku ks hf ht
      go_enter Tryd.func4, Tryd.ntmps4
      go_wp2_with (first
        | (go_at_call 8; (with_reducible refine kf.mono ?_); rintro e w1 ⟨rfl, hb⟩; have P1 := Lib.hid (PF.out _ hb); have X1 := Lib.hid ((XD.out).below hb); have Y1 := Lib.hid ((YD.out).below hb); obtain ⟨x0, x1, x2⟩ := cells3 X1.out; obtain ⟨z0, z1, z2, z3, z4⟩ := cells5 Y1.out; clear hb; have kt := KT.out _ P1.out)
        | (go_at_call 12; (with_reducible refine kt.mono ?_); rintro e w2 ⟨rfl, hb2⟩; have P2 := Lib.hid (below_alloc (below_call P1.out hb2) (.cells #[.int .i64 0, .slice none 0 0, .slice none 0 0] 25)); have X2 := Lib.hid ((X1.out.below hb2).alloc (.cells #[.int .i64 0, .slice none 0 0, .slice none 0 0] 25)); have Y2 := Lib.hid ((Y1.out.below hb2).alloc (.cells #[.int .i64 0, .slice none 0 0, .slice none 0 0] 25)); have TB2 := Lib.hid (Blk.new w2 25 #[.int .i64 0, .slice none 0 0, .slice none 0 0]); obtain ⟨z0, z1, z2, z3, z4⟩ := cells5 Y2.out; obtain ⟨x0, x1, x2⟩ := cells3 X2.out; have ku := KU.out _ P2.out; clear hb2)
        | (go_at_call 13; (with_reducible refine ku.mono ?_); rintro e w3 ⟨rfl, hb3⟩; have P3 := Lib.hid (below_alloc (below_call P2.out hb3) (.cells #[.int .i64 0, .slice none 0 0, .slice none 0 0] 25)); have TB3 := Lib.hid ((TB2.out.below hb3).alloc (.cells #[.int .i64 0, .slice none 0 0, .slice none 0 0] 25)); have UB3 := Lib.hid (Blk.new w3 25 #[.int .i64 0, .slice none 0 0, .slice none 0 0]); obtain ⟨t0, t1, t2⟩ := cells3 TB3.out; obtain ⟨u0, u1, u2⟩ := cells3 UB3.out; have ks := KS.out (w3.alloc (.cells #[.int .i64 0, .slice none 0 0, .slice none 0 0] 25)); clear hb3)
        | (go_at_call 14; (with_reducible refine ks.mono ?_); rintro e w5 ⟨rfl, hb5⟩; have P5 := Lib.hid (below_call P3.out hb5); have ka := HAW.out _ P5.out; clear hb5)
        | (go_at_call 9; (with_reducible refine ka.mono ?_); rintro e w9 ⟨rfl, hb9⟩; have W9 := Lib.hid (below_call P5.out hb9); clear hb9) | fail)
      go_ret
      exact ⟨rfl, W9.out⟩
  · have e : (decide (E.length ≤ 300) && decide (D.length ≤ 20000)) = false := by
      rcases Classical.not_and_iff_not_or_not.1 hf with h | h
      · rw [decide_eq_false h]; rfl
      · rw [decide_eq_false h]; simp
    rw [e] at kf
    clear hf e
    go_enter Tryd.func4, Tryd.ntmps4
    go_wp2_with (first | (go_at_call 8; (with_reducible refine kf.mono ?_); rintro e w1 ⟨rfl, hb⟩; have P1 := Lib.hid (PF.out _ hb); have X1 := Lib.hid ((XD.out).below hb); have Y1 := Lib.hid ((YD.out).below hb); obtain ⟨x0, x1, x2⟩ := cells3 X1.out; obtain ⟨z0, z1, z2, z3, z4⟩ := cells5 Y1.out; clear hb; have ka := HAW.out _ P1.out) | (go_at_call 9; (with_reducible refine ka.mono ?_); rintro e w9 ⟨rfl, hb9⟩; have W9 := Lib.hid (below_call P1.out hb9); clear hb9) | fail)
    go_ret
    exact ⟨rfl, W9.out⟩

set_option maxRecDepth 100000 in
theorem lifted (os : Os) (started : os.Started) (H : Type) (enc : TypeId × Value → H) :
    ReturnsInHanded {} Tryd.checked os 4 .any (fun w args => (Rows.blockencTruncatesSpec.pre enc Tryd.prog Tryd.f4 Rows.blockencTruncatesRow.domain false w args ∧ laidMetH Tryd.prog Rows.blockencTruncatesRow.laid w) ∧ sizedMet enc Tryd.prog Tryd.f4 (OpenSpec.ofChange Rows.blockencTruncatesSpec) false w args)
      (Rows.blockencTruncatesSpec.post enc Tryd.prog Tryd.f4 false true false false) := by
  refine returnsInHanded_of_change_and (C := Tryd.checked) (X := fun w _ => laidMetH Tryd.prog Rows.blockencTruncatesRow.laid w) (fun _ _ _ hh h => h.of_heap hh) own started (by kernel_rfl) Tryd.func4
    (ChangeSpec.witness_shaped (enc := enc) (C := Tryd.checked) (os := os) (X := fun w _ => laidMetH Tryd.prog Rows.blockencTruncatesRow.laid w) false (World.laidAll Tryd.prog os Rows.blockencTruncatesRow.laid) #[.agg #[.int .i64 0, .slice none 0 0, .slice none 0 0], .int .i64 0, .agg #[.bool false, .bool false, .bool false, .bool false, .bool false]] 8 (World.laidAll_os _ _ _)
      (World.shaped_of_ZipB (by kernel_rfl) (by kernel_rfl)) (by kernel_rfl) (by kernel_rfl) (by kernel_rfl)
      (by rw [MakeChecks.laidMetH_plain _ _ _ (by kernel_rfl)]; exact laidMet_laidAll _ (by kernel_rfl) (by kernel_rfl))) ?_
  intro W base args ds gs before hval0 hW _ _ hL _
  have hval : ∀ (j : Nat) t v, Tryd.f4.params[j]? = some t → args[j]? = some v → Value.okWide Tryd.prog W .any base t v := hval0
  have hT : Cx.Tabs W := Cx.tabs_of_laid hL
  have hW' := hW
  obtain ⟨p, q, hA0, hV, rfl, _, _⟩ := hW
  have hA : DataW.TrodAll enc Tryd.prog W 0 (fun _ => true) true Tryd.f4.params.toList args.toList ds p := hA0
  rw [Tryd.params4] at hA hval
  obtain ⟨v0, vs0, d0, ds0, p0, q0, hargs, rfl, rfl, h0, r0⟩ := trodAll_cons hA
  obtain ⟨v1, vs1, d1, ds1, p1, q1, rfl, rfl, rfl, h1, r1⟩ := trodAll_cons r0
  obtain ⟨v2, vs2, d2, ds2, p2, q2, rfl, rfl, rfl, h2, r2⟩ := trodAll_cons r1
  obtain ⟨rfl, rfl, rfl⟩ := trodAll_nil r2
  obtain rfl : args = #[v0, v1, v2] := by cases args; simp_all
  obtain ⟨rfl, rfl⟩ := trodVars_none hV
  clear hA0 hval0
  simp only [List.append_nil] at hW'
  have l0 : ∀ x ∈ p0, x.block < W.heap.size := fun x hx => hW'.lt x (by simp [hx])
  have l1 : ∀ x ∈ p1, x.block < W.heap.size := fun x hx => hW'.lt x (by simp [hx])
  have l2 : ∀ x ∈ p2, x.block < W.heap.size := fun x hx => hW'.lt x (by simp [hx])
  obtain ⟨c0, hC0⟩ := open_coded (hval 0 25 v0 rfl rfl) h0
  obtain ⟨i1, rfl, _, _, wi1⟩ := open_int Tryd.underlying3 (hval 1 3 v1 rfl rfl) h1
  obtain ⟨m2, rfl⟩ := open_mode9 (hval 2 27 v2 rfl rfl) h2
  refine (walk v0 c0 i1 m2 W hT hC0).mono fun e W' ⟨he, hb⟩ => ?_
  subst he
  exact ⟨_, rfl, post_low (pa := p0 ++ (p1 ++ (p2 ++ ([])))) (pv := []) hW' (fun _ _ _ => (trodAll_cons_mk (shut_bool Tryd.underlying4 _) trodAll_mk0)) (fun sp hsp => (trodAll_cons_mk (trod_low laidOut (by kernel_rfl) (of_decide_eq_true (by kernel_rfl)) h0 hb l0 (fun x hx => hsp x (by simp [hx]))) (trodAll_cons_mk (trod_low laidOut (by kernel_rfl) (of_decide_eq_true (by kernel_rfl)) h1 hb l1 (fun x hx => hsp x (by simp [hx]))) (trodAll_cons_mk (trod_low laidOut (by kernel_rfl) (of_decide_eq_true (by kernel_rfl)) h2 hb l2 (fun x hx => hsp x (by simp [hx]))) trodAll_mk0)))) (fun _ _ => rfl) (by simp) hb (ok_one (by kernel_rfl) rfl (okWide_bool_mk Tryd.underlying4 _))⟩

theorem over : Rows.blockencTruncatesRow.holds Tryd.pinned (OpenSpec.ofChange Rows.blockencTruncatesSpec) :=
  OpenClaim.holds_of_wide 4 Tryd.f4 rfl rfl rfl rfl rfl rfl rfl ⟨rfl, rfl, rfl, rfl, rfl⟩ rfl rfl rfl rfl rfl (by kernel_rfl) Tryd.func4 (by kernel_rfl)
    (of_decide_eq_true (by kernel_rfl)) (by unfold Func.isWrapper; first | (rw [if_pos (by decide +kernel)]; kernel_rfl) | (rw [if_neg (by decide +kernel)]; exact ⟨rfl, rfl⟩))
    (fun os started H enc _ => lifted os started H enc)
theorem proved : Rows.BlockencTruncatesCardSaid :=
  Claim7.holds_tied_plain_at .later [] [.data, .data, .data] true Rows.blockencTruncatesCard.stood.harness false over (fun _ h => by cases h) (by kernel_rfl) (fun _ h => by cases h) blockencTruncates_row_tie rfl ⟨rfl, rfl⟩ (by kernel_rfl) rfl
    (fun f fn hf hfn => by
      obtain rfl : f = 4 := Option.some.inj ((show Tryd.prog.funcNamed Rows.blockencTruncatesRow.func = some 4 by kernel_rfl).symm.trans hf) |>.symm
      obtain rfl : fn = Tryd.f4 := (Option.some.inj (Tryd.func4.symm.trans hfn)).symm
      exact ⟨by kernel_rfl, fun j t ht => by
        rw [Tryd.params4] at ht
        have hm : t ∈ [25, 3, 27] := by simpa using Array.mem_of_getElem? ht
        have hall : ([25, 3, 27].all fun u => !Tryd.prog.wantsStandIn u) = true := by kernel_rfl
        exact (show Tryd.prog.wantsStandIn t = false by simpa using List.all_eq_true.1 hall t hm)⟩)
    (by kernel_rfl)
#print axioms proved
end Go.Proofs.YtklchodbnjebnaaDoor.blockencTruncates
