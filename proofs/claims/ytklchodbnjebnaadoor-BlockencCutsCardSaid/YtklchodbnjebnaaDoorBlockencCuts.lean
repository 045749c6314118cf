/-
  For all coded blocks, pairs and modes the statement BlockencCuts returns true; they read afterwards as before.
  Conditions: none beyond those of the given statement (the listed variables are tied by the card).
-/
import Derived.Test.YtklchodbnjebnaaDoorNU
import Derived.Test.YtklchodbnjebnaaDoorNR
import Derived.Test.YtklchodbnjebnaaDoorTie
import Derived.Test.YtklchodbnjebnaaDoorCards
import Derived.LaidMore
import Derived.Lay
import Derived.SevenTiedAt
import Derived.Stop.Joined
set_option maxRecDepth 100000
namespace Go.Proofs.YtklchodbnjebnaaDoor.blockencCuts
open Go.ChangeShapes Go.WideShapes Go.ChangeAt Go.RowKit Go.Joins Go.Deep

theorem trE_ok {pl p : Int} {E : List Int} {d : Nat} (h : trE pl E d p = 0) : vaE pl E d = 0 ∧ 0 ≤ p ∧ p ≤ (E.length : Int) := by
  unfold trE at h
  by_cases h1 : vaE pl E d ≠ 0
  · rw [if_pos h1] at h; exact absurd h h1
  · rw [if_neg h1] at h
    by_cases h2 : p < 0 ∨ (E.length : Int) < p
    · rw [if_pos h2] at h; omega
    · exact ⟨by simpa using h1, by omega, by omega⟩
theorem trE_of {pl p : Int} {E : List Int} {d : Nat} (h : vaE pl E d = 0) (h0 : 0 ≤ p) (h1 : p ≤ (E.length : Int)) : trE pl E d p = 0 := by
  unfold trE
  rw [if_neg (by simp [h]), if_neg (by omega)]
theorem trD_len {pl : Int} {E D : List Int} (h : vaE pl E D.length = 0) {n : Nat} (hn : n ≤ E.length) : ((trD E D n).length : Int) = pvE E n ∧ (trD E D n).length ≤ D.length := by
  obtain ⟨_, _, _, h4, h5, _⟩ := va_ok h
  have h6 := pv_nn h4 hn
  have h7 := pv_le h4 hn (Nat.le_refl _)
  unfold trD
  rw [List.length_take]
  omega
theorem cut_va {pl : Int} {E D : List Int} (h : vaE pl E D.length = 0) {n : Nat} (hn : n ≤ E.length) : vaE pl (E.take n) (trD E D n).length = 0 := by
  obtain ⟨h1, h2, h3, h4, h5, h6⟩ := va_ok h
  obtain ⟨h7, h8⟩ := trD_len h hn
  have hl : (E.take n).length = n := by rw [List.length_take]; omega
  refine va_of h1 h2 (by rw [hl]; omega) ?_ (by rw [hl, pv_take E (Nat.le_refl _)]; exact h7.symm) (by omega)
  rw [asc_iff]
  intro i hi
  rw [hl] at hi
  rw [pv_take E (by omega)]
  have := (asc_iff E).1 h4 i (by omega)
  have e : (E.take n).getD i 0 = E.getD i 0 := by rw [List.getD_eq_getElem?_getD, List.getD_eq_getElem?_getD, List.getElem?_take_of_lt hi]
  rw [e]; exact this
theorem cut_cut {pl : Int} {E D : List Int} (h : vaE pl E D.length = 0) {n k : Nat} (hn : n ≤ E.length) (hk : k ≤ n) : (E.take n).take k = E.take k ∧ trD (E.take n) (trD E D n) k = trD E D k := by
  obtain ⟨_, _, _, h4, _, _⟩ := va_ok h
  have h7 := pv_le h4 hk hn
  refine ⟨by rw [List.take_take, Nat.min_eq_left hk], ?_⟩
  unfold trD
  rw [pv_take E hk, List.take_take, Nat.min_eq_left (by omega)]
theorem cut_all {pl : Int} {E D : List Int} (h : vaE pl E D.length = 0) : trD E D E.length = D := by
  obtain ⟨_, _, _, _, h5, _⟩ := va_ok h
  unfold trD
  rw [h5, Int.toNat_natCast, List.take_length]
theorem cut_at {E D : List Int} {n k : Nat} (hk : k < (trD E D n).length) : (trD E D n).getD k 0 = D.getD k 0 := by
  unfold trD at *
  rw [List.length_take] at hk
  rw [List.getD_eq_getElem?_getD, List.getD_eq_getElem?_getD, List.getElem?_take_of_lt (by omega)]
/-- A cut that is allowed. -/
theorem trunc_ok (pl p : Int) (E D F T : List Int) (v : Value) (m : Mo) (W : World) (hv : CvAt W v pl E D) (hl : E.length ≤ 1000000000) (ht : trE pl E D.length p = 0) (hF : E.take p.toNat = F) (hT : trD E D p.toNat = T) :
    Calls Tryd.prog 12 #[v, .int .i64 p, m.val] W fun e w' => ∃ se me sd md, e = .returned (.tuple #[.agg #[.int .i64 pl, .slice se F.length me, .slice sd T.length md], .int .i64 0]) ∧ Below W.heap.size W w' ∧ CvAt w' (.agg #[.int .i64 pl, .slice se F.length me, .slice sd T.length md]) pl F T := by
  refine (btrunc_c pl p E D v m W hv hl).mono ?_
  rintro e w' ⟨hb, ⟨h1, _⟩ | ⟨_, v', rfl, h2, _⟩⟩
  · exact absurd ht h1
  · rw [hF, hT] at h2
    have h3 := h2
    obtain ⟨se, me, sd, md, rfl, _⟩ := h3
    exact ⟨se, me, sd, md, rfl, hb, h2⟩
theorem trunc_no (pl p : Int) (E D : List Int) (v : Value) (m : Mo) (W : World) (hv : CvAt W v pl E D) (hl : E.length ≤ 1000000000) (ht : trE pl E D.length p ≠ 0) :
    Calls Tryd.prog 12 #[v, .int .i64 p, m.val] W fun e w' => e = .returned (.tuple #[.agg #[.int .i64 0, .slice none 0 0, .slice none 0 0], .int .i64 (trE pl E D.length p)]) ∧ Below W.heap.size W w' := by
  refine (btrunc_c pl p E D v m W hv hl).mono ?_
  rintro e w' ⟨hb, ⟨_, rfl⟩ | ⟨h1, _⟩⟩
  · exact ⟨rfl, hb⟩
  · exact absurd h1 ht
theorem cells3 {w : World} {g : Nat} {a b c : Value} (h : Blk w g 25 #[a, b, c]) : w.cell? ⟨g, 0, none⟩ = some a ∧ w.cell? ⟨g, 1, none⟩ = some b ∧ w.cell? ⟨g, 2, none⟩ = some c := ⟨h.cell 0, h.cell 1, h.cell 2⟩
theorem cells5 {w : World} {g : Nat} {a b c d e : Value} (h : Blk w g 27 #[a, b, c, d, e]) : w.cell? ⟨g, 0, none⟩ = some a ∧ w.cell? ⟨g, 1, none⟩ = some b ∧ w.cell? ⟨g, 2, none⟩ = some c ∧ w.cell? ⟨g, 3, none⟩ = some d ∧ w.cell? ⟨g, 4, none⟩ = some e := ⟨h.cell 0, h.cell 1, h.cell 2, h.cell 3, h.cell 4⟩
set_option maxHeartbeats 16000000 in
theorem walk (v : Value) (c : CoV) (p q : Int) (m : Mo) (W : World) (hT : Cx.Tabs W) (hC : CoR W v c) : Calls Tryd.prog 6 #[v, .agg #[.int .i64 p, .int .i64 q], m.val] W fun e w' => e = .returned (.bool true) ∧ Below W.heap.size W w' := by
  have hA := fun (w1 : World) (hb : Below W.heap.size W w1) => awake17_c w1 (hT.below hb)
  have hF := fun (w1 : World) (hb : Below W.heap.size W w1) => few17_c w1 v c (hC.cv.call hb)
  obtain ⟨pl, E, D⟩ := c
  have hcv := hC.cv
  have hcv2 := hC.cv
  obtain ⟨se, me, sd, md9, rfl, _⟩ := hcv2
  obtain ⟨mb, mr, ms, mc, my⟩ := m
  dsimp only at *
  obtain ⟨mo, hmo⟩ : ∃ mo : Mo, mo = ⟨mb, mr, ms, mc, my⟩ := ⟨_, rfl⟩
  have hmv : mo.val = .agg #[.bool mb, .bool mr, .bool ms, .bool mc, .bool my] := by rw [hmo]; rfl
  rw [← hmo, hmv]
  obtain ⟨WA, hWA⟩ : ∃ x, x = ((W.alloc (.cells #[.int .i64 pl, .slice se E.length me, .slice sd D.length md9] 25)).alloc (.cells #[.int .i64 p, .int .i64 q] 42)).alloc (.cells #[.bool mb, .bool mr, .bool ms, .bool mc, .bool my] 27) := ⟨_, rfl⟩
  have hB : Below W.heap.size W WA := by rw [hWA]; exact below_alloc (below_alloc (below_alloc (Below.refl _ W) _) _) _
  have hX : Blk WA W.heap.size 25 #[.int .i64 pl, .slice se E.length me, .slice sd D.length md9] := by rw [hWA]; exact ((Blk.new W _ _).alloc _).alloc _
  have hN : Blk WA (W.heap.size + 1) 42 #[.int .i64 p, .int .i64 q] := by
    have := (Blk.new (W.alloc (.cells #[.int .i64 pl, .slice se E.length me, .slice sd D.length md9] 25)) 42 #[.int .i64 p, .int .i64 q]).alloc (.cells #[.bool mb, .bool mr, .bool ms, .bool mc, .bool my] 27)
    rw [hWA]; simpa using this
  have hY : Blk WA (W.heap.size + 2) 27 #[.bool mb, .bool mr, .bool ms, .bool mc, .bool my] := by
    have := Blk.new ((W.alloc (.cells #[.int .i64 pl, .slice se E.length me, .slice sd D.length md9] 25)).alloc (.cells #[.int .i64 p, .int .i64 q] 42)) 27 #[.bool mb, .bool mr, .bool ms, .bool mc, .bool my]
    rw [hWA]; simpa using this
  have n0 : WA.cell? ⟨W.heap.size + 1, 0, none⟩ = some (.int .i64 p) := hN.cell 0
  have n1 : WA.cell? ⟨W.heap.size + 1, 1, none⟩ = some (.int .i64 q) := hN.cell 1
  obtain ⟨x0, x1, x2⟩ := cells3 hX.drew
  have XD := Lib.hid hX.drew
  have YD := Lib.hid hY.drew
  have PF := Lib.hid (fun (w : World) (hb : Below WA.drew.heap.size WA.drew w) => below_call hB.drew hb)
  have HCV := Lib.hid hcv
  have HMV := Lib.hid hmv
  have HAW := Lib.hid hA
  have kf := hF WA.drew hB.drew
  clear hT hC hB hX hY hN hcv hmo hmv hA hF
  rw [hWA] at n0 n1 kf x0 x1 x2 XD YD PF
  clear hWA
  by_cases hf : E.length ≤ 300 ∧ D.length ≤ 20000
  · rw [decide_eq_true hf.1, decide_eq_true hf.2] at kf
    by_cases ht : trE pl E D.length p = 0
    · obtain ⟨hva, hp0, hpe⟩ := trE_ok ht
      by_cases hq : 0 ≤ q ∧ q ≤ p
      · have g1 := cut_va hva (n := p.toNat) (by omega)
        obtain ⟨g2, g3⟩ := cut_cut hva (n := p.toNat) (k := q.toNat) (by omega) (by omega)
        obtain ⟨_, g4⟩ := trD_len hva (n := p.toNat) (by omega)
        have g5 : ((E.take p.toNat).length : Int) = p := by rw [List.length_take]; omega
        have g6 : ∀ k, k < (trD E D p.toNat).length → (trD E D p.toNat).getD k 0 = D.getD k 0 := fun k hk => cut_at hk
        have g7 : ¬ p < (E.length : Int) → E.take p.toNat = E ∧ trD E D p.toNat = D := by
          intro h
          have h2 : p.toNat = E.length := by omega
          rw [h2]
          exact ⟨List.take_length, cut_all hva⟩
        have g8 : trE pl E D.length q = 0 := trE_of hva hq.1 (by omega)
        obtain ⟨F, hF⟩ : ∃ x, E.take p.toNat = x := ⟨_, rfl⟩
        obtain ⟨T, hT⟩ : ∃ x, trD E D p.toNat = x := ⟨_, rfl⟩
        obtain ⟨F2, hF2⟩ : ∃ x, E.take q.toNat = x := ⟨_, rfl⟩
        obtain ⟨T2, hT2⟩ : ∃ x, trD E D q.toNat = x := ⟨_, rfl⟩
        rw [hF, hT] at g1 g7
        rw [hF, hF2] at g2
        rw [hF, hT, hT2] at g3
        rw [hT] at g4 g6
        rw [hF] at g5
        have g9 : trE pl F T.length q = 0 := trE_of g1 hq.1 (by omega)
        have hq1 := hq.1
        have hq2 := hq.2
        have lF : F.length ≤ 1000000000 := by omega
        have lT : T.length ≤ 1000000000 := by omega
        have lF2 : F2.length ≤ 1000000000 := by rw [← hF2, List.length_take]; omega
        have lT2 : T2.length ≤ 1000000000 := by rw [← hT2]; unfold trD; rw [List.length_take]; omega
        have LE := Lib.hid (show E.length ≤ 1000000000 by omega)
        have LD := Lib.hid (show D.length ≤ 1000000000 by omega)
        have kt := fun (w1 : World) (hb : Below W.heap.size W w1) => trunc_ok pl p E D F T _ mo w1 (HCV.out.call hb) LE.out ht hF hT
        have ku := fun (w1 : World) (v1 : Value) (hv : CvAt w1 v1 pl F T) => trunc_ok pl q F T F2 T2 v1 mo w1 hv lF g9 g2 g3
        have kw := fun (w1 : World) (hb : Below W.heap.size W w1) => trunc_ok pl q E D F2 T2 _ mo w1 (HCV.out.call hb) LE.out g8 hF2 hT2
        have ks := fun (w1 : World) (v1 v2 : Value) (hv : CvAt w1 v1 pl F2 T2) (hv2 : CvAt w1 v2 pl F2 T2) => samec_t w1 v1 v2 pl F2 T2 hv hv2 lF2 lT2
        have kv := fun (w1 : World) (s2 d2 : Option Addr) (m2 k2 : Nat) (h : CvAt w1 (.agg #[.int .i64 pl, .slice s2 F.length m2, .slice d2 T.length k2]) pl F T) => bvalid_c pl F s2 m2 d2 T.length k2 mo w1 (cvB h).1 lF
        unfold VaG at kv
        rw [g1] at kv
        rw [HMV.out] at kt ku kw kv
        have KT := Lib.hid kt
        have KU := Lib.hid ku
        have KW := Lib.hid kw
        have KS := Lib.hid ks
        have KV := Lib.hid kv
        have G6 := Lib.hid g6
        have G7 := Lib.hid g7
        have G4 := Lib.hid g4
        have LF := Lib.hid lF
        have LT := Lib.hid lT
        have g4i : ¬ (D.length : Int) < (T.length : Int) := by omega
        clear kt ku kw ks kv g1 g2 g3 g4 g6 g7 g8 g9 hF hT hF2 hT2 lF lT lF2 lT2 hf ht hva hq hp0 hpe
        go_enter Tryd.func6, Tryd.ntmps6
        go_wp2_with fail
        go_region
        go_wp2_with (first
          | (go_at_call 8; (with_reducible refine kf.mono ?_); rintro e w1 ⟨rfl, hb⟩; have P1 := Lib.hid (PF.out _ hb); have X1 := Lib.hid ((XD.out).below hb); have Y1 := Lib.hid ((YD.out).below hb); obtain ⟨x0, x1, x2⟩ := cells3 X1.out; obtain ⟨z0, z1, z2, z3, z4⟩ := cells5 Y1.out; clear hb; have kt := KT.out _ P1.out)
          | (go_at_call 12; (with_reducible refine kt.mono ?_); rintro e w2 ⟨s2, m2, d2, k2, rfl, hb2, hc2⟩; have P2 := Lib.hid (below_alloc (below_call P1.out hb2) (.cells #[.int .i64 pl, .slice s2 F.length m2, .slice d2 T.length k2] 25)); have X2 := Lib.hid ((X1.out.below hb2).alloc (.cells #[.int .i64 pl, .slice s2 F.length m2, .slice d2 T.length k2] 25)); have Y2 := Lib.hid ((Y1.out.below hb2).alloc (.cells #[.int .i64 pl, .slice s2 F.length m2, .slice d2 T.length k2] 25)); have TB2 := Lib.hid (Blk.new w2 25 #[.int .i64 pl, .slice s2 F.length m2, .slice d2 T.length k2]); have H2 := Lib.hid (hc2.call (below_alloc (Below.refl _ w2) (.cells #[.int .i64 pl, .slice s2 F.length m2, .slice d2 T.length k2] 25))); obtain ⟨z0, z1, z2, z3, z4⟩ := cells5 Y2.out; obtain ⟨t0, t1, t2⟩ := cells3 TB2.out; have ku := KU.out _ _ H2.out; clear hb2 hc2)
          | (go_at_call 12; (with_reducible refine ku.mono ?_); rintro e w3 ⟨s3, m3, d3, k3, rfl, hb3, hc3⟩; have P3 := Lib.hid (below_alloc (below_call P2.out hb3) (.cells #[.int .i64 pl, .slice s3 F2.length m3, .slice d3 T2.length k3] 25)); have X3 := Lib.hid ((X2.out.below hb3).alloc (.cells #[.int .i64 pl, .slice s3 F2.length m3, .slice d3 T2.length k3] 25)); have Y3 := Lib.hid ((Y2.out.below hb3).alloc (.cells #[.int .i64 pl, .slice s3 F2.length m3, .slice d3 T2.length k3] 25)); have TB3 := Lib.hid ((TB2.out.below hb3).alloc (.cells #[.int .i64 pl, .slice s3 F2.length m3, .slice d3 T2.length k3] 25)); have UB3 := Lib.hid (Blk.new w3 25 #[.int .i64 pl, .slice s3 F2.length m3, .slice d3 T2.length k3]); have H23 := Lib.hid (H2.out.call (below_alloc hb3 (.cells #[.int .i64 pl, .slice s3 F2.length m3, .slice d3 T2.length k3] 25))); have H3 := Lib.hid (hc3.call (below_alloc (Below.refl _ w3) (.cells #[.int .i64 pl, .slice s3 F2.length m3, .slice d3 T2.length k3] 25))); obtain ⟨x0, x1, x2⟩ := cells3 X3.out; obtain ⟨z0, z1, z2, z3, z4⟩ := cells5 Y3.out; have kw := KW.out _ P3.out; clear hb3 hc3)
          | (go_at_call 12; (with_reducible refine kw.mono ?_); rintro e w4 ⟨s4, m4, d4, k4, rfl, hb4, hc4⟩; have P4 := Lib.hid (below_alloc (below_call P3.out hb4) (.cells #[.int .i64 pl, .slice s4 F2.length m4, .slice d4 T2.length k4] 25)); have X4 := Lib.hid ((X3.out.below hb4).alloc (.cells #[.int .i64 pl, .slice s4 F2.length m4, .slice d4 T2.length k4] 25)); have Y4 := Lib.hid ((Y3.out.below hb4).alloc (.cells #[.int .i64 pl, .slice s4 F2.length m4, .slice d4 T2.length k4] 25)); have TB4 := Lib.hid ((TB3.out.below hb4).alloc (.cells #[.int .i64 pl, .slice s4 F2.length m4, .slice d4 T2.length k4] 25)); have UB4 := Lib.hid ((UB3.out.below hb4).alloc (.cells #[.int .i64 pl, .slice s4 F2.length m4, .slice d4 T2.length k4] 25)); have VB4 := Lib.hid (Blk.new w4 25 #[.int .i64 pl, .slice s4 F2.length m4, .slice d4 T2.length k4]); have H24 := Lib.hid (H23.out.call (below_alloc hb4 (.cells #[.int .i64 pl, .slice s4 F2.length m4, .slice d4 T2.length k4] 25))); have H34 := Lib.hid (H3.out.call (below_alloc hb4 (.cells #[.int .i64 pl, .slice s4 F2.length m4, .slice d4 T2.length k4] 25))); have H4 := Lib.hid (hc4.call (below_alloc (Below.refl _ w4) (.cells #[.int .i64 pl, .slice s4 F2.length m4, .slice d4 T2.length k4] 25))); obtain ⟨u0, u1, u2⟩ := cells3 UB4.out; obtain ⟨v0, v1, v2⟩ := cells3 VB4.out; have ks := KS.out _ _ _ H34.out H4.out; clear hb4 hc4)
          | (go_at_call 14; (with_reducible refine ks.mono ?_); rintro e w5 ⟨rfl, hb5⟩; have P5 := Lib.hid (below_call P4.out hb5); have X5 := Lib.hid (X4.out.below hb5); have TB5 := Lib.hid (TB4.out.below hb5); have H25 := Lib.hid (H24.out.call hb5); obtain ⟨t0, t1, t2⟩ := cells3 TB5.out; obtain ⟨z0, z1, z2, z3, z4⟩ := cells5 (Y4.out.below hb5); have kv := KV.out _ _ _ _ _ H25.out; clear hb5)
          | (go_at_call 10; (with_reducible refine kv.mono ?_); rintro e w6 ⟨rfl, hb6⟩; have P6 := Lib.hid (below_call P5.out hb6); have X6 := Lib.hid (X5.out.below hb6); have TB6 := Lib.hid (TB5.out.below hb6); have H26 := Lib.hid (H25.out.call hb6); obtain ⟨t0, t1, t2⟩ := cells3 TB6.out; obtain ⟨x0, x1, x2⟩ := cells3 X6.out; clear hb6)
          | fail)
        clear x0 x1 x2 t0 t1 t2
        go_loopw [94] (fun i wr => ∃ k : Nat, k ≤ T.length ∧ i = .int .i64 (k : Int) ∧ Hid (Below w6.heap.size w6 wr)) (fun i _ => T.length - (intOf i).toNat)
        case atStart => exact ⟨0, Nat.zero_le _, rfl, Below.refl _ _⟩
        case round =>
          obtain ⟨k, hk, rfl, hw⟩ := hrel
          obtain ⟨x0, x1, x2⟩ := cells3 (X6.out.below hw.out)
          obtain ⟨t0, t1, t2⟩ := cells3 (TB6.out.below hw.out)
          by_cases hlt : k < T.length
          · have h6 := G6.out k hlt
            have g4 := G4.out
            have lt := LT.out
            obtain ⟨_, hB2, _⟩ := cvB (H26.out.call hw.out)
            obtain ⟨_, hB1, _⟩ := cvB (HCV.out.call (below_call P6.out hw.out))
            obtain ⟨b1, o1, rfl, c1⟩ := hB2.at hlt
            obtain ⟨b2, o2, rfl, c2⟩ := hB1.at (show k < D.length by omega)
            rw [h6] at c1
            clear h6 hB1 hB2
            generalize D.getD k 0 = x at *
            have wk : IntKind.i64.wrap ((k : Int) + 1) = ((k + 1 : Nat) : Int) := by rw [IntWalk.i64_left]; unfold wrap64; omega
            have hi : (0 : Int) ≤ (k : Int) := by omega
            have hi2 : (k : Int) < (T.length : Int) := by omega
            have hi3 : (k : Int) < (D.length : Int) := by omega
            have HLT := Lib.hid hlt
            have HW2 := Lib.hid (hw.out.drew)
            clear g4 lt
            go_wp2_with fail
            go_region
            go_wp2_with fail
            go_roundw
            case rel => exact ⟨k + 1, HLT.out, by go_num, HW2⟩
            case measure => have := HLT.out; simp [intOf]; omega
          · obtain rfl : k = T.length := by omega
            have P7 := Lib.hid (below_call P6.out hw.out)
            have ka := HAW.out _ P7.out
            by_cases hpe : p < (E.length : Int)
            · go_wp2_with (first | (go_at_call 9; (with_reducible refine ka.mono ?_); rintro e w9 ⟨rfl, hb9⟩; have W9 := Lib.hid (below_call P7.out hb9); clear hb9) | fail)
              go_ret
              exact ⟨rfl, W9.out⟩
            · obtain ⟨e1, e2⟩ := G7.out (by omega)
              have hc := HCV.out.call P7.out
              have hc2 := H26.out.call hw.out
              have ks2 := samec_t _ _ _ pl F T hc2 (by rw [e1, e2]; exact hc) LF.out LT.out
              clear ka hc hc2 e1 e2
              go_wp2_with (first | (go_at_call 14; (with_reducible refine ks2.mono ?_); rintro e w8 ⟨rfl, hb8⟩; have P8 := Lib.hid (below_call P7.out hb8); have ka := HAW.out _ P8.out; clear hb8) | (go_at_call 9; (with_reducible refine ka.mono ?_); rintro e w9 ⟨rfl, hb9⟩; have W9 := Lib.hid (below_call P8.out hb9); clear hb9) | fail)
              go_ret
              exact ⟨rfl, W9.out⟩
      · have kt := fun (w1 : World) (hb : Below W.heap.size W w1) => trunc_ok pl p E D _ _ _ mo w1 (HCV.out.call hb) (by omega) ht rfl rfl
        rw [HMV.out] at kt
        generalize E.take p.toNat = F at *
        generalize trD E D p.toNat = T at *
        have KT := Lib.hid kt
        clear kt ht hva hf hp0 hpe
        by_cases hq0 : q < 0
        · clear hq
          go_enter Tryd.func6, Tryd.ntmps6
          go_wp2_with fail
          go_region
          go_wp2_with (first | (go_at_call 8; (with_reducible refine kf.mono ?_); rintro e w1 ⟨rfl, hb⟩; have P1 := Lib.hid (PF.out _ hb); have X1 := Lib.hid ((XD.out).below hb); have Y1 := Lib.hid ((YD.out).below hb); obtain ⟨x0, x1, x2⟩ := cells3 X1.out; obtain ⟨z0, z1, z2, z3, z4⟩ := cells5 Y1.out; clear hb; have kt := KT.out _ P1.out) | (go_at_call 12; (with_reducible refine kt.mono ?_); rintro e w2 ⟨s2, m2, d2, k2, rfl, hb2, hc2⟩; have P2 := Lib.hid (below_alloc (below_call P1.out hb2) (.cells #[.int .i64 pl, .slice s2 F.length m2, .slice d2 T.length k2] 25)); have ka := HAW.out _ P2.out; clear hb2 hc2) | (go_at_call 9; (with_reducible refine ka.mono ?_); rintro e w9 ⟨rfl, hb9⟩; have W9 := Lib.hid (below_call P2.out hb9); clear hb9) | fail)
          go_ret
          exact ⟨rfl, W9.out⟩
        · have hq1 : p < q := by omega
          clear hq
          go_enter Tryd.func6, Tryd.ntmps6
          go_wp2_with fail
          go_region
          go_wp2_with (first | (go_at_call 8; (with_reducible refine kf.mono ?_); rintro e w1 ⟨rfl, hb⟩; have P1 := Lib.hid (PF.out _ hb); have X1 := Lib.hid ((XD.out).below hb); have Y1 := Lib.hid ((YD.out).below hb); obtain ⟨x0, x1, x2⟩ := cells3 X1.out; obtain ⟨z0, z1, z2, z3, z4⟩ := cells5 Y1.out; clear hb; have kt := KT.out _ P1.out) | (go_at_call 12; (with_reducible refine kt.mono ?_); rintro e w2 ⟨s2, m2, d2, k2, rfl, hb2, hc2⟩; have P2 := Lib.hid (below_alloc (below_call P1.out hb2) (.cells #[.int .i64 pl, .slice s2 F.length m2, .slice d2 T.length k2] 25)); have ka := HAW.out _ P2.out; clear hb2 hc2) | (go_at_call 9; (with_reducible refine ka.mono ?_); rintro e w9 ⟨rfl, hb9⟩; have W9 := Lib.hid (below_call P2.out hb9); clear hb9) | fail)
          go_ret
          exact ⟨rfl, W9.out⟩
    · have kt := fun (w1 : World) (hb : Below W.heap.size W w1) => trunc_no pl p E D _ mo w1 (HCV.out.call hb) (by omega) ht
      rw [HMV.out] at kt
      have ht2 := ht
      generalize trE pl E D.length p = er at *
      have KT := Lib.hid kt
      clear kt hf ht
      go_enter Tryd.func6, Tryd.ntmps6
      go_wp2_with fail
      go_region
      go_wp2_with (first | (go_at_call 8; (with_reducible refine kf.mono ?_); rintro e w1 ⟨rfl, hb⟩; have P1 := Lib.hid (PF.out _ hb); have X1 := Lib.hid ((XD.out).below hb); have Y1 := Lib.hid ((YD.out).below hb); obtain ⟨x0, x1, x2⟩ := cells3 X1.out; obtain ⟨z0, z1, z2, z3, z4⟩ := cells5 Y1.out; clear hb; have kt := KT.out _ P1.out) | (go_at_call 12; (with_reducible refine kt.mono ?_); rintro e w2 ⟨rfl, hb2⟩; have P2 := Lib.hid (below_alloc (below_call P1.out hb2) (.cells #[.int .i64 0, .slice none 0 0, .slice none 0 0] 25)); have ka := HAW.out _ P2.out; clear hb2) | (go_at_call 9; (with_reducible refine ka.mono ?_); rintro e w9 ⟨rfl, hb9⟩; have W9 := Lib.hid (below_call P2.out hb9); clear hb9) | fail)
      go_ret
      exact ⟨rfl, W9.out⟩
  · have e : (decide (E.length ≤ 300) && decide (D.length ≤ 20000)) = false := by
      rcases Classical.not_and_iff_not_or_not.1 hf with h | h
      · rw [decide_eq_false h]; rfl
      · rw [decide_eq_false h]; simp
    rw [e] at kf
    clear hf e
    go_enter Tryd.func6, Tryd.ntmps6
    go_wp2_with fail
    go_region
    go_wp2_with (first | (go_at_call 8; (with_reducible refine kf.mono ?_); rintro e w1 ⟨rfl, hb⟩; have P1 := Lib.hid (PF.out _ hb); have X1 := Lib.hid ((XD.out).below hb); have Y1 := Lib.hid ((YD.out).below hb); obtain ⟨x0, x1, x2⟩ := cells3 X1.out; obtain ⟨z0, z1, z2, z3, z4⟩ := cells5 Y1.out; clear hb; have ka := HAW.out _ P1.out) | (go_at_call 9; (with_reducible refine ka.mono ?_); rintro e w9 ⟨rfl, hb9⟩; have W9 := Lib.hid (below_call P1.out hb9); clear hb9) | fail)
    go_ret
    exact ⟨rfl, W9.out⟩

set_option maxRecDepth 100000 in
theorem lifted (os : Os) (started : os.Started) (H : Type) (enc : TypeId × Value → H) :
    ReturnsInHanded {} Tryd.checked os 6 .any (fun w args => (Rows.blockencCutsSpec.pre enc Tryd.prog Tryd.f6 Rows.blockencCutsRow.domain false w args ∧ laidMetH Tryd.prog Rows.blockencCutsRow.laid w) ∧ sizedMet enc Tryd.prog Tryd.f6 (OpenSpec.ofChange Rows.blockencCutsSpec) false w args)
      (Rows.blockencCutsSpec.post enc Tryd.prog Tryd.f6 false true false false) := by
  refine returnsInHanded_of_change_and (C := Tryd.checked) (X := fun w _ => laidMetH Tryd.prog Rows.blockencCutsRow.laid w) (fun _ _ _ hh h => h.of_heap hh) own started (by kernel_rfl) Tryd.func6
    (ChangeSpec.witness_shaped (enc := enc) (C := Tryd.checked) (os := os) (X := fun w _ => laidMetH Tryd.prog Rows.blockencCutsRow.laid w) false (World.laidAll Tryd.prog os Rows.blockencCutsRow.laid) #[.agg #[.int .i64 0, .slice none 0 0, .slice none 0 0], .agg #[.int .i64 0, .int .i64 0], .agg #[.bool false, .bool false, .bool false, .bool false, .bool false]] 8 (World.laidAll_os _ _ _)
      (World.shaped_of_ZipB (by kernel_rfl) (by kernel_rfl)) (by kernel_rfl) (by kernel_rfl) (by kernel_rfl)
      (by rw [MakeChecks.laidMetH_plain _ _ _ (by kernel_rfl)]; exact laidMet_laidAll _ (by kernel_rfl) (by kernel_rfl))) ?_
  intro W base args ds gs before hval0 hW _ _ hL _
  have hval : ∀ (j : Nat) t v, Tryd.f6.params[j]? = some t → args[j]? = some v → Value.okWide Tryd.prog W .any base t v := hval0
  have hT : Cx.Tabs W := Cx.tabs_of_laid hL
  have hW' := hW
  obtain ⟨p, q, hA0, hV, rfl, _, _⟩ := hW
  have hA : DataW.TrodAll enc Tryd.prog W 0 (fun _ => true) true Tryd.f6.params.toList args.toList ds p := hA0
  rw [Tryd.params6] at hA hval
  obtain ⟨v0, vs0, d0, ds0, p0, q0, hargs, rfl, rfl, h0, r0⟩ := trodAll_cons hA
  obtain ⟨v1, vs1, d1, ds1, p1, q1, rfl, rfl, rfl, h1, r1⟩ := trodAll_cons r0
  obtain ⟨v2, vs2, d2, ds2, p2, q2, rfl, rfl, rfl, h2, r2⟩ := trodAll_cons r1
  obtain ⟨rfl, rfl, rfl⟩ := trodAll_nil r2
  obtain rfl : args = #[v0, v1, v2] := by cases args; simp_all
  obtain ⟨rfl, rfl⟩ := trodVars_none hV
  clear hA0 hval0
  simp only [List.append_nil] at hW'
  have l0 : ∀ x ∈ p0, x.block < W.heap.size := fun x hx => hW'.lt x (by simp [hx])
  have l1 : ∀ x ∈ p1, x.block < W.heap.size := fun x hx => hW'.lt x (by simp [hx])
  have l2 : ∀ x ∈ p2, x.block < W.heap.size := fun x hx => hW'.lt x (by simp [hx])
  obtain ⟨c0, hC0⟩ := open_coded (hval 0 25 v0 rfl rfl) h0
  obtain ⟨a1, b1, rfl, ra1, rb1⟩ := open_N2 (hval 1 42 v1 rfl rfl) h1
  obtain ⟨m2, rfl⟩ := open_mode9 (hval 2 27 v2 rfl rfl) h2
  refine (walk v0 c0 a1 b1 m2 W hT hC0).mono fun e W' ⟨he, hb⟩ => ?_
  subst he
  exact ⟨_, rfl, post_low (pa := p0 ++ (p1 ++ (p2 ++ ([])))) (pv := []) hW' (fun _ _ _ => (trodAll_cons_mk (shut_bool Tryd.underlying4 _) trodAll_mk0)) (fun sp hsp => (trodAll_cons_mk (trod_low laidOut (by kernel_rfl) (of_decide_eq_true (by kernel_rfl)) h0 hb l0 (fun x hx => hsp x (by simp [hx]))) (trodAll_cons_mk (trod_low laidOut (by kernel_rfl) (of_decide_eq_true (by kernel_rfl)) h1 hb l1 (fun x hx => hsp x (by simp [hx]))) (trodAll_cons_mk (trod_low laidOut (by kernel_rfl) (of_decide_eq_true (by kernel_rfl)) h2 hb l2 (fun x hx => hsp x (by simp [hx]))) trodAll_mk0)))) (fun _ _ => rfl) (by simp) hb (ok_one (by kernel_rfl) rfl (okWide_bool_mk Tryd.underlying4 _))⟩

theorem over : Rows.blockencCutsRow.holds Tryd.pinned (OpenSpec.ofChange Rows.blockencCutsSpec) :=
  OpenClaim.holds_of_wide 6 Tryd.f6 rfl rfl rfl rfl rfl rfl rfl ⟨rfl, rfl, rfl, rfl, rfl⟩ rfl rfl rfl rfl rfl (by kernel_rfl) Tryd.func6 (by kernel_rfl)
    (of_decide_eq_true (by kernel_rfl)) (by unfold Func.isWrapper; first | (rw [if_pos (by decide +kernel)]; kernel_rfl) | (rw [if_neg (by decide +kernel)]; exact ⟨rfl, rfl⟩))
    (fun os started H enc _ => lifted os started H enc)
theorem proved : Rows.BlockencCutsCardSaid :=
  Claim7.holds_tied_plain_at .later [] [.data, .data, .data] true Rows.blockencCutsCard.stood.harness false over (fun _ h => by cases h) (by kernel_rfl) (fun _ h => by cases h) blockencCuts_row_tie rfl ⟨rfl, rfl⟩ (by kernel_rfl) rfl
    (fun f fn hf hfn => by
      obtain rfl : f = 6 := Option.some.inj ((show Tryd.prog.funcNamed Rows.blockencCutsRow.func = some 6 by kernel_rfl).symm.trans hf) |>.symm
      obtain rfl : fn = Tryd.f6 := (Option.some.inj (Tryd.func6.symm.trans hfn)).symm
      exact ⟨by kernel_rfl, fun j t ht => by
        rw [Tryd.params6] at ht
        have hm : t ∈ [25, 42, 27] := by simpa using Array.mem_of_getElem? ht
        have hall : ([25, 42, 27].all fun u => !Tryd.prog.wantsStandIn u) = true := by kernel_rfl
        exact (show Tryd.prog.wantsStandIn t = false by simpa using List.all_eq_true.1 hall t hm)⟩)
    (by kernel_rfl)
#print axioms proved
end Go.Proofs.YtklchodbnjebnaaDoor.blockencCuts
