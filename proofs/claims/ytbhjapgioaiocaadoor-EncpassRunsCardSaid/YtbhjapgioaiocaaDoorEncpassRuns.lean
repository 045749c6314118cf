/-
  For all blocks, passes and planes the statement EncpassRuns returns true; they read afterwards as before.
  Conditions: none beyond those of the given statement (the listed variables are tied by the card).
-/
import Derived.Test.YtbhjapgioaiocaaDoorXl
import Derived.Test.YtbhjapgioaiocaaDoorTie
import Derived.Test.YtbhjapgioaiocaaDoorCards
import Derived.LaidMore
import Derived.Lay
import Derived.SevenTiedAt
import Derived.Stop.Joined
set_option maxRecDepth 100000
namespace Go.Proofs.YtbhjapgioaiocaaDoor.encpassRuns
open Go.ChangeShapes Go.WideShapes Go.ChangeAt Go.RowKit Go.Joins Go.Deep

theorem own_tcell {W0 W : World} {B A V S T R A2 C w h : Nat} {q q2 : St} {base n : Nat} {v : Value} {xs : List Value} (H : Two W0 W B A V S T R A2 C w h q q2) (ho : W.ownsRow base 52 2 v n xs) : ∀ k ∈ [C], v.ownBlock ≠ some k := by
  intro k hk
  simp at hk
  subst hk
  obtain ⟨c5, h5, _⟩ := H.r.grid
  exact own_blk_ne ho h5 (by decide)
theorem small_ok {b : BV} (hs : b.small) : ∃ w0 h0 : Nat, b.W = w0 ∧ b.H = h0 ∧ w0 ≤ 12 ∧ h0 ≤ 12 ∧ fits (w0 : Int) (h0 : Int) ∧ b.l.length = w0 * h0 ∧ b.l.length ≤ 144 ∧ plnN b.l ≤ 60 := by
  obtain ⟨h1, h2, h3, h4, h5, h6⟩ := hs
  obtain ⟨w0, hw⟩ : ∃ n : Nat, b.W = n := ⟨b.W.toNat, by omega⟩
  obtain ⟨h0, hh⟩ : ∃ n : Nat, b.H = n := ⟨b.H.toNat, by omega⟩
  rw [hw, hh, ← Int.natCast_mul] at h5
  have h7 : w0 * h0 ≤ 12 * 12 := Nat.mul_le_mul (by omega) (by omega)
  exact ⟨w0, h0, hw, hh, by omega, by omega, by unfold fits; omega, by omega, by omega, h6⟩
theorem okV_all {l : List Int} (hr : ∀ v ∈ l, i64R v) (hp : plnN l ≤ 60) : ∀ v ∈ l, okV v := fun v hv => by
  have h1 := mxN_le l v hv
  have h3 := mxN_64 l hr
  have h2 := (bit_iff (mxN l) 60 (by omega)).1 hp
  unfold okV
  omega
theorem two_from {W0 W1 W : World} {B A V S T R A2 C w h : Nat} {q q2 : St} (H : Two W1 W B A V S T R A2 C w h q q2) (hb : Below W0.heap.size W0 W1) : Two W0 W B A V S T R A2 C w h q q2 := ⟨H.b, H.r, by have := H.hB; have := hb.size; omega, below_call hb H.below⟩
set_option maxHeartbeats 16000000 in
theorem walk (b : BV) (ps : Option Addr) (pl : List Int) (pm : Nat) (ls : Option Addr) (ll : List Int) (lm : Nat) (W : World) (hT : Cx.Tabs W) (K : BVk W b) (hP : HoldsI W ps pl) (hL : HoldsI W ls ll) : Calls Tryd.prog 3 #[b.val, .slice ps pl.length pm, .slice ls ll.length lm] W fun e w' => e = .returned (.bool true) ∧ Below W.heap.size W w' := by
  have hE := fun {w1 : World} (hb : Below W.heap.size W w1) => ex15_c w1 (hT.below hb)
  have hal := below_alloc (Below.refl _ W) (.cells b.cs 28)
  have HA := Lib.hid hal
  have K1 := K.call hal
  have kS := small_c b _ K1
  have HMB := Lib.hid (Blk.new W 28 b.cs)
  have HSM := Lib.hid (fun h : b.small => small_ok h)
  have HOKV := Lib.hid (fun h : plnN b.l ≤ 60 => okV_all K.r h)
  by_cases hs : b.small
  · by_cases hp : pl.length ≤ 12 ∧ ll.length = pl.length
    · obtain ⟨hp1, hp2⟩ := hp
      obtain ⟨w, h, s, l, cp, sf, fl, cf, o, ⟨mb, mr, ms, mc, my⟩⟩ := b
      obtain ⟨w0, h0, hw, hh, w12, h12, hfit, hlen, hl144, hp60⟩ := HSM.out hs
      dsimp only at hw hh hlen hl144 hp60
      subst hw hh
      have hok := HOKV.out hp60
      rw [decide_eq_true hs] at kS
      unfold BV.val BV.cs at *
      dsimp only at *
      have kB := fun w1 (hb : Below W.heap.size W w1) => build_c w0 h0 s l cp sf fl cf o mb mr ms mc my w1 hfit hlen (K.call hb).h (K.call hb).f hok
      obtain ⟨n, hn⟩ : ∃ n, n = pl.length := ⟨_, rfl⟩
      rw [hp2, ← hn]
      have HN := Lib.hid hn
      have HN2 := Lib.hid (show ll.length = n by omega)
      have hn12 : ¬ (12 : Int) < (n : Int) := by omega
      have HN12 := Lib.hid (show n ≤ 12 by omega)
      have HPL := Lib.hid hP
      have HLL := Lib.hid hL
      have HT := Lib.hid hT
      have H3 := Lib.hid (tabs_lt hT)
      have HF := Lib.hid hfit
      clear hs hp1 hp2 hn hP hL hT K K1 hal HSM HOKV hok hfit hlen hl144 hp60
      go_enter Tryd.func3, Tryd.ntmps3
      go_wp2_with (first | (go_at_call 15; (with_reducible refine kS.mono ?_); rintro e w1 ⟨rfl, hb⟩; have H1 := Lib.hid (below_call HA.out hb); have B1 := Lib.hid (HMB.out.below hb); have kB1 := kB _ H1.out; obtain ⟨c0, c1, c2, c3, c4, c5, c6, c7, c8, c9⟩ := l5c B1.out; clear hb) | (go_at_call 17; (with_reducible refine kB1.mono ?_); rintro e w2 ⟨B, A, V, S, T, R, A2, C, q0, rfl, hq, hBB, hTw⟩; have HQ := Lib.hid hq; have HBB := Lib.hid hBB; have HTw := Lib.hid hTw; clear hq hBB hTw))
      clear kB kB1 kS c0 c1 c2 c3 c4 c5 c6 c7 c8 c9
      go_loopw [37] (fun i wr => ∃ (k : Nat) (q : St), k ≤ n ∧ i = .int .i64 (k : Int) ∧ Hid (∀ x y, okV (q.v x y)) ∧ Hid (Two w1 wr B A V S T R A2 C w0 h0 q q)) (fun i _ => (n - (intOf i).toNat))
      case atStart => exact ⟨0, q0, by omega, rfl, HQ, HTw⟩
      case round =>
        obtain ⟨k, q, hk, rfl, hq, hTw⟩ := hrel
        by_cases hlt : k < n
        · have HLT := Lib.hid hlt
          obtain ⟨pb, poff, rfl, hpA⟩ : ∃ b off, ps = some ⟨b, off, none⟩ ∧ ∀ W', Below W.heap.size W W' → ∀ k (hk : k < pl.length), W'.cell? ⟨b, off + k, none⟩ = some (.int .i64 pl[k]) := by
            rcases HPL.out with h | ⟨b, off, e, hr⟩
            · have := HN.out; rw [h] at this; simp at this; omega
            · exact ⟨b, off, e, fun W' hb k hk => (hb.cell (p := ⟨b, _, none⟩) (cell_lt (hr k hk))).trans (hr k hk)⟩
          obtain ⟨lb, loff, rfl, hlA⟩ : ∃ b off, ls = some ⟨b, off, none⟩ ∧ ∀ W', Below W.heap.size W W' → ∀ k (hk : k < ll.length), W'.cell? ⟨b, off + k, none⟩ = some (.int .i64 ll[k]) := by
            rcases HLL.out with h | ⟨b, off, e, hr⟩
            · have := HN2.out; rw [h] at this; simp at this; omega
            · exact ⟨b, off, e, fun W' hb k hk => (hb.cell (p := ⟨b, _, none⟩) (cell_lt (hr k hk))).trans (hr k hk)⟩
          have hk1 : k < pl.length := by have := HN.out; omega
          have hk2 : k < ll.length := by have := HN2.out; omega
          obtain ⟨pv, hpv⟩ : ∃ x, x = pl[k] := ⟨_, rfl⟩
          obtain ⟨lv, hlv⟩ : ∃ x, x = ll[k] := ⟨_, rfl⟩
          have rd : ∀ {W' : World} {q q2 : St}, Two w1 W' B A V S T R A2 C w0 h0 q q2 → W'.cell? ⟨pb, poff + k, none⟩ = some (.int .i64 pv) ∧ W'.cell? ⟨lb, loff + k, none⟩ = some (.int .i64 lv) ∧ W'.cell? ⟨W.heap.size, 4, none⟩ = some (.int .i64 o) ∧ W'.cell? ⟨W.heap.size, 5, none⟩ = some (.bool mb) ∧ W'.cell? ⟨W.heap.size, 6, none⟩ = some (.bool mr) ∧ W'.cell? ⟨W.heap.size, 7, none⟩ = some (.bool ms) ∧ W'.cell? ⟨W.heap.size, 8, none⟩ = some (.bool mc) ∧ W'.cell? ⟨W.heap.size, 9, none⟩ = some (.bool my) := fun H => by
            have hb := below_call H1.out H.below
            have bx := B1.out.below H.below
            rw [hpv, hlv]
            exact ⟨hpA _ hb k hk1, hlA _ hb k hk2, bx.cell 4, bx.cell 5, bx.cell 6, bx.cell 7, bx.cell 8, bx.cell 9⟩
          have rd2 : ∀ {W' : World} {q q2 : St}, Two w1 W' B A V S T R A2 C w0 h0 q q2 → W'.cell? ⟨W.heap.size, 0, none⟩ = some (.int .i64 (w0 : Int)) ∧ W'.cell? ⟨W.heap.size, 1, none⟩ = some (.int .i64 (h0 : Int)) := fun H => by
            have bx := B1.out.below H.below
            exact ⟨bx.cell 0, bx.cell 1⟩
          have wk : IntKind.i64.wrap ((k : Int) + 1) = ((k + 1 : Nat) : Int) := by have := HN12.out; rw [IntWalk.i64_left]; unfold wrap64; omega
          have kE := fun W' (H : Two w1 W' B A V S T R A2 C w0 h0 q q) => erun_c H.b (HT.out.below (below_call H1.out H.below)) hq.out (by have := HBB.out; have := H3.out; have := H1.out.size; omega) pv lv o ⟨mb, mr, ms, mc, my⟩
          have kX := fun W' q1 (H : Two w1 W' B A V S T R A2 C w0 h0 q1 q) => xrun2_c H.r hq.out pv lv o ⟨mb, mr, ms, mc, my⟩
          have hln := rnE_len w0 h0 pv lv o ⟨mb, mr, ms, mc, my⟩ q (by omega) (by omega)
          have HV := Lib.hid (show ∀ x y, okV ((rnE w0 h0 pv lv o ⟨mb, mr, ms, mc, my⟩ q).1.v x y) by rw [rnE_v]; exact hq.out)
          unfold Mo.val at kE kX
          dsimp only at kE kX
          generalize runE pv lv o = ec at *
          generalize rnE w0 h0 pv lv o ⟨mb, mr, ms, mc, my⟩ q = E1 at *
          obtain ⟨q1, L1⟩ := E1
          dsimp only at kE kX hln HV
          have eec : (ec == ec) = true := by simp
          have R1 := Lib.hid (hTw.out.call (Below.refl _ _).drew)
          have kE1 := kE _ R1.out
          have HLN := Lib.hid hln
          clear hpA hlA hpv hlv hk1 hk2 hln hk hlt kE
          obtain ⟨d0, d1, d2, d3, d4, d5, d6, d7⟩ := rd R1.out
          go_wp2_with fail
          go_region_held3 (fun w' => w'.cell? ⟨pb, poff + k, none⟩ = some (.int .i64 pv) ∧ w'.cell? ⟨lb, loff + k, none⟩ = some (.int .i64 lv) ∧ w'.cell? ⟨W.heap.size, 4, none⟩ = some (.int .i64 o) ∧ w'.cell? ⟨W.heap.size, 5, none⟩ = some (.bool mb) ∧ w'.cell? ⟨W.heap.size, 6, none⟩ = some (.bool mr) ∧ w'.cell? ⟨W.heap.size, 7, none⟩ = some (.bool ms) ∧ w'.cell? ⟨W.heap.size, 8, none⟩ = some (.bool mc) ∧ w'.cell? ⟨W.heap.size, 9, none⟩ = some (.bool my))
            (first | (with_reducible exact ⟨d0, d1, d2, d3, d4, d5, d6, d7⟩) | (with_reducible exact ⟨f0, f1, f2, f3, f4, f5, f6, f7⟩) | fail)
            (first | (go_simp; go_at_call 18; (with_reducible refine kE1.mono ?_); rintro e w3 ⟨v, rfl, hC3, hK3, hO3⟩; obtain ⟨s3, c3, rfl⟩ := own2_slice hO3; have R2 := Lib.hid (R1.out.cb hC3 hK3); have O3 := Lib.hid hO3; obtain ⟨f0, f1, f2, f3, f4, f5, f6, f7⟩ := rd R2.out; clear hC3 hK3 hO3) | fail)
          all_goals
            clear d0 d1 d2 d3 d4 d5 d6 d7 f0 f1 f2 f3 f4 f5 f6 f7
            have R3 := Lib.hid (R2.out.call (Below.refl _ _).drew)
            have O4 := Lib.hid (own2_below O3.out (Below.refl _ _).drew)
            have kX1 := kX _ _ R3.out
            obtain ⟨d0, d1, d2, d3, d4, d5, d6, d7⟩ := rd R3.out
            go_wp2_with fail
            go_region_held3 (fun w' => w'.cell? ⟨pb, poff + k, none⟩ = some (.int .i64 pv) ∧ w'.cell? ⟨lb, loff + k, none⟩ = some (.int .i64 lv) ∧ w'.cell? ⟨W.heap.size, 4, none⟩ = some (.int .i64 o) ∧ w'.cell? ⟨W.heap.size, 5, none⟩ = some (.bool mb) ∧ w'.cell? ⟨W.heap.size, 6, none⟩ = some (.bool mr) ∧ w'.cell? ⟨W.heap.size, 7, none⟩ = some (.bool ms) ∧ w'.cell? ⟨W.heap.size, 8, none⟩ = some (.bool mc) ∧ w'.cell? ⟨W.heap.size, 9, none⟩ = some (.bool my))
              (first | (with_reducible exact ⟨d0, d1, d2, d3, d4, d5, d6, d7⟩) | (with_reducible exact ⟨f0, f1, f2, f3, f4, f5, f6, f7⟩) | fail)
              (first | (go_simp; go_at_call 19; (with_reducible refine kX1.mono ?_); rintro e w4 ⟨v, rfl, hC4, hK4, hO4⟩; obtain ⟨s4, c4, rfl⟩ := own2_slice hO4; have R4 := Lib.hid (R3.out.rb hC4 hK4); have Y4 := Lib.hid (own_holdsY hO4).2; have Y3 := Lib.hid (own_holdsY (own2_kb O4.out hK4 (own_tcell R3.out O4.out))).2; obtain ⟨f0, f1, f2, f3, f4, f5, f6, f7⟩ := rd R4.out; clear hC4 hK4 hO4) | fail)
          all_goals
            clear d0 d1 d2 d3 d4 d5 d6 d7 f0 f1 f2 f3 f4 f5 f6 f7
            have kSS := sameS_t w4 L1 s3 s4 c3 c4 Y3.out Y4.out (by have := HLN.out; omega)
            go_wp2_with (first | (go_at_call 20; (with_reducible refine kSS.mono ?_); rintro e w5 ⟨rfl, hd⟩; have R5 := Lib.hid (R4.out.call hd.below); have k15 := same15_c R5.out; obtain ⟨g0, g1⟩ := rd2 R5.out; clear hd) | (go_at_call 21; (with_reducible refine k15.mono ?_); rintro e w6 ⟨rfl, hb⟩; have R6 := Lib.hid (R5.out.call hb); clear hb))
            go_roundw
            case rel => exact ⟨k + 1, q1, HLT.out, by go_num, HV, R6⟩
            case measure => have := HLT.out; simp [intOf]; omega
        · have HX := Lib.hid (below_call H1.out hTw.out.below)
          go_wp2_with (first | (go_at_call 16; (with_reducible refine (hE HX.out).mono ?_); rintro e w5 ⟨rfl, hb5⟩; have H5 := Lib.hid (below_call HX.out hb5); clear hb5))
          go_ret
          exact ⟨rfl, H5.out⟩
    · obtain ⟨w, h, s, l, cp, sf, fl, cf, o, ⟨mb, mr, ms, mc, my⟩⟩ := b
      rw [decide_eq_true hs] at kS
      unfold BV.val BV.cs at *
      dsimp only at *
      have hcs : 12 < (pl.length : Int) ∨ (¬ 12 < (pl.length : Int) ∧ ((ll.length : Int) == (pl.length : Int)) = false ∧ ((ll.length : Int) != (pl.length : Int)) = true ∧ ¬ ll.length = pl.length ∧ ¬ pl.length = ll.length) := by simp; omega
      clear hs hp hP hL hT K K1 hal HSM HOKV
      generalize pl.length = np at *
      generalize ll.length = nl at *
      rcases hcs with g1 | ⟨g1, g2, g3, g4, g5⟩ <;>
       (go_enter Tryd.func3, Tryd.ntmps3
        go_wp2_with (first | (go_at_call 15; (with_reducible refine kS.mono ?_); rintro e w1 ⟨rfl, hb⟩; have H1 := Lib.hid (below_call HA.out hb); clear hb) | (go_at_call 16; (with_reducible refine (hE H1.out).mono ?_); rintro e w2 ⟨rfl, hb2⟩; have H2 := Lib.hid (below_call H1.out hb2); clear hb2))
        go_ret
        exact ⟨rfl, H2.out⟩)
  · obtain ⟨w, h, s, l, cp, sf, fl, cf, o, ⟨mb, mr, ms, mc, my⟩⟩ := b
    rw [decide_eq_false hs] at kS
    unfold BV.val BV.cs at *
    dsimp only at *
    clear hs hP hL hT K K1 hal HSM HOKV
    generalize pl.length = np at *
    generalize ll.length = nl at *
    go_enter Tryd.func3, Tryd.ntmps3
    go_wp2_with (first | (go_at_call 15; (with_reducible refine kS.mono ?_); rintro e w1 ⟨rfl, hb⟩; have H1 := Lib.hid (below_call HA.out hb); clear hb) | (go_at_call 16; (with_reducible refine (hE H1.out).mono ?_); rintro e w2 ⟨rfl, hb2⟩; have H2 := Lib.hid (below_call H1.out hb2); clear hb2))
    go_ret
    exact ⟨rfl, H2.out⟩

set_option maxRecDepth 100000 in
theorem lifted (os : Os) (started : os.Started) (H : Type) (enc : TypeId × Value → H) :
    ReturnsInHanded {} Tryd.checked os 3 .any (fun w args => (Rows.encpassRunsSpec.pre enc Tryd.prog Tryd.f3 Rows.encpassRunsRow.domain false w args ∧ laidMetH Tryd.prog Rows.encpassRunsRow.laid w) ∧ sizedMet enc Tryd.prog Tryd.f3 (OpenSpec.ofChange Rows.encpassRunsSpec) false w args)
      (Rows.encpassRunsSpec.post enc Tryd.prog Tryd.f3 false true false false) := by
  refine returnsInHanded_of_change_and (C := Tryd.checked) (X := fun w _ => laidMetH Tryd.prog Rows.encpassRunsRow.laid w) (fun _ _ _ hh h => h.of_heap hh) own started (by kernel_rfl) Tryd.func3
    (ChangeSpec.witness_shaped (enc := enc) (C := Tryd.checked) (os := os) (X := fun w _ => laidMetH Tryd.prog Rows.encpassRunsRow.laid w) false (World.laidAll Tryd.prog os Rows.encpassRunsRow.laid) #[.agg #[.int .i64 0, .int .i64 0, .slice none 0 0, .slice none 0 0, .int .i64 0, .bool false, .bool false, .bool false, .bool false, .bool false], .slice none 0 0, .slice none 0 0] 8 (World.laidAll_os _ _ _)
      (World.shaped_of_ZipB (by kernel_rfl) (by kernel_rfl)) (by kernel_rfl) (by kernel_rfl) (by kernel_rfl)
      (by rw [MakeChecks.laidMetH_plain _ _ _ (by kernel_rfl)]; exact laidMet_laidAll _ (by kernel_rfl) (by kernel_rfl))) ?_
  intro W base args ds gs before hval0 hW _ _ hL _
  have hval : ∀ (j : Nat) t v, Tryd.f3.params[j]? = some t → args[j]? = some v → Value.okWide Tryd.prog W .any base t v := hval0
  have hT : Cx.Tabs W := Cx.tabs_of_laid hL
  have hW' := hW
  obtain ⟨p, q, hA0, hV, rfl, _, _⟩ := hW
  have hA : DataW.TrodAll enc Tryd.prog W 0 (fun _ => true) true Tryd.f3.params.toList args.toList ds p := hA0
  rw [Tryd.params3] at hA hval
  obtain ⟨v0, vs0, d0, ds0, p0, q0, hargs, rfl, rfl, h0, r0⟩ := trodAll_cons hA
  obtain ⟨v1, vs1, d1, ds1, p1, q1, rfl, rfl, rfl, h1, r1⟩ := trodAll_cons r0
  obtain ⟨v2, vs2, d2, ds2, p2, q2, rfl, rfl, rfl, h2, r2⟩ := trodAll_cons r1
  obtain ⟨rfl, rfl, rfl⟩ := trodAll_nil r2
  obtain rfl : args = #[v0, v1, v2] := by cases args; simp_all
  obtain ⟨rfl, rfl⟩ := trodVars_none hV
  clear hA0 hval0
  simp only [List.append_nil] at hW'
  have l0 : ∀ x ∈ p0, x.block < W.heap.size := fun x hx => hW'.lt x (by simp [hx])
  have l1 : ∀ x ∈ p1, x.block < W.heap.size := fun x hx => hW'.lt x (by simp [hx])
  have l2 : ∀ x ∈ p2, x.block < W.heap.size := fun x hx => hW'.lt x (by simp [hx])
  obtain ⟨B0, rfl, hB0⟩ := open_L5 (hval 0 28 v0 rfl rfl) h0
  obtain ⟨s1, b1, m1, rfl, hB1, hR1⟩ := open_intsR (hval 1 22 v1 rfl rfl) h1
  obtain ⟨s2, b2, m2, rfl, hB2, hR2⟩ := open_intsR (hval 2 22 v2 rfl rfl) h2
  refine (walk B0 s1 b1 m1 s2 b2 m2 W hT hB0 hB1 hB2).mono fun e W' ⟨he, hb⟩ => ?_
  subst he
  exact ⟨_, rfl, post_low (pa := p0 ++ (p1 ++ (p2 ++ ([])))) (pv := []) hW' (fun _ _ _ => (trodAll_cons_mk (shut_bool Tryd.underlying4 _) trodAll_mk0)) (fun sp hsp => (trodAll_cons_mk (trod_low laidOut (by kernel_rfl) (of_decide_eq_true (by kernel_rfl)) h0 hb l0 (fun x hx => hsp x (by simp [hx]))) (trodAll_cons_mk (trod_low laidOut (by kernel_rfl) (of_decide_eq_true (by kernel_rfl)) h1 hb l1 (fun x hx => hsp x (by simp [hx]))) (trodAll_cons_mk (trod_low laidOut (by kernel_rfl) (of_decide_eq_true (by kernel_rfl)) h2 hb l2 (fun x hx => hsp x (by simp [hx]))) trodAll_mk0)))) (fun _ _ => rfl) (by simp) hb (ok_one (by kernel_rfl) rfl (okWide_bool_mk Tryd.underlying4 _))⟩

theorem over : Rows.encpassRunsRow.holds Tryd.pinned (OpenSpec.ofChange Rows.encpassRunsSpec) :=
  OpenClaim.holds_of_wide 3 Tryd.f3 rfl rfl rfl rfl rfl rfl rfl ⟨rfl, rfl, rfl, rfl, rfl⟩ rfl rfl rfl rfl rfl (by kernel_rfl) Tryd.func3 (by kernel_rfl)
    (of_decide_eq_true (by kernel_rfl)) (by unfold Func.isWrapper; first | (rw [if_pos (by decide +kernel)]; kernel_rfl) | (rw [if_neg (by decide +kernel)]; exact ⟨rfl, rfl⟩))
    (fun os started H enc _ => lifted os started H enc)
theorem proved : Rows.EncpassRunsCardSaid :=
  Claim7.holds_tied_plain_at .later [] [.data, .data, .data] true Rows.encpassRunsCard.stood.harness false over (fun _ h => by cases h) (by kernel_rfl) (fun _ h => by cases h) encpassRuns_row_tie rfl ⟨rfl, rfl⟩ (by kernel_rfl) rfl
    (fun f fn hf hfn => by
      obtain rfl : f = 3 := Option.some.inj ((show Tryd.prog.funcNamed Rows.encpassRunsRow.func = some 3 by kernel_rfl).symm.trans hf) |>.symm
      obtain rfl : fn = Tryd.f3 := (Option.some.inj (Tryd.func3.symm.trans hfn)).symm
      exact ⟨by kernel_rfl, fun j t ht => by
        rw [Tryd.params3] at ht
        have hm : t ∈ [28, 22, 22] := by simpa using Array.mem_of_getElem? ht
        have hall : ([28, 22, 22].all fun u => !Tryd.prog.wantsStandIn u) = true := by kernel_rfl
        exact (show Tryd.prog.wantsStandIn t = false by simpa using List.all_eq_true.1 hall t hm)⟩)
    (by kernel_rfl)
#print axioms proved
end Go.Proofs.YtbhjapgioaiocaaDoor.encpassRuns
