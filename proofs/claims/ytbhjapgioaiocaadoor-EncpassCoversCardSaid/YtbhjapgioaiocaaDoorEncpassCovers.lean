/-
  For all blocks the statement EncpassCovers returns true; they read afterwards as before.
  Conditions: none beyond those of the given statement (the listed variables are tied by the card).
-/
import Derived.Test.YtbhjapgioaiocaaDoorEq
import Derived.Test.YtbhjapgioaiocaaDoorTie
import Derived.Test.YtbhjapgioaiocaaDoorCards
import Derived.LaidMore
import Derived.Lay
import Derived.SevenTiedAt
import Derived.Stop.Joined
set_option maxRecDepth 100000
namespace Go.Proofs.YtbhjapgioaiocaaDoor.encpassCovers
open Go.ChangeShapes Go.WideShapes Go.ChangeAt Go.RowKit Go.Joins Go.Deep

theorem l5c {w : World} {g : Nat} {c0 c1 c2 c3 c4 c5 c6 c7 c8 c9 : Value} (h : Blk w g 28 #[c0, c1, c2, c3, c4, c5, c6, c7, c8, c9]) : w.cell? ⟨g, 0, none⟩ = some c0 ∧ w.cell? ⟨g, 1, none⟩ = some c1 ∧ w.cell? ⟨g, 2, none⟩ = some c2 ∧ w.cell? ⟨g, 3, none⟩ = some c3 ∧ w.cell? ⟨g, 4, none⟩ = some c4 ∧ w.cell? ⟨g, 5, none⟩ = some c5 ∧ w.cell? ⟨g, 6, none⟩ = some c6 ∧ w.cell? ⟨g, 7, none⟩ = some c7 ∧ w.cell? ⟨g, 8, none⟩ = some c8 ∧ w.cell? ⟨g, 9, none⟩ = some c9 := ⟨h.cell 0, h.cell 1, h.cell 2, h.cell 3, h.cell 4, h.cell 5, h.cell 6, h.cell 7, h.cell 8, h.cell 9⟩
structure Sh (W W2 : World) (cs : Array Value) (s : Option Addr) (n m : Nat) (Ls : List (List Sy)) (wr : World) : Prop where
  below : Below W.heap.size W wr
  box : Blk wr W.heap.size 28 cs
  ss : SsAt W2 wr (.slice s n m) Ls
theorem Sh.call {W W2 w w' : World} {cs : Array Value} {s : Option Addr} {n m : Nat} {Ls : List (List Sy)} (h : Sh W W2 cs s n m Ls w) (hb : Below w.heap.size w w') : Sh W W2 cs s n m Ls w' := ⟨below_call h.below hb, h.box.below hb, h.ss.below hb⟩
theorem chk_lit (w : World) : HoldsY (w.alloc (.cells #[.int .i64 18, .int .i64 1, .int .i64 18, .int .i64 0, .int .i64 18, .int .i64 1, .int .i64 18, .int .i64 0] 52)) (some ⟨w.heap.size, 0, none⟩) [(18, 1), (18, 0), (18, 1), (18, 0)] := pair_new w _ _ rfl
theorem small_ok {b : BV} (hs : b.small) : ∃ w0 h0 : Nat, b.W = w0 ∧ b.H = h0 ∧ w0 ≤ 12 ∧ h0 ≤ 12 ∧ fits (w0 : Int) (h0 : Int) ∧ b.l.length = w0 * h0 ∧ b.l.length ≤ 144 ∧ plnN b.l ≤ 60 := by
  obtain ⟨h1, h2, h3, h4, h5, h6⟩ := hs
  obtain ⟨w0, hw⟩ : ∃ n : Nat, b.W = n := ⟨b.W.toNat, by omega⟩
  obtain ⟨h0, hh⟩ : ∃ n : Nat, b.H = n := ⟨b.H.toNat, by omega⟩
  rw [hw, hh, ← Int.natCast_mul] at h5
  have h7 : w0 * h0 ≤ 12 * 12 := Nat.mul_le_mul (by omega) (by omega)
  exact ⟨w0, h0, hw, hh, by omega, by omega, by unfold fits; omega, by omega, by omega, h6⟩
theorem okV_all {l : List Int} (hr : ∀ v ∈ l, i64R v) (hp : plnN l ≤ 60) : ∀ v ∈ l, okV v := fun v hv => by
  have h1 := mxN_le l v hv
  have h3 := mxN_64 l hr
  have h2 := (bit_iff (mxN l) 60 (by omega)).1 hp
  unfold okV
  omega
set_option maxHeartbeats 8000000 in
theorem walk (b : BV) (W : World) (hT : Cx.Tabs W) (K : BVk W b) : Calls Tryd.prog 8 #[b.val] W fun e w' => e = .returned (.bool true) ∧ Below W.heap.size W w' := by
  have hE := fun {w1 : World} (hb : Below W.heap.size W w1) => ex15_c w1 (hT.below hb)
  have HT := Lib.hid hT
  obtain ⟨bv, hbv⟩ : ∃ x, x = b := ⟨_, rfl⟩
  have hal := below_alloc (Below.refl _ W) (.cells b.cs 28)
  have K1 := K.call hal
  have kS := small_c b _ K1
  have MB := Blk.new W 28 b.cs
  have HSM := Lib.hid (fun h : b.small => small_ok h)
  have HOKV := Lib.hid (fun h : plnN b.l ≤ 60 => okV_all K.r h)
  have kV := fun W => xvalid_c b.o W
  have HA := Lib.hid hal
  have HMB := Lib.hid MB
  have HK := Lib.hid K
  by_cases hs : b.small
  · rw [decide_eq_true hs] at kS
    obtain ⟨w, h, s, l, cp, sf, fl, cf, o, ⟨mb, mr, ms, mc, my⟩⟩ := b
    obtain ⟨w0, h0, hw, hh, w12, h12, hfit, hlen, hl144, hp60⟩ := small_ok hs
    dsimp only at hw hh hlen hl144 hp60
    subst hw hh
    have hok := okV_all K.r hp60
    unfold BV.val BV.cs at *
    dsimp only at *
    by_cases ho : 0 ≤ o ∧ o ≤ 3
    · rw [decide_eq_true ho] at kV
      by_cases hmy : mb = false ∧ my = false
      · obtain ⟨rfl, rfl⟩ := hmy
        obtain ⟨pl, hpl⟩ : ∃ p, p = plnN l := ⟨_, rfl⟩
        obtain ⟨q0, hq0⟩ : ∃ q, q = setV w0 h0 l l.length := ⟨_, rfl⟩
        obtain ⟨Ls, hLs⟩ : ∃ L, L = symL w0 h0 (plnN l) o ⟨false, mr, ms, mc, false⟩ (setV w0 h0 l l.length) (3 * plnN l - 2) := ⟨_, rfl⟩
        have k1 := fun w1 (hb : Below W.heap.size W w1) => symbols_c3 s l cp w0 h0 o ⟨false, mr, ms, mc, false⟩ w1 hfit hlen ho (HK.out.call hb).h (HT.out.below hb) HK.out.r 0 Ls (fun ⟨v, hv, hn⟩ => absurd (hok v hv) hn) (fun _ => ⟨rfl, hLs⟩)
        have hLn : Ls.length = 3 * pl - 2 := by rw [hLs, symL_len, hpl]
        rw [← hpl, ← hq0] at hLs
        have hG : ∀ k (hk : k < Ls.length) (a : Nat), Ahead w0 h0 k (blkP w0 h0 pl o ⟨false, mr, ms, mc, false⟩ q0 k) a → Ls[k].length ≤ 20000 ∧ ∃ c, Ok Ls[k] c ∧ (kndP (k : Int) = 2 → a + c = w0 * h0 ∧ Ahead w0 h0 (k + 1) (blkP w0 h0 pl o ⟨false, mr, ms, mc, false⟩ q0 (k + 1)) 0) ∧ (kndP (k : Int) ≠ 2 → Ahead w0 h0 (k + 1) (blkP w0 h0 pl o ⟨false, mr, ms, mc, false⟩ q0 (k + 1)) (a + c)) := by
          intro k hk a ha
          subst hLs
          rw [symL_at]
          exact ⟨sym_len _ _ _ _ _ _ _ (by omega) (by omega), pass_cnt _ _ _ _ _ _ _ _ rfl rfl ha⟩
        have hA0 : Ahead w0 h0 0 (blkP w0 h0 pl o ⟨false, mr, ms, mc, false⟩ q0 0) 0 := ahead_0 _ _ _ (by rw [hq0]; exact setV_s _ _ _ _) (by rw [hq0]; exact setV_t _ _ _ _)
        have hwh : w0 * h0 ≤ 144 := Nat.mul_le_mul w12 h12
        have wm : IntKind.i64.wrap ((w0 : Int) * (h0 : Int)) = ((w0 * h0 : Nat) : Int) := by rw [IntWalk.i64_left, ← Int.natCast_mul]; unfold wrap64; omega
        have HG := Lib.hid hG
        have HA0 := Lib.hid hA0
        have HLN := Lib.hid hLn
        have HP60 := Lib.hid (show pl ≤ 60 by omega)
        have HWH := Lib.hid hwh
        unfold Mo.val at k1
        dsimp only at k1
        clear hs HSM HOKV K K1 hal MB hbv hT hok ho hfit hlen hl144 hp60 hLs hG hLn hpl w12 h12 hA0 hwh hq0
        generalize l.length = N at *
        generalize hwh2 : w0 * h0 = WH at *
        have hA1 : ∀ k a, Ahead w0 h0 k (blkP w0 h0 pl o ⟨false, mr, ms, mc, false⟩ q0 k) a → kndP (k : Int) = 0 → a = 0 := fun k a h hk => by unfold Ahead at h; rw [if_pos hk] at h; exact h.1
        have HA1 := Lib.hid hA1
        clear hwh2 hA1
        generalize hAH : (fun (k a : Nat) => Ahead w0 h0 k (blkP w0 h0 pl o ⟨false, mr, ms, mc, false⟩ q0 k) a) = AH at *
        have HAH := Lib.hid hAH
        clear hAH
        have HGa : Hid (∀ k (hk : k < Ls.length) (a : Nat), AH k a → Ls[k].length ≤ 20000 ∧ ∃ c, Ok Ls[k] c ∧ (kndP (k : Int) = 2 → a + c = WH ∧ AH (k + 1) 0) ∧ (kndP (k : Int) ≠ 2 → AH (k + 1) (a + c))) := by rw [← HAH.out]; exact HG
        have HA0a : Hid (AH 0 0) := by rw [← HAH.out]; exact HA0
        have HA1a : Hid (∀ k a, AH k a → kndP (k : Int) = 0 → a = 0) := by rw [← HAH.out]; exact HA1
        clear HG HA0 HA1 HAH
        go_enter Tryd.func8, Tryd.ntmps8
        go_wp2_with (first | (go_at_call 15; (with_reducible refine kS.mono ?_); rintro e w1 ⟨rfl, hb⟩; have H1 := Lib.hid (below_call HA.out hb); have B1 := Lib.hid (HMB.out.below hb); have k1a := k1 _ H1.out; obtain ⟨c0, c1, c2, c3, c4, c5, c6, c7, c8, c9⟩ := l5c B1.out; clear hb) | (go_at_call 27; (with_reducible refine (kV _).mono ?_); rintro e wn ⟨rfl, rfl⟩) | (go_at_call 22; (with_reducible refine k1a.mono ?_); rintro e w2 ⟨v2, rfl, hS, hb⟩; obtain ⟨s2, m2, rfl, _⟩ := ss_holds hS; have H2 := Lib.hid (below_call H1.out hb); have B2 := Lib.hid (B1.out.below hb); have S2 := Lib.hid hS; clear hb hS))
        have SH := Lib.hid (show Sh W w1 #[.int .i64 (w0 : Int), .int .i64 (h0 : Int), .slice s N cp, .slice sf fl.length cf, .int .i64 o, .bool false, .bool mr, .bool ms, .bool mc, .bool false] s2 Ls.length m2 Ls w2 from ⟨H2.out, B2.out, S2.out⟩)
        clear c0 c1 c2 c3 c4 c5 c6 c7 c8 c9
        go_loopw [5, 49] (fun z i wr => ∃ k a : Nat, k ≤ Ls.length ∧ i = .int .i64 (k : Int) ∧ z = .int .i64 (a : Int) ∧ Hid (AH k a ∧ (k = 0 → a = 0) ∧ a ≤ 1000000 * k) ∧ Hid (Sh W w1 #[.int .i64 (w0 : Int), .int .i64 (h0 : Int), .slice s N cp, .slice sf fl.length cf, .int .i64 o, .bool false, .bool mr, .bool ms, .bool mc, .bool false] s2 Ls.length m2 Ls wr)) (fun _ i _ => (Ls.length - (intOf i).toNat))
        case atStart => exact ⟨0, 0, by omega, rfl, rfl, ⟨HA0a.out, fun _ => rfl, by omega⟩, SH⟩
        case round =>
          obtain ⟨k, a, hk, rfl, rfl, hAk, hS⟩ := hrel
          by_cases hlt : k < Ls.length
          · have hk178 : k ≤ 178 := by have := HLN.out; have := HP60.out; omega
            have wk : IntKind.i64.wrap ((k : Int) + 1) = ((k + 1 : Nat) : Int) := by rw [IntWalk.i64_left]; unfold wrap64; omega
            obtain ⟨g1, c, g2, g3, g4⟩ := HGa.out k hlt a hAk.out.1
            obtain ⟨b, sk, mk, rfl, d0, dY, dm⟩ := ss_at hS.out.ss hlt
            have hcl := g2.le
            have kc := covered_c wr sk Ls[k] mk c dY g2 g1
            have kp := fun W => passR_c (k : Int) (by omega) W
            have ha6 := hAk.out.2.2
            have hc6 : c ≤ 80000 := by omega
            have wac : IntKind.i64.wrap ((a : Int) + (c : Int)) = ((a + c : Nat) : Int) := by rw [IntWalk.i64_left]; unfold wrap64; omega
            have hc0 : ¬ (c : Int) < 0 := by omega
            have HLT := Lib.hid hlt
            have G3 := Lib.hid g3
            have G4 := Lib.hid g4
            have HAC := Lib.hid (show a + c ≤ 1000000 * (k + 1) by omega)
            generalize Ls[k].length = LK at *
            clear g1 g2 g3 g4 dY dm hcl ha6 hc6 hk178
            generalize plnP (k : Int) = pk at *
            obtain ⟨ac, hac⟩ : ∃ x, x = a + c := ⟨_, rfl⟩
            rw [← hac] at wac HAC G3 G4
            clear hac
            by_cases hkd : kndP (k : Int) = 2
            · obtain ⟨e1, e2⟩ := G3.out hkd
              subst e1
              rw [hkd] at kp
              have E2 := Lib.hid e2
              clear hkd e2
              go_wp2_with (first | (go_at_call 30; (with_reducible refine kc.mono ?_); rintro e w3 ⟨rfl, hd⟩; have S3 := Lib.hid (hS.out.call hd.below); obtain ⟨c0, c1, c2, c3, c4, c5, c6, c7, c8, c9⟩ := l5c S3.out.box; clear hd) | (go_at_call 29; (with_reducible refine (kp _).mono ?_); rintro e wn ⟨rfl, rfl⟩))
              go_roundw
              case rel => exact ⟨k + 1, 0, HLT.out, by go_num, rfl, ⟨E2.out, fun _ => rfl, by omega⟩, S3⟩
              case measure => have := HLT.out; simp [intOf]; omega
            · have E4 := Lib.hid (G4.out hkd)
              have hkd2 : (kndP (k : Int) == 2) = false := by simpa using hkd
              generalize kndP (k : Int) = kd at *
              clear hkd
              go_wp2_with (first | (go_at_call 30; (with_reducible refine kc.mono ?_); rintro e w3 ⟨rfl, hd⟩; have S3 := Lib.hid (hS.out.call hd.below); clear hd) | (go_at_call 29; (with_reducible refine (kp _).mono ?_); rintro e wn ⟨rfl, rfl⟩))
              go_roundw
              case rel => exact ⟨k + 1, ac, HLT.out, by go_num, rfl, ⟨E4.out, fun h => by omega, HAC.out⟩, S3⟩
              case measure => have := HLT.out; simp [intOf]; omega
          · have hkn : k = Ls.length := by omega
            have ha0 : a = 0 := by
              rcases Nat.eq_zero_or_pos pl with h | h
              · exact hAk.out.2.1 (by have := HLN.out; omega)
              · refine HA1a.out k a hAk.out.1 ?_
                have := HLN.out
                unfold kndP
                rw [if_neg (by omega), if_neg (by omega)]
                omega
            subst ha0 hkn
            go_wp2_with (first | (go_at_call 16; (with_reducible refine (hE hS.out.below).mono ?_); rintro e w2 ⟨rfl, hb2⟩; have H9 := Lib.hid (below_call hS.out.below hb2); clear hb2))
            go_ret
            exact ⟨rfl, H9.out⟩
      · clear hs HSM HOKV K K1 hal MB hbv hT hok ho hfit hlen hl144 hp60 w12 h12 HT HK
        have hcc : mb = true ∨ (mb = false ∧ my = true) := by cases mb <;> cases my <;> simp_all
        clear hmy
        rcases hcc with rfl | ⟨rfl, rfl⟩
        · go_enter Tryd.func8, Tryd.ntmps8
          go_wp2_with (first | (go_at_call 15; (with_reducible refine kS.mono ?_); rintro e w1 ⟨rfl, hb⟩; have H1 := Lib.hid (below_call HA.out hb); have B1 := Lib.hid (HMB.out.below hb); obtain ⟨c0, c1, c2, c3, c4, c5, c6, c7, c8, c9⟩ := l5c B1.out; clear hb) | (go_at_call 27; (with_reducible refine (kV _).mono ?_); rintro e wn ⟨rfl, rfl⟩) | (go_at_call 16; (with_reducible refine (hE H1.out).mono ?_); rintro e w2 ⟨rfl, hb2⟩; have H2 := Lib.hid (below_call H1.out hb2); clear hb2))
          go_ret
          exact ⟨rfl, H2.out⟩
        · go_enter Tryd.func8, Tryd.ntmps8
          go_wp2_with (first | (go_at_call 15; (with_reducible refine kS.mono ?_); rintro e w1 ⟨rfl, hb⟩; have H1 := Lib.hid (below_call HA.out hb); have B1 := Lib.hid (HMB.out.below hb); obtain ⟨c0, c1, c2, c3, c4, c5, c6, c7, c8, c9⟩ := l5c B1.out; clear hb) | (go_at_call 27; (with_reducible refine (kV _).mono ?_); rintro e wn ⟨rfl, rfl⟩) | (go_at_call 16; (with_reducible refine (hE H1.out).mono ?_); rintro e w2 ⟨rfl, hb2⟩; have H2 := Lib.hid (below_call H1.out hb2); clear hb2))
          go_ret
          exact ⟨rfl, H2.out⟩
    · rw [decide_eq_false ho] at kV
      clear hs HSM HOKV K K1 hal MB hbv hT hok ho hfit hlen hl144 hp60 w12 h12 HT HK
      go_enter Tryd.func8, Tryd.ntmps8
      go_wp2_with (first | (go_at_call 15; (with_reducible refine kS.mono ?_); rintro e w1 ⟨rfl, hb⟩; have H1 := Lib.hid (below_call HA.out hb); have B1 := Lib.hid (HMB.out.below hb); obtain ⟨c0, c1, c2, c3, c4, c5, c6, c7, c8, c9⟩ := l5c B1.out; clear hb) | (go_at_call 27; (with_reducible refine (kV _).mono ?_); rintro e wn ⟨rfl, rfl⟩) | (go_at_call 16; (with_reducible refine (hE H1.out).mono ?_); rintro e w2 ⟨rfl, hb2⟩; have H2 := Lib.hid (below_call H1.out hb2); clear hb2))
      go_ret
      exact ⟨rfl, H2.out⟩
  · obtain ⟨w, h, s, l, cp, sf, fl, cf, o, ⟨mb, mr, ms, mc, my⟩⟩ := b
    rw [decide_eq_false hs] at kS
    unfold BV.val BV.cs at *
    dsimp only at *
    clear hs HSM HOKV K K1 hal MB hbv hT HT HK kV
    go_enter Tryd.func8, Tryd.ntmps8
    go_wp2_with (first | (go_at_call 15; (with_reducible refine kS.mono ?_); rintro e w1 ⟨rfl, hb⟩; have H1 := Lib.hid (below_call HA.out hb); have B1 := Lib.hid (HMB.out.below hb); obtain ⟨c0, c1, c2, c3, c4, c5, c6, c7, c8, c9⟩ := l5c B1.out; clear hb) | (go_at_call 16; (with_reducible refine (hE H1.out).mono ?_); rintro e w2 ⟨rfl, hb2⟩; have H2 := Lib.hid (below_call H1.out hb2); clear hb2))
    go_ret
    exact ⟨rfl, H2.out⟩

set_option maxRecDepth 100000 in
theorem lifted (os : Os) (started : os.Started) (H : Type) (enc : TypeId × Value → H) :
    ReturnsInHanded {} Tryd.checked os 8 .any (fun w args => (Rows.encpassCoversSpec.pre enc Tryd.prog Tryd.f8 Rows.encpassCoversRow.domain false w args ∧ laidMetH Tryd.prog Rows.encpassCoversRow.laid w) ∧ sizedMet enc Tryd.prog Tryd.f8 (OpenSpec.ofChange Rows.encpassCoversSpec) false w args)
      (Rows.encpassCoversSpec.post enc Tryd.prog Tryd.f8 false true false false) := by
  refine returnsInHanded_of_change_and (C := Tryd.checked) (X := fun w _ => laidMetH Tryd.prog Rows.encpassCoversRow.laid w) (fun _ _ _ hh h => h.of_heap hh) own started (by kernel_rfl) Tryd.func8
    (ChangeSpec.witness_shaped (enc := enc) (C := Tryd.checked) (os := os) (X := fun w _ => laidMetH Tryd.prog Rows.encpassCoversRow.laid w) false (World.laidAll Tryd.prog os Rows.encpassCoversRow.laid) #[.agg #[.int .i64 0, .int .i64 0, .slice none 0 0, .slice none 0 0, .int .i64 0, .bool false, .bool false, .bool false, .bool false, .bool false]] 8 (World.laidAll_os _ _ _)
      (World.shaped_of_ZipB (by kernel_rfl) (by kernel_rfl)) (by kernel_rfl) (by kernel_rfl) (by kernel_rfl)
      (by rw [MakeChecks.laidMetH_plain _ _ _ (by kernel_rfl)]; exact laidMet_laidAll _ (by kernel_rfl) (by kernel_rfl))) ?_
  intro W base args ds gs before hval0 hW _ _ hL _
  have hval : ∀ (j : Nat) t v, Tryd.f8.params[j]? = some t → args[j]? = some v → Value.okWide Tryd.prog W .any base t v := hval0
  have hT : Cx.Tabs W := Cx.tabs_of_laid hL
  have hW' := hW
  obtain ⟨p, q, hA0, hV, rfl, _, _⟩ := hW
  have hA : DataW.TrodAll enc Tryd.prog W 0 (fun _ => true) true Tryd.f8.params.toList args.toList ds p := hA0
  rw [Tryd.params8] at hA hval
  obtain ⟨v0, vs0, d0, ds0, p0, q0, hargs, rfl, rfl, h0, r0⟩ := trodAll_cons hA
  obtain ⟨rfl, rfl, rfl⟩ := trodAll_nil r0
  obtain rfl : args = #[v0] := by cases args; simp_all
  obtain ⟨rfl, rfl⟩ := trodVars_none hV
  clear hA0 hval0
  simp only [List.append_nil] at hW'
  have l0 : ∀ x ∈ p0, x.block < W.heap.size := fun x hx => hW'.lt x (by simp [hx])
  obtain ⟨B0, rfl, hB0⟩ := open_L5 (hval 0 28 v0 rfl rfl) h0
  refine (walk B0 W hT hB0).mono fun e W' ⟨he, hb⟩ => ?_
  subst he
  exact ⟨_, rfl, post_low (pa := p0 ++ ([])) (pv := []) hW' (fun _ _ _ => (trodAll_cons_mk (shut_bool Tryd.underlying4 _) trodAll_mk0)) (fun sp hsp => (trodAll_cons_mk (trod_low laidOut (by kernel_rfl) (of_decide_eq_true (by kernel_rfl)) h0 hb l0 (fun x hx => hsp x (by simp [hx]))) trodAll_mk0)) (fun _ _ => rfl) (by simp) hb (ok_one (by kernel_rfl) rfl (okWide_bool_mk Tryd.underlying4 _))⟩

theorem over : Rows.encpassCoversRow.holds Tryd.pinned (OpenSpec.ofChange Rows.encpassCoversSpec) :=
  OpenClaim.holds_of_wide 8 Tryd.f8 rfl rfl rfl rfl rfl rfl rfl ⟨rfl, rfl, rfl, rfl, rfl⟩ rfl rfl rfl rfl rfl (by kernel_rfl) Tryd.func8 (by kernel_rfl)
    (of_decide_eq_true (by kernel_rfl)) (by unfold Func.isWrapper; first | (rw [if_pos (by decide +kernel)]; kernel_rfl) | (rw [if_neg (by decide +kernel)]; exact ⟨rfl, rfl⟩))
    (fun os started H enc _ => lifted os started H enc)
theorem proved : Rows.EncpassCoversCardSaid :=
  Claim7.holds_tied_plain_at .later [] [.data, .data, .data] true Rows.encpassCoversCard.stood.harness false over (fun _ h => by cases h) (by kernel_rfl) (fun _ h => by cases h) encpassCovers_row_tie rfl ⟨rfl, rfl⟩ (by kernel_rfl) rfl
    (fun f fn hf hfn => by
      obtain rfl : f = 8 := Option.some.inj ((show Tryd.prog.funcNamed Rows.encpassCoversRow.func = some 8 by kernel_rfl).symm.trans hf) |>.symm
      obtain rfl : fn = Tryd.f8 := (Option.some.inj (Tryd.func8.symm.trans hfn)).symm
      exact ⟨by kernel_rfl, fun j t ht => by
        rw [Tryd.params8] at ht
        have hm : t ∈ [28] := by simpa using Array.mem_of_getElem? ht
        have hall : ([28].all fun u => !Tryd.prog.wantsStandIn u) = true := by kernel_rfl
        exact (show Tryd.prog.wantsStandIn t = false by simpa using List.all_eq_true.1 hall t hm)⟩)
    (by kernel_rfl)
#print axioms proved
end Go.Proofs.YtbhjapgioaiocaaDoor.encpassCovers
