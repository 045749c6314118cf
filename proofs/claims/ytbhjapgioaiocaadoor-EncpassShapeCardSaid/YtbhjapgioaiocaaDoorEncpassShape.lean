/-
  For all blocks the statement EncpassShape returns true; they read afterwards as before.
  Conditions: none beyond those of the given statement (the listed variables are tied by the card).
-/
import Derived.Test.YtbhjapgioaiocaaDoorMb
import Derived.Test.YtbhjapgioaiocaaDoorTie
import Derived.Test.YtbhjapgioaiocaaDoorCards
import Derived.LaidMore
import Derived.Lay
import Derived.SevenTiedAt
import Derived.Stop.Joined
set_option maxRecDepth 100000
namespace Go.Proofs.YtbhjapgioaiocaaDoor.encpassShape
open Go.ChangeShapes Go.WideShapes Go.ChangeAt Go.RowKit Go.Joins Go.Deep

theorem l5c {w : World} {g : Nat} {c0 c1 c2 c3 c4 c5 c6 c7 c8 c9 : Value} (h : Blk w g 28 #[c0, c1, c2, c3, c4, c5, c6, c7, c8, c9]) : w.cell? ⟨g, 0, none⟩ = some c0 ∧ w.cell? ⟨g, 1, none⟩ = some c1 ∧ w.cell? ⟨g, 2, none⟩ = some c2 ∧ w.cell? ⟨g, 3, none⟩ = some c3 ∧ w.cell? ⟨g, 4, none⟩ = some c4 ∧ w.cell? ⟨g, 5, none⟩ = some c5 ∧ w.cell? ⟨g, 6, none⟩ = some c6 ∧ w.cell? ⟨g, 7, none⟩ = some c7 ∧ w.cell? ⟨g, 8, none⟩ = some c8 ∧ w.cell? ⟨g, 9, none⟩ = some c9 := ⟨h.cell 0, h.cell 1, h.cell 2, h.cell 3, h.cell 4, h.cell 5, h.cell 6, h.cell 7, h.cell 8, h.cell 9⟩
structure Sh (W W2 : World) (cs : Array Value) (s : Option Addr) (n m : Nat) (Ls : List (List Sy)) (wr : World) : Prop where
  below : Below W.heap.size W wr
  box : Blk wr W.heap.size 28 cs
  ss : SsAt W2 wr (.slice s n m) Ls
theorem Sh.call {W W2 w w' : World} {cs : Array Value} {s : Option Addr} {n m : Nat} {Ls : List (List Sy)} (h : Sh W W2 cs s n m Ls w) (hb : Below w.heap.size w w') : Sh W W2 cs s n m Ls w' := ⟨below_call h.below hb, h.box.below hb, h.ss.below hb⟩
theorem chk_lit (w : World) : HoldsY (w.alloc (.cells #[.int .i64 18, .int .i64 1, .int .i64 18, .int .i64 0, .int .i64 18, .int .i64 1, .int .i64 18, .int .i64 0] 52)) (some ⟨w.heap.size, 0, none⟩) [(18, 1), (18, 0), (18, 1), (18, 0)] := pair_new w _ _ rfl
theorem small_ok {b : BV} (hs : b.small) : ∃ w0 h0 : Nat, b.W = w0 ∧ b.H = h0 ∧ w0 ≤ 12 ∧ h0 ≤ 12 ∧ fits (w0 : Int) (h0 : Int) ∧ b.l.length = w0 * h0 ∧ b.l.length ≤ 144 ∧ plnN b.l ≤ 60 := by
  obtain ⟨h1, h2, h3, h4, h5, h6⟩ := hs
  obtain ⟨w0, hw⟩ : ∃ n : Nat, b.W = n := ⟨b.W.toNat, by omega⟩
  obtain ⟨h0, hh⟩ : ∃ n : Nat, b.H = n := ⟨b.H.toNat, by omega⟩
  rw [hw, hh, ← Int.natCast_mul] at h5
  have h7 : w0 * h0 ≤ 12 * 12 := Nat.mul_le_mul (by omega) (by omega)
  exact ⟨w0, h0, hw, hh, by omega, by omega, by unfold fits; omega, by omega, by omega, h6⟩
theorem okV_all {l : List Int} (hr : ∀ v ∈ l, i64R v) (hp : plnN l ≤ 60) : ∀ v ∈ l, okV v := fun v hv => by
  have h1 := mxN_le l v hv
  have h3 := mxN_64 l hr
  have h2 := (bit_iff (mxN l) 60 (by omega)).1 hp
  unfold okV
  omega
set_option maxHeartbeats 8000000 in
theorem walk (b : BV) (W : World) (hT : Cx.Tabs W) (K : BVk W b) : Calls Tryd.prog 6 #[b.val] W fun e w' => e = .returned (.bool true) ∧ Below W.heap.size W w' := by
  have hE := fun {w1 : World} (hb : Below W.heap.size W w1) => ex15_c w1 (hT.below hb)
  have HT := Lib.hid hT
  obtain ⟨bv, hbv⟩ : ∃ x, x = b := ⟨_, rfl⟩
  have hal := below_alloc (Below.refl _ W) (.cells b.cs 28)
  have K1 := K.call hal
  have kS := small_c b _ K1
  have MB := Blk.new W 28 b.cs
  have HSM := Lib.hid (fun h : b.small => small_ok h)
  have HOKV := Lib.hid (fun h : plnN b.l ≤ 60 => okV_all K.r h)
  by_cases hs : b.small
  · obtain ⟨w, h, s, l, cp, sf, fl, cf, o, ⟨mb, mr, ms, mc, my⟩⟩ := b
    obtain ⟨w0, h0, hw, hh, w12, h12, hfit, hlen, hl144, hp60⟩ := small_ok hs
    dsimp only at hw hh hlen hl144 hp60
    subst hw hh
    rw [decide_eq_true hs] at kS
    have kV := fun W => xvalid_c o W
    have hok := okV_all K.r hp60
    unfold BV.val BV.cs at *
    dsimp only at *
    have HA := Lib.hid hal
    have HMB := Lib.hid MB
    have HK := Lib.hid K
    by_cases ho : 0 ≤ o ∧ o ≤ 3
    · rw [decide_eq_true ho] at kV
      have kP := fun w1 (hb : Below W.heap.size W w1) => xplanes_c s l cp w1 (HK.out.call hb).h HK.out.r (by omega)
      obtain ⟨pl, hpl⟩ : ∃ p, p = plnN l := ⟨_, rfl⟩
      obtain ⟨Ls, hLs⟩ : ∃ L, L = symL w0 h0 (plnN l) o ⟨mb, mr, ms, mc, my⟩ (setV w0 h0 l l.length) (3 * plnN l - 2) := ⟨_, rfl⟩
      have k1 := fun w1 (hb : Below W.heap.size W w1) => symbols_c3 s l cp w0 h0 o ⟨mb, mr, ms, mc, my⟩ w1 hfit hlen ho (HK.out.call hb).h (HT.out.below hb) HK.out.r 0 Ls (fun ⟨v, hv, hn⟩ => absurd (hok v hv) hn) (fun _ => ⟨rfl, hLs⟩)
      have hLn : Ls.length = 3 * pl - 2 := by rw [hLs, symL_len, hpl]
      have hG : ∀ k (hk : k < Ls.length), Gd (ppR w0 h0 (k : Int) pl o ⟨mb, mr, ms, mc, my⟩) Ls[k] ∧ Ls[k].length ≤ 20000 ∧ (kndP (k : Int) = 2 → my = true → ∃ l0, Ls[k] = l0 ++ [(18, 1), (18, 0), (18, 1), (18, 0)]) := by
        rw [hpl]
        intro k hk
        subst hLs
        rw [symL_at]
        exact ⟨gd_sym _ _ _ _ _ _ _, sym_len _ _ _ _ _ _ _ (by omega) (by omega), fun h1 h2 => chk_end _ _ _ _ _ _ _ h1 h2⟩
      have hpl60 : pl ≤ 60 := by omega
      rw [← hpl] at kP
      have HG := Lib.hid hG
      have HLN := Lib.hid hLn
      have HP60 := Lib.hid hpl60
      have wp1 : IntKind.i64.wrap (3 * (pl : Int)) = 3 * (pl : Int) := by rw [IntWalk.i64_left]; unfold wrap64; omega
      have wp2 : IntKind.i64.wrap (3 * (pl : Int) - 2) = 3 * (pl : Int) - 2 := by rw [IntWalk.i64_left]; unfold wrap64; omega
      have hmax : max 0 (3 * (pl : Int) - 2) = (Ls.length : Int) := by omega
      unfold Mo.val at k1
      dsimp only at k1
      clear hs HSM HOKV K K1 hal MB hbv hT hok ho hfit hlen hl144 hp60 hLs hG hLn hpl60 hpl w12 h12
      generalize l.length = N at *
      have hmx := hmx
      go_enter Tryd.func6, Tryd.ntmps6
      go_wp2_with (first | (go_at_call 15; (with_reducible refine kS.mono ?_); rintro e w1 ⟨rfl, hb⟩; have H1 := Lib.hid (below_call HA.out hb); have B1 := Lib.hid (HMB.out.below hb); obtain ⟨c0, c1, c2, c3, c4, c5, c6, c7, c8, c9⟩ := l5c B1.out; have k1a := k1 _ H1.out; have kPa := kP; clear hb) | (go_at_call 27; (with_reducible refine (kV _).mono ?_); rintro e wn ⟨rfl, rfl⟩) | (go_at_call 22; (with_reducible refine k1a.mono ?_); rintro e w2 ⟨v2, rfl, hS, hb⟩; obtain ⟨s2, m2, rfl, _⟩ := ss_holds hS; have H2 := Lib.hid (below_call H1.out hb); have B2 := Lib.hid (B1.out.below hb); clear c0 c1 c2 c3 c4 c5 c6 c7 c8 c9; obtain ⟨c0, c1, c2, c3, c4, c5, c6, c7, c8, c9⟩ := l5c B2.out; have S2 := Lib.hid hS; have kP2 := kP _ H2.out; clear hb hS) | (go_at_call 26; (with_reducible refine kP2.mono ?_); rintro e wn ⟨rfl, rfl⟩))
      obtain ⟨Wb, hWb⟩ : ∃ x, x = w1.heap.size := ⟨_, rfl⟩
      clear hWb Wb
      have SH := Lib.hid (show Sh W w1 #[.int .i64 (w0 : Int), .int .i64 (h0 : Int), .slice s N cp, .slice sf fl.length cf, .int .i64 o, .bool mb, .bool mr, .bool ms, .bool mc, .bool my] s2 Ls.length m2 Ls w2 from ⟨H2.out, B2.out, S2.out⟩)
      clear c0 c1 c2 c3 c4 c5 c6 c7 c8 c9
      go_loopw [54] (fun i wr => ∃ k : Nat, k ≤ Ls.length ∧ i = .int .i64 (k : Int) ∧ Hid (Sh W w1 #[.int .i64 (w0 : Int), .int .i64 (h0 : Int), .slice s N cp, .slice sf fl.length cf, .int .i64 o, .bool mb, .bool mr, .bool ms, .bool mc, .bool my] s2 Ls.length m2 Ls wr)) (fun i _ => (Ls.length - (intOf i).toNat))
      case atStart => exact ⟨0, by omega, rfl, SH⟩
      case round =>
        obtain ⟨k, hk, rfl, hS⟩ := hrel
        by_cases hlt : k < Ls.length
        · have wk : IntKind.i64.wrap ((k : Int) + 1) = ((k + 1 : Nat) : Int) := by have := HLN.out; have := HP60.out; rw [IntWalk.i64_left]; unfold wrap64; omega
          obtain ⟨g1, g2, g3⟩ := HG.out k hlt
          have hk8 : (k : Int) ≤ 9223372036854775807 := by have := HLN.out; have := HP60.out; omega
          obtain ⟨b, sk, mk, rfl, d0, dY, dm⟩ := ss_at hS.out.ss hlt
          obtain ⟨c0, c1, c2, c3, c4, c5, c6, c7, c8, c9⟩ := l5c hS.out.box
          have kr := fun W => rawR_c (k : Int) ⟨mb, mr, ms, mc, my⟩ hk8 W
          have kp := fun W => passR_c (k : Int) hk8 W
          unfold Mo.val at kr
          dsimp only at kr
          have hraw : (ppR w0 h0 (k : Int) pl o ⟨mb, mr, ms, mc, my⟩).raw = rawM (k : Int) mb := rfl
          have GS := Lib.hid (fun z (hz : z ∈ Ls[k]) => show (z.2 = 0 ∨ z.2 = 1) ∧ (z.1 == -1) = rawM (k : Int) mb ∧ ¬ z.1 < -1 ∧ ¬ 18 < z.1 from by
            obtain ⟨q1, c, q2, q3, q4⟩ := g1 z hz
            obtain ⟨r1, r2, r3⟩ := raw_c2 c ⟨q2, q3⟩ (ppR w0 h0 (k : Int) pl o ⟨mb, mr, ms, mc, my⟩)
            rw [q4, ← hraw]
            exact ⟨q1, r1, by omega, by omega⟩)
          obtain ⟨Lk, hLk⟩ : ∃ x, x = Ls[k] := ⟨_, rfl⟩
          rw [← hLk] at g2 g3 d0 dY dm GS
          have HLT := Lib.hid hlt
          have G3 := Lib.hid g3
          have DY := Lib.hid dY
          have DM := Lib.hid dm
          have HG2 := Lib.hid g2
          clear g1 g2 g3 dY dm hraw hLk
          generalize rawM (k : Int) mb = rw0 at *
          generalize plnP (k : Int) = pk at *
          generalize hkd : kndP (k : Int) = kd at *
          clear hkd
          go_wp2_with (first | (go_at_call 28; (with_reducible refine (kr _).mono ?_); rintro e w3 ⟨rfl, hb⟩; have S3 := Lib.hid (hS.out.call hb); have Y3 := Lib.hid (DY.out.call hb); clear hb))
          clear kr c0 c1 c2 c3 c4 c5 c6 c7 c8 c9 d0
          go_loopw [65] (fun i wr => ∃ j : Nat, j ≤ Lk.length ∧ i = .int .i64 (j : Int) ∧ Hid (Sh W w1 #[.int .i64 (w0 : Int), .int .i64 (h0 : Int), .slice s N cp, .slice sf fl.length cf, .int .i64 o, .bool mb, .bool mr, .bool ms, .bool mc, .bool my] (some ⟨b, 0, none⟩) Ls.length m2 Ls wr) ∧ Hid (HoldsY wr sk Lk)) (fun i _ => (Lk.length - (intOf i).toNat))
          case atStart => exact ⟨0, by omega, rfl, S3, Y3⟩
          case round =>
            obtain ⟨j, hj, rfl, hS, hY⟩ := hrel
            by_cases hjl : j < Lk.length
            · have wj : IntKind.i64.wrap ((j : Int) + 1) = ((j + 1 : Nat) : Int) := by have := HG2.out; rw [IntWalk.i64_left]; unfold wrap64; omega
              obtain ⟨b2, o2, rfl, p0, p1⟩ := hY.out.at hjl
              obtain ⟨q1, q2, q3, q4⟩ := GS.out _ (List.getElem_mem hjl)
              obtain ⟨z, hz⟩ : ∃ z, z = Lk[j] := ⟨_, rfl⟩
              rw [← hz] at p0 p1 q1 q2 q3 q4
              obtain ⟨x, y⟩ := z
              dsimp only at p0 p1 q1 q2 q3 q4
              have hal2 := below_alloc (Below.refl _ wr) (.cells #[.int .i64 x, .int .i64 y] 52)
              have S4 := Lib.hid (hS.out.call hal2)
              have Y4 := Lib.hid (hY.out.call hal2)
              have HJL := Lib.hid hjl
              clear hal2 hz hjl
              have q5 : (rw0 != rw0) = false := by cases rw0 <;> rfl
              rcases q1 with rfl | rfl
              all_goals
                go_wp2_with fail
                go_roundw
                case rel => exact ⟨j + 1, HJL.out, by go_num, S4, Y4⟩
                case measure => have := HJL.out; simp [intOf]; omega
            · have hjn : j = Lk.length := by omega
              subst hjn
              obtain ⟨c0, c1, c2, c3, c4, c5, c6, c7, c8, c9⟩ := l5c hS.out.box
              cases my with
              | false =>
                go_wp2_with (first | (go_at_call 29; (with_reducible refine (kp _).mono ?_); rintro e wn ⟨rfl, rfl⟩))
                go_roundw
                case rel => exact ⟨k + 1, HLT.out, by go_num, hS⟩
                case measure => have := HLT.out; simp [intOf]; omega
              | true =>
                by_cases hkd : kd = 2
                · obtain ⟨l0, hl0⟩ := G3.out hkd rfl
                  have hln : Lk.length = l0.length + 4 := by rw [hl0]; simp
                  have hdr : Lk.drop l0.length = [(18, 1), (18, 0), (18, 1), (18, 0)] := by rw [hl0]; simp
                  obtain ⟨b2, o2, rfl, -, -⟩ := hY.out.at (show 0 < Lk.length by omega)
                  have hpart := holdsY_part hY.out l0.length
                  rw [hdr] at hpart
                  have kSS := fun (W : World) (t : Option Addr) (m1 m3 : Nat) (h1 : HoldsY W (some ⟨b2, o2 + l0.length * 2, none⟩) [(18, 1), (18, 0), (18, 1), (18, 0)]) (h2 : HoldsY W t [(18, 1), (18, 0), (18, 1), (18, 0)]) => sameS_t W [(18, 1), (18, 0), (18, 1), (18, 0)] (some ⟨b2, o2 + l0.length * 2, none⟩) t m1 m3 h1 h2 (by decide)
                  have hal2 := below_alloc (Below.refl _ wr) (.cells #[.int .i64 18, .int .i64 1, .int .i64 18, .int .i64 0, .int .i64 18, .int .i64 1, .int .i64 18, .int .i64 0] 52)
                  have kS2 : Calls Tryd.prog 20 #[.slice (some ⟨b2, o2 + l0.length * 2, none⟩) 4 (mk - l0.length), .slice (some ⟨wr.heap.size, 0, none⟩) 4 4] (wr.alloc (.cells #[.int .i64 18, .int .i64 1, .int .i64 18, .int .i64 0, .int .i64 18, .int .i64 1, .int .i64 18, .int .i64 0] 52)) fun e w' => e = .returned (.bool true) ∧ Dn (wr.alloc (.cells #[.int .i64 18, .int .i64 1, .int .i64 18, .int .i64 0, .int .i64 18, .int .i64 1, .int .i64 18, .int .i64 0] 52)) w' := kSS _ _ (mk - l0.length) 4 (hpart.call hal2) (chk_lit wr)
                  have S4 := Lib.hid (hS.out.call hal2)
                  have ln0 : l0.length ≤ 20000 := by have := HG2.out; omega
                  have w4 : IntKind.i64.wrap ((Lk.length : Int) - 4) = (l0.length : Int) := by rw [IntWalk.i64_left]; unfold wrap64; omega
                  have n4 : ¬ (Lk.length : Int) < 4 := by omega
                  have hm1 : l0.length + 4 ≤ mk := by have := DM.out; omega
                  subst hkd
                  have hsub : Lk.length - l0.length = 4 := by omega
                  have hle : l0.length ≤ Lk.length := by omega
                  clear hpart kSS hal2 hl0 hdr hln
                  generalize l0.length = n0 at *
                  have n5 : (n0 : Int) ≤ (Lk.length : Int) := by omega
                  clear DY Y3 DM HG2 GS G3
                  generalize hNL : Lk.length = NL at *
                  clear hNL
                  go_wp2_with (first | (go_at_call 29; (with_reducible refine (kp _).mono ?_); rintro e wn ⟨rfl, rfl⟩) | (go_at_call 20; (with_reducible refine kS2.mono ?_); rintro e w5 ⟨rfl, hd⟩; have S5 := Lib.hid (S4.out.call hd.below); clear hd))
                  go_roundw
                  case rel => exact ⟨k + 1, HLT.out, by go_num, S5⟩
                  case measure => have := HLT.out; simp [intOf]; omega
                · have e2 : (kd == 2) = false := by simpa using hkd
                  clear hkd
                  go_wp2_with (first | (go_at_call 29; (with_reducible refine (kp _).mono ?_); rintro e wn ⟨rfl, rfl⟩))
                  go_roundw
                  case rel => exact ⟨k + 1, HLT.out, by go_num, hS⟩
                  case measure => have := HLT.out; simp [intOf]; omega
        · have hkn : k = Ls.length := by omega
          subst hkn
          go_wp2_with (first | (go_at_call 16; (with_reducible refine (hE hS.out.below).mono ?_); rintro e w2 ⟨rfl, hb2⟩; have H9 := Lib.hid (below_call hS.out.below hb2); clear hb2))
          go_ret
          exact ⟨rfl, H9.out⟩
    · rw [decide_eq_false ho] at kV
      clear hs HSM HOKV K K1 hal MB hbv hT hok ho hfit hlen hl144 hp60 w12 h12
      go_enter Tryd.func6, Tryd.ntmps6
      go_wp2_with (first | (go_at_call 15; (with_reducible refine kS.mono ?_); rintro e w1 ⟨rfl, hb⟩; have H1 := Lib.hid (below_call HA.out hb); have B1 := Lib.hid (HMB.out.below hb); obtain ⟨c0, c1, c2, c3, c4, c5, c6, c7, c8, c9⟩ := l5c B1.out; clear hb) | (go_at_call 27; (with_reducible refine (kV _).mono ?_); rintro e wn ⟨rfl, rfl⟩) | (go_at_call 16; (with_reducible refine (hE H1.out).mono ?_); rintro e w2 ⟨rfl, hb2⟩; have H2 := Lib.hid (below_call H1.out hb2); clear hb2))
      go_ret
      exact ⟨rfl, H2.out⟩
  · obtain ⟨w, h, s, l, cp, sf, fl, cf, o, ⟨mb, mr, ms, mc, my⟩⟩ := b
    rw [decide_eq_false hs] at kS
    unfold BV.val BV.cs at *
    dsimp only at *
    have HA := Lib.hid hal
    have HMB := Lib.hid MB
    clear hs HSM HOKV K K1 hal MB hbv hT
    go_enter Tryd.func6, Tryd.ntmps6
    go_wp2_with (first | (go_at_call 15; (with_reducible refine kS.mono ?_); rintro e w1 ⟨rfl, hb⟩; have H1 := Lib.hid (below_call HA.out hb); clear hb) | (go_at_call 16; (with_reducible refine (hE H1.out).mono ?_); rintro e w2 ⟨rfl, hb2⟩; have H2 := Lib.hid (below_call H1.out hb2); clear hb2))
    go_ret
    exact ⟨rfl, H2.out⟩

set_option maxRecDepth 100000 in
theorem lifted (os : Os) (started : os.Started) (H : Type) (enc : TypeId × Value → H) :
    ReturnsInHanded {} Tryd.checked os 6 .any (fun w args => (Rows.encpassShapeSpec.pre enc Tryd.prog Tryd.f6 Rows.encpassShapeRow.domain false w args ∧ laidMetH Tryd.prog Rows.encpassShapeRow.laid w) ∧ sizedMet enc Tryd.prog Tryd.f6 (OpenSpec.ofChange Rows.encpassShapeSpec) false w args)
      (Rows.encpassShapeSpec.post enc Tryd.prog Tryd.f6 false true false false) := by
  refine returnsInHanded_of_change_and (C := Tryd.checked) (X := fun w _ => laidMetH Tryd.prog Rows.encpassShapeRow.laid w) (fun _ _ _ hh h => h.of_heap hh) own started (by kernel_rfl) Tryd.func6
    (ChangeSpec.witness_shaped (enc := enc) (C := Tryd.checked) (os := os) (X := fun w _ => laidMetH Tryd.prog Rows.encpassShapeRow.laid w) false (World.laidAll Tryd.prog os Rows.encpassShapeRow.laid) #[.agg #[.int .i64 0, .int .i64 0, .slice none 0 0, .slice none 0 0, .int .i64 0, .bool false, .bool false, .bool false, .bool false, .bool false]] 8 (World.laidAll_os _ _ _)
      (World.shaped_of_ZipB (by kernel_rfl) (by kernel_rfl)) (by kernel_rfl) (by kernel_rfl) (by kernel_rfl)
      (by rw [MakeChecks.laidMetH_plain _ _ _ (by kernel_rfl)]; exact laidMet_laidAll _ (by kernel_rfl) (by kernel_rfl))) ?_
  intro W base args ds gs before hval0 hW _ _ hL _
  have hval : ∀ (j : Nat) t v, Tryd.f6.params[j]? = some t → args[j]? = some v → Value.okWide Tryd.prog W .any base t v := hval0
  have hT : Cx.Tabs W := Cx.tabs_of_laid hL
  have hW' := hW
  obtain ⟨p, q, hA0, hV, rfl, _, _⟩ := hW
  have hA : DataW.TrodAll enc Tryd.prog W 0 (fun _ => true) true Tryd.f6.params.toList args.toList ds p := hA0
  rw [Tryd.params6] at hA hval
  obtain ⟨v0, vs0, d0, ds0, p0, q0, hargs, rfl, rfl, h0, r0⟩ := trodAll_cons hA
  obtain ⟨rfl, rfl, rfl⟩ := trodAll_nil r0
  obtain rfl : args = #[v0] := by cases args; simp_all
  obtain ⟨rfl, rfl⟩ := trodVars_none hV
  clear hA0 hval0
  simp only [List.append_nil] at hW'
  have l0 : ∀ x ∈ p0, x.block < W.heap.size := fun x hx => hW'.lt x (by simp [hx])
  obtain ⟨B0, rfl, hB0⟩ := open_L5 (hval 0 28 v0 rfl rfl) h0
  refine (walk B0 W hT hB0).mono fun e W' ⟨he, hb⟩ => ?_
  subst he
  exact ⟨_, rfl, post_low (pa := p0 ++ ([])) (pv := []) hW' (fun _ _ _ => (trodAll_cons_mk (shut_bool Tryd.underlying4 _) trodAll_mk0)) (fun sp hsp => (trodAll_cons_mk (trod_low laidOut (by kernel_rfl) (of_decide_eq_true (by kernel_rfl)) h0 hb l0 (fun x hx => hsp x (by simp [hx]))) trodAll_mk0)) (fun _ _ => rfl) (by simp) hb (ok_one (by kernel_rfl) rfl (okWide_bool_mk Tryd.underlying4 _))⟩

theorem over : Rows.encpassShapeRow.holds Tryd.pinned (OpenSpec.ofChange Rows.encpassShapeSpec) :=
  OpenClaim.holds_of_wide 6 Tryd.f6 rfl rfl rfl rfl rfl rfl rfl ⟨rfl, rfl, rfl, rfl, rfl⟩ rfl rfl rfl rfl rfl (by kernel_rfl) Tryd.func6 (by kernel_rfl)
    (of_decide_eq_true (by kernel_rfl)) (by unfold Func.isWrapper; first | (rw [if_pos (by decide +kernel)]; kernel_rfl) | (rw [if_neg (by decide +kernel)]; exact ⟨rfl, rfl⟩))
    (fun os started H enc _ => lifted os started H enc)
theorem proved : Rows.EncpassShapeCardSaid :=
  Claim7.holds_tied_plain_at .later [] [.data, .data, .data] true Rows.encpassShapeCard.stood.harness false over (fun _ h => by cases h) (by kernel_rfl) (fun _ h => by cases h) encpassShape_row_tie rfl ⟨rfl, rfl⟩ (by kernel_rfl) rfl
    (fun f fn hf hfn => by
      obtain rfl : f = 6 := Option.some.inj ((show Tryd.prog.funcNamed Rows.encpassShapeRow.func = some 6 by kernel_rfl).symm.trans hf) |>.symm
      obtain rfl : fn = Tryd.f6 := (Option.some.inj (Tryd.func6.symm.trans hfn)).symm
      exact ⟨by kernel_rfl, fun j t ht => by
        rw [Tryd.params6] at ht
        have hm : t ∈ [28] := by simpa using Array.mem_of_getElem? ht
        have hall : ([28].all fun u => !Tryd.prog.wantsStandIn u) = true := by kernel_rfl
        exact (show Tryd.prog.wantsStandIn t = false by simpa using List.all_eq_true.1 hall t hm)⟩)
    (by kernel_rfl)
#print axioms proved
end Go.Proofs.YtbhjapgioaiocaaDoor.encpassShape
