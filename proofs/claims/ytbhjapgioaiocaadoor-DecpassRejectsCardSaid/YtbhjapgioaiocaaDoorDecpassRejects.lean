/-
  For all blocks and numbers the statement DecpassRejects returns true; they read afterwards as before.
  Conditions: none beyond those of the given statement (the listed variables are tied by the card).
-/
import Derived.Test.YtbhjapgioaiocaaDoorDq
import Derived.Test.YtbhjapgioaiocaaDoorTie
import Derived.Test.YtbhjapgioaiocaaDoorCards
import Derived.LaidMore
import Derived.Lay
import Derived.SevenTiedAt
import Derived.Stop.Joined
set_option maxRecDepth 100000
namespace Go.Proofs.YtbhjapgioaiocaaDoor.decpassRejects
open Go.ChangeShapes Go.WideShapes Go.ChangeAt Go.RowKit Go.Joins Go.Deep

theorem infoS6 : (Tryd.prog.info? 52).map (fun i => (i.zero, i.size, i.bytes)) = some (some (.agg #[.int .i64 0, .int .i64 0]), 2, 16) := by kernel_rfl
theorem infoSs6 : (Tryd.prog.info? 35).map (fun i => (i.zero, i.size, i.bytes)) = some (some (.slice none 0 0), 1, 24) := by kernel_rfl
theorem one_cells (l : List Sy) : ∀ u ∈ cellsP l, u.oneCell' = true := by
  intro u hu
  unfold cellsP at hu
  obtain ⟨p, _, hu⟩ := List.mem_flatMap.1 hu
  simp at hu
  rcases hu with rfl | rfl <;> rfl
theorem news_sy {w w1 : World} {b off : Nat} {l : List Sy} (h : HoldsY w (some ⟨b, off, none⟩) l) (hb : Below w.heap.size w w1) : ∀ j u, (cellsP l)[j]? = some u → w1.cell? ((⟨b, off, none⟩ : Addr).add j) = some u := by
  intro j u hu
  have hj : j < l.length * 2 := by have := (List.getElem?_eq_some_iff.1 hu).1; rwa [cellsP_len] at this
  have e : (⟨b, off, none⟩ : Addr).add j = ⟨b, off + j, none⟩ := by simp [Addr.add]
  rw [e]
  rcases h with rfl | ⟨b', o', e2, hr⟩
  · simp at hj
  · cases e2
    have hk : j / 2 < l.length := by omega
    obtain ⟨c1, c2⟩ := hr (j / 2) hk
    obtain ⟨d1, d2⟩ := cellsP_at l (j / 2) hk
    rcases Nat.mod_two_eq_zero_or_one j with h2 | h2
    · have ej : j / 2 * 2 = j := by omega
      rw [ej] at c1 d1
      rw [hu] at d1
      cases d1
      exact (hb.cell (p := ⟨b, off + j, none⟩) (cell_lt c1)).trans c1
    · have ej : j / 2 * 2 + 1 = j := by omega
      have ej2 : off + j / 2 * 2 + 1 = off + j := by omega
      rw [ej2] at c2
      rw [ej] at d2
      rw [hu] at d2
      cases d2
      exact (hb.cell (p := ⟨b, off + j, none⟩) (cell_lt c2)).trans c2
theorem rej_facts {Ls : List (List Sy)} {L : List Sy} {n : Nat} (hn : n < Ls.length) (hL : L = Ls[n]) {w : World} {s : Option Addr} {m : Nat} (hW : HoldsW w s Ls) (hm : Ls.length ≤ m) : ∃ b off sk mk, s = some ⟨b, off, none⟩ ∧ w.cell? ⟨b, off + n, none⟩ = some (.slice sk L.length mk) ∧ HoldsY w sk L ∧ L.length ≤ mk ∧ Hz w b off Ls ∧ (n : Int) ≤ (m : Int) ∧ n ≤ m := by
  obtain ⟨b, off, rfl, hz⟩ := hz_of hW (by omega)
  obtain ⟨sk, mk, h1, h2, h3⟩ := hz.at' n hn
  rw [← hL] at h1 h2 h3
  exact ⟨b, off, sk, mk, rfl, h1, h2, h3, hz, by omega, by omega⟩
theorem own2_form {w : World} {base n z : Nat} {e : TypeId} {v : Value} {xs : List Value} (h : w.ownsRow base e z v n xs) (hn : 0 < n) : ∃ g cap, v = .slice (some ⟨g, 0, none⟩) n cap ∧ base ≤ g ∧ n ≤ cap := by
  rcases h.2 with ⟨_, h0⟩ | ⟨g, cap, cur, hv, hb, _, hc, _⟩
  · omega
  · exact ⟨g, cap, hv, hb, hc⟩
theorem one_new9 (w : World) (x : Value) (t : TypeId) (k : Nat) (hk : k = w.heap.size) : ∀ j u, [x][j]? = some u → (w.alloc (.cells #[x] t)).cell? ((⟨k, 0, none⟩ : Addr).add j) = some u := by subst hk; exact cell_one_new w x t
theorem size_set (w : World) (p : Addr) (u : Value) : (w.setCell p u).heap.size = w.heap.size := by simp [World.setCell]
/-- What the law holds ahead of its switch: the row of headers, the row of symbols. -/
structure Rj (W w2 w : World) (hd : List Value) (n : Nat) (L : List Sy) (g3 c3 g4 c4 : Nat) (cs : Array Value) : Prop where
  below : Below w2.heap.size w2 w
  box : Blk w W.heap.size 68 cs
  a : w.ownsRow w2.heap.size 35 1 (.slice (some ⟨g3, 0, none⟩) n c3) n hd
  s : w.ownsRow w2.heap.size 52 2 (.slice (some ⟨g4, 0, none⟩) L.length c4) L.length (cellsP L)
set_option maxHeartbeats 16000000 in
theorem walk (b : BV) (pass a how : Int) (W : World) (hT : Cx.Tabs W) (K : BVk W b) : Calls Tryd.prog 13 #[b.val, .int .i64 pass, .int .i64 a, .int .i64 how] W fun e w' => e = .returned (.bool true) ∧ Below W.heap.size W w' := by
  have hE := fun {w1 : World} (hb : Below W.heap.size W w1) => ex16_c w1 (hT.below hb)
  have HT := Lib.hid hT
  have hal := below_alloc (Below.refl _ W) (.cells b.cs 68)
  have K1 := K.call hal
  have kS := small6_c b _ K1
  have MB := Blk.new W 68 b.cs
  have kP := xplanes_c b.s b.l b.cp (W.alloc (.cells b.cs 68)) K1.h K1.r (by have := K1.len; omega)
  have kV := fun W => xvalid_c b.o W
  have HA := Lib.hid hal
  have HMB := Lib.hid MB
  have HK := Lib.hid K
  have hmx := hmx
  obtain ⟨c0, c1, c2, c3, c4, c5, c6, c7, c8, c9⟩ := l6c MB
  by_cases hs : b.small
  · obtain ⟨w0, h0, hw, hh, w12, h12, hfit, hlen, hl144, hp60⟩ := small_ok6 hs
    have hok := okV_all6 K.r hp60
    rw [decide_eq_true hs] at kS
    obtain ⟨w, h, s, l, cp, sf, fl, cf, o, ⟨mb, mr, ms, mc, my⟩⟩ := b
    dsimp only at hw hh hlen hl144 hp60 hok
    subst hw hh
    unfold BV.val BV.cs at *
    dsimp only at *
    by_cases ho : 0 ≤ o ∧ o ≤ 3
    · rw [decide_eq_true ho] at kV
      have hp60' : ((plnN l : Nat) : Int) ≤ 60 := by omega
      have wp1 : IntKind.i64.wrap (3 * (plnN l : Int)) = 3 * (plnN l : Int) := by rw [IntWalk.i64_left]; unfold wrap64; omega
      have wp2 : IntKind.i64.wrap (3 * (plnN l : Int) - 2) = 3 * (plnN l : Int) - 2 := by rw [IntWalk.i64_left]; unfold wrap64; omega
      by_cases hq : pass < 0 ∨ (¬ pass < 0 ∧ max 0 (3 * (plnN l : Int) - 2) ≤ pass) ∨ (¬ pass < 0 ∧ ¬ max 0 (3 * (plnN l : Int) - 2) ≤ pass ∧ a < 0)
      · generalize plnN l = pl at *
        clear hs K K1 hal MB hT hok ho hfit hlen hl144 hp60 hp60' w12 h12 HK
        rcases hq with q1 | ⟨q1, q2⟩ | ⟨q1, q2, q3⟩
        all_goals
          go_enter Tryd.func13, Tryd.ntmps13
          go_wp2_with (first | (go_at_call 26; (with_reducible refine kP.mono ?_); rintro e wn ⟨rfl, rfl⟩) | (go_at_call 35; (with_reducible refine kS.mono ?_); rintro e w1 ⟨rfl, hb⟩; have H1 := Lib.hid (below_call HA.out hb); have B1 := Lib.hid (HMB.out.below hb); obtain ⟨c0, c1, c2, c3, c4, c5, c6, c7, c8, c9⟩ := l6c B1.out; clear hb) | (go_at_call 27; (with_reducible refine (kV _).mono ?_); rintro e wn ⟨rfl, rfl⟩) | (go_at_call 31; (with_reducible refine (hE H1.out).mono ?_); rintro e w2 ⟨rfl, hb⟩; have H2 := Lib.hid (below_call H1.out hb); clear hb))
          go_ret
          exact ⟨rfl, H2.out⟩
      · have q1 : ¬ pass < 0 := by omega
        have q2 : ¬ max 0 (3 * (plnN l : Int) - 2) ≤ pass := by omega
        have q3 : ¬ a < 0 := by omega
        obtain ⟨n, rfl⟩ : ∃ n : Nat, pass = n := ⟨pass.toNat, by omega⟩
        obtain ⟨at', rfl⟩ : ∃ n : Nat, a = n := ⟨a.toNat, by omega⟩
        have hnp : n < 3 * plnN l - 2 := by omega
        obtain ⟨Ls, hLs⟩ : ∃ L, L = symL w0 h0 (plnN l) o ⟨mb, mr, ms, mc, my⟩ (setV w0 h0 l l.length) (3 * plnN l - 2) := ⟨_, rfl⟩
        have hLl : Ls.length = 3 * plnN l - 2 := by rw [hLs, symL_len]
        have hnl : n < Ls.length := by omega
        have k1 := fun w1 (hb : Below W.heap.size W w1) => symbols_c3 s l cp w0 h0 o ⟨mb, mr, ms, mc, my⟩ w1 hfit hlen ho (HK.out.call hb).h (HT.out.below hb) HK.out.r 0 Ls (fun ⟨v, hv, hn⟩ => absurd (hok v hv) hn) (fun _ => ⟨rfl, hLs⟩)
        have hsz : Ls[n].length ≤ 20000 := by
          subst hLs
          rw [symL_at]
          exact sym_len _ _ _ _ _ _ _ (by omega) (by omega)
        obtain ⟨L, hL⟩ : ∃ L, L = Ls[n] := ⟨_, rfl⟩
        have hR : ∀ (ha : at' < L.length) (hw : Int), valC w0 h0 (plnN l) o ⟨mb, mr, ms, mc, my⟩ (Ls.take n ++ [rejL L at' hw L[at']]) = 8 := fun ha hw => by subst hL; exact val_rej w0 h0 l o ⟨mb, mr, ms, mc, my⟩ hfit hok hp60 ho n hnp Ls hLs hnl at' ha hw
        have kD := fun w1 (hb : Below W.heap.size W w1) (s2 : Option Addr) (m2 : Nat) (X : List (List Sy)) (hx : valC w0 h0 (plnN l) o ⟨mb, mr, ms, mc, my⟩ X = 8) (hW : HoldsW w1 s2 X) => (show Calls Tryd.prog 32 #[.slice s2 X.length m2, .int .i64 (plnN l : Int), .int .i64 (w0 : Int), .int .i64 (h0 : Int), .int .i64 o, .agg #[.bool mb, .bool mr, .bool ms, .bool mc, .bool my]] w1 (VG w1 [] [] 8) by
          have := dval_c s2 m2 X (plnN l) w0 h0 o ⟨mb, mr, ms, mc, my⟩ w1 (HT.out.below hb) hW
          have e1 : valV w0 h0 (plnN l) o ⟨mb, mr, ms, mc, my⟩ X = [] := by unfold valV; rw [hx]; rfl
          have e2 : valM2 w0 h0 (plnN l) o ⟨mb, mr, ms, mc, my⟩ X = [] := by unfold valM2; rw [hx]; rfl
          rw [e1, e2, hx] at this
          exact this)
        unfold Mo.val at k1
        dsimp only at k1
        have nle : ¬ (Ls.length : Int) ≤ (n : Int) := by omega
        have HR := Lib.hid hR
        have HNL := Lib.hid hnl
        have RF := Lib.hid (fun (w : World) (s : Option Addr) (m : Nat) (hW : HoldsW w s Ls) (hm : Ls.length ≤ m) => rej_facts hnl hL hW hm)
        have HLL := Lib.hid (show L.length ≤ 20000 by rw [hL]; exact hsz)
        have H178 := Lib.hid (show n ≤ 178 by omega)
        generalize plnN l = pl at *
        clear hs K K1 hal MB hT hok ho hfit hlen hl144 hp60 hp60' hLs w12 h12 hLl hnp hsz hR hq hnl hL
        by_cases hat : L.length ≤ at'
        · have hge : (L.length : Int) ≤ (at' : Int) := by omega
          clear hat
          go_enter Tryd.func13, Tryd.ntmps13
          go_wp2_with (first | (go_at_call 26; (with_reducible refine kP.mono ?_); rintro e wn ⟨rfl, rfl⟩) | (go_at_call 35; (with_reducible refine kS.mono ?_); rintro e w1 ⟨rfl, hb⟩; have H1 := Lib.hid (below_call HA.out hb); have B1 := Lib.hid (HMB.out.below hb); obtain ⟨c0, c1, c2, c3, c4, c5, c6, c7, c8, c9⟩ := l6c B1.out; clear hb) | (go_at_call 27; (with_reducible refine (kV _).mono ?_); rintro e wn ⟨rfl, rfl⟩) | (go_at_call 22; (with_reducible refine (k1 _ H1.out).mono ?_); rintro e w2 ⟨v2, rfl, hS, hb⟩; obtain ⟨s2, m2, rfl, hz2, hm2⟩ := ss_holdsW hS; have Z2 := Lib.hid hz2; have M2 := Lib.hid hm2; have H2 := Lib.hid (below_call H1.out hb); have B2 := Lib.hid (B1.out.below hb); clear c0 c1 c2 c3 c4 c5 c6 c7 c8 c9; obtain ⟨c0, c1, c2, c3, c4, c5, c6, c7, c8, c9⟩ := l6c B2.out; obtain ⟨b2, o2, sk, mk, rfl, x1, -, -, -, cap2, -⟩ := RF.out _ _ _ hz2 hm2; clear hb hS hz2 hm2) | (go_at_call 31; (with_reducible refine (hE H2.out).mono ?_); rintro e w3 ⟨rfl, hb⟩; have H3 := Lib.hid (below_call H2.out hb); clear hb))
          go_ret
          exact ⟨rfl, H3.out⟩
        · have hlt : ¬ (L.length : Int) ≤ (at' : Int) := by omega
          have HAT := Lib.hid (show at' < L.length by omega)
          obtain ⟨i0, hi, hz0, hz1, hz2⟩ := info2_parts infoS6
          obtain ⟨j0, hj, hy0, hy1, hy2⟩ := info2_parts infoSs6
          clear hat
          go_enter Tryd.func13, Tryd.ntmps13
          go_wp2_with (first | (go_at_call 26; (with_reducible refine kP.mono ?_); rintro e wn ⟨rfl, rfl⟩) | (go_at_call 35; (with_reducible refine kS.mono ?_); rintro e w1 ⟨rfl, hb⟩; have H1 := Lib.hid (below_call HA.out hb); have B1 := Lib.hid (HMB.out.below hb); obtain ⟨c0, c1, c2, c3, c4, c5, c6, c7, c8, c9⟩ := l6c B1.out; clear hb) | (go_at_call 27; (with_reducible refine (kV _).mono ?_); rintro e wn ⟨rfl, rfl⟩) | (go_at_call 22; (with_reducible refine (k1 _ H1.out).mono ?_); rintro e w2 ⟨v2, rfl, hS, hb⟩; obtain ⟨s2, m2, rfl, hz2, hm2⟩ := ss_holdsW hS; have Z2 := Lib.hid hz2; have M2 := Lib.hid hm2; have H2 := Lib.hid (below_call H1.out hb); have B2 := Lib.hid (B1.out.below hb); clear c0 c1 c2 c3 c4 c5 c6 c7 c8 c9; obtain ⟨c0, c1, c2, c3, c4, c5, c6, c7, c8, c9⟩ := l6c B2.out; obtain ⟨b2, o2, sk, mk, rfl, x1, x2, x3, x4, cap2, cap3⟩ := RF.out _ _ _ hz2 hm2; have HZ := Lib.hid x4; have N1 := Lib.hid (hz_news x4 (Nat.le_of_lt HNL.out) (Below.refl _ _)); have X2 := Lib.hid x2; have X3 := Lib.hid x3; clear hb hS hz2 hm2 x2 x3 x4) | (at_builtin; refine wpList_append_own_at _ rfl _ _ 43 rfl w2.heap.size 35 j0 (.slice none 0 0) 1 24 Tryd.underlying43 hj hy0 hy1 hy2 rfl (by decide) _ 0 [] rfl (World.ownsRow_nil _ _ _ _) ⟨b2, o2, none⟩ n m2 (hdrs w2 b2 o2 n) rfl (by rw [hdrs_len, Nat.mul_one]) N1.out.1 N1.out.2 (by have := H178.out; unfold maxLen; omega) (by have := H178.out; omega) (Nat.le_refl _) ?_))
          intro v3 w3 hown hgrow _ _
          obtain ⟨s3, p3, rfl⟩ := own2_slice hown
          have W23 := Lib.hid ((Below.refl w2.heap.size w2).grown hgrow (Nat.le_refl _) (fun k h => by cases h))
          have O3 := Lib.hid hown
          have B3 := Lib.hid (B2.out.below W23.out)
          have x1 := (W23.out.cell (p := ⟨b2, o2 + n, none⟩) (cell_lt x1)).trans x1
          clear hown hgrow c0 c1 c2 c3 c4 c5 c6 c7 c8 c9
          obtain ⟨bk, ok, rfl, -, -⟩ := X2.out.at (show 0 < L.length by have := HAT.out; omega)
          have x1a := fun X => cell_alloc x1 X
          have E4 := Lib.hid (World.ownsRow_lit (base := w2.heap.size) (e := 52) (size := 2) w3 #[] 0 W23.out.size (by decide) rfl)
          have H4 := Lib.hid (below_alloc W23.out (.cells #[] 52))
          have NY := Lib.hid (fun w1 (hb : Below w2.heap.size w2 w1) => news_sy X2.out hb)
          have CY := Lib.hid (one_cells L)
          go_wp2_with (first | (at_builtin; refine wpList_append_own_at _ rfl _ _ 35 rfl w2.heap.size 52 i0 (.agg #[.int .i64 0, .int .i64 0]) 2 16 Tryd.underlying35 hi hz0 hz1 hz2 rfl (by decide) _ 0 [] rfl E4.out ⟨bk, ok, none⟩ L.length mk (cellsP L) rfl (cellsP_len _) (fun j u hu => NY.out _ H4.out j u hu) CY.out (by have := HLL.out; unfold maxLen; omega) (by have := HLL.out; omega) H4.out.size ?_))
          intro v4 w4 hown hgrow _ hat
          have O4 := Lib.hid (show w4.ownsRow w2.heap.size 52 2 v4 L.length (cellsP L) by simpa using hown)
          have O3b := Lib.hid (own_other0 (by decide) (own2_below O3.out (below_alloc (Below.refl w3.heap.size w3) (.cells #[] 52))) E4.out hgrow)
          have W24 := Lib.hid (H4.out.grown hgrow H4.out.size (fun k h => by simp [Value.ownBlock] at h; have := W23.out.size; omega))
          have B4 := Lib.hid (B2.out.below W24.out)
          obtain ⟨g4, p4, rfl, -, hp4⟩ := own2_form O4.out (show 0 < L.length by have := HAT.out; omega)
          have HP4 := Lib.hid hp4
          clear hown hgrow hat x1 x1a NY CY E4 H4 hp4
          have hat1 : (at' : Int) < (L.length : Int) := by have := HAT.out; omega
          have hmod : how % 4 = 0 ∨ how % 4 = 1 ∨ how % 4 = 2 ∨ how % 4 = 3 := by omega
          rcases hmod with hm | hm | hm | hm
          · have ha : bits .and .i64 how 3 = 0 := by rw [and3, hm]
            have HM := Lib.hid hm
            clear hm
            have hc := O4.out.cellAt (at' * 2) (by have := HAT.out; omega)
            have hfz := fun j => O4.out.frozenAt j
            rw [(cellsP_at L at' HAT.out).1] at hc
            obtain ⟨t1, t2⟩ := O4.out.stored (at' * 2) (.int .i64 30)
            rw [cellsP_set0 L at' HAT.out 30] at t1
            have S5 := Lib.hid (show (w4.setCell ⟨g4, at' * 2, none⟩ (.int .i64 30)).ownsRow w2.heap.size 52 2 (.slice (some ⟨g4, 0, none⟩) L.length p4) L.length (cellsP (L.set at' (30, L[at'].2))) from t1)
            have O5 := Lib.hid (own_other0 (v := .slice (some ⟨g4, 0, none⟩) L.length p4) (by decide) O3b.out O4.out t2)
            have W25 := Lib.hid (W24.out.grown t2 W24.out.size (fun k h => (own2_lt O4.out (show (Value.slice (some ⟨g4, 0, none⟩) L.length p4).ownBlock = some k from h)).1))
            have hsz5 : w4.heap.size = (w4.setCell ⟨g4, at' * 2, none⟩ (.int .i64 30)).heap.size := (size_set _ _ _).symm
            have HS5 := Lib.hid hsz5
            clear t1 t2 hsz5
            go_wp2_with (first | (at_builtin; refine wpList_append_own_at _ rfl _ _ 43 rfl w2.heap.size 35 j0 (.slice none 0 0) 1 24 Tryd.underlying43 hj hy0 hy1 hy2 rfl (by decide) _ n _ rfl (own2_below O5.out ((Below.refl _ _).alloc (Nat.le_refl _) _)) ⟨w4.heap.size, 0, none⟩ 1 1 [.slice (some ⟨g4, 0, none⟩) L.length p4] rfl rfl (one_new9 _ _ _ _ HS5.out) (by intro u hu; simp at hu; subst hu; rfl) (by have := H178.out; unfold maxLen; omega) (by have := H178.out; omega) (by have := W25.out.size; rw [alloc_size]; omega) ?_))
            intro v7 w7 hown hgrow _ _
            obtain ⟨g7, p7, rfl, -, -⟩ := own2_form hown (Nat.succ_pos _)
            have S7 := own_other (by decide) S5.out O5.out hgrow
            have Y7 := (own_holdsY S7).2
            have W27 := Lib.hid ((W25.out.alloc W25.out.size (.cells #[.slice (some ⟨g4, 0, none⟩) L.length p4] 35)).grown hgrow (by have := W25.out.size; rw [alloc_size]; omega) fun i hi => (own2_lt O5.out hi).1)
            have hval := HR.out HAT.out (how % 4)
            rw [HM.out] at hval
            have hval2 : valC w0 h0 pl o ⟨mb, mr, ms, mc, my⟩ (Ls.take n ++ [L.set at' (30, L[at'].2)]) = 8 := hval
            have hll : (L.set at' (30, L[at'].2)).length = L.length := by exact List.length_set ..
            have HW7 := rej_row (L := L.set at' (30, L[at'].2)) HZ.out (Nat.le_of_lt HNL.out) W27.out (by rw [hll]; exact hown) Y7 (by rw [hll]; have := HP4.out; omega)
            have hl7 : (Ls.take n ++ [L.set at' (30, L[at'].2)]).length = n + 1 := by rw [List.length_append, List.length_take, Nat.min_eq_left (Nat.le_of_lt HNL.out)]; rfl
            have H7 := Lib.hid (below_call H2.out W27.out)
            have kD7 := kD w7 H7.out (some ⟨g7, 0, none⟩) p7 _ hval2 HW7
            rw [hl7] at kD7
            have B7 := B2.out.below W27.out
            obtain ⟨c0, c1, c2, c3, c4, c5, c6, c7, c8, c9⟩ := l6c B7
            clear hown hgrow S7 Y7 HW7 hval hval2 hl7 B7 hll
            go_wp2_with (first | (go_at_call 32; (with_reducible refine kD7.mono ?_); rintro e w8 ⟨v8, u8, rfl, hS, hb⟩; obtain ⟨s8, m8, rfl, -⟩ := tw_holdA 0 rfl hS; obtain ⟨s9, m9, rfl, -⟩ := tw_holdB 0 rfl hS; have H8 := Lib.hid (below_call H7.out hb); clear hb hS) | (go_at_call 31; (with_reducible refine (hE H8.out).mono ?_); rintro e w9 ⟨rfl, hb⟩; have H9 := Lib.hid (below_call H8.out hb); clear hb))
            go_ret
            exact ⟨rfl, H9.out⟩
          · have ha : bits .and .i64 how 3 = 1 := by rw [and3, hm]
            have HM := Lib.hid hm
            clear hm
            have hc := O4.out.cellAt (at' * 2 + 1) (by have := HAT.out; omega)
            have hfz := fun j => O4.out.frozenAt j
            rw [(cellsP_at L at' HAT.out).2] at hc
            obtain ⟨t1, t2⟩ := O4.out.stored (at' * 2 + 1) (.int .i64 2)
            rw [cellsP_set1 L at' HAT.out 2] at t1
            have S5 := Lib.hid (show (w4.setCell ⟨g4, at' * 2 + 1, none⟩ (.int .i64 2)).ownsRow w2.heap.size 52 2 (.slice (some ⟨g4, 0, none⟩) L.length p4) L.length (cellsP (L.set at' (L[at'].1, 2))) from t1)
            have O5 := Lib.hid (own_other0 (v := .slice (some ⟨g4, 0, none⟩) L.length p4) (by decide) O3b.out O4.out t2)
            have W25 := Lib.hid (W24.out.grown t2 W24.out.size (fun k h => (own2_lt O4.out (show (Value.slice (some ⟨g4, 0, none⟩) L.length p4).ownBlock = some k from h)).1))
            have hsz5 : w4.heap.size = (w4.setCell ⟨g4, at' * 2 + 1, none⟩ (.int .i64 2)).heap.size := (size_set _ _ _).symm
            have HS5 := Lib.hid hsz5
            clear t1 t2 hsz5
            go_wp2_with (first | (at_builtin; refine wpList_append_own_at _ rfl _ _ 43 rfl w2.heap.size 35 j0 (.slice none 0 0) 1 24 Tryd.underlying43 hj hy0 hy1 hy2 rfl (by decide) _ n _ rfl (own2_below O5.out ((Below.refl _ _).alloc (Nat.le_refl _) _)) ⟨w4.heap.size, 0, none⟩ 1 1 [.slice (some ⟨g4, 0, none⟩) L.length p4] rfl rfl (one_new9 _ _ _ _ HS5.out) (by intro u hu; simp at hu; subst hu; rfl) (by have := H178.out; unfold maxLen; omega) (by have := H178.out; omega) (by have := W25.out.size; rw [alloc_size]; omega) ?_))
            intro v7 w7 hown hgrow _ _
            obtain ⟨g7, p7, rfl, -, -⟩ := own2_form hown (Nat.succ_pos _)
            have S7 := own_other (by decide) S5.out O5.out hgrow
            have Y7 := (own_holdsY S7).2
            have W27 := Lib.hid ((W25.out.alloc W25.out.size (.cells #[.slice (some ⟨g4, 0, none⟩) L.length p4] 35)).grown hgrow (by have := W25.out.size; rw [alloc_size]; omega) fun i hi => (own2_lt O5.out hi).1)
            have hval := HR.out HAT.out (how % 4)
            rw [HM.out] at hval
            have hval2 : valC w0 h0 pl o ⟨mb, mr, ms, mc, my⟩ (Ls.take n ++ [L.set at' (L[at'].1, 2)]) = 8 := hval
            have hll : (L.set at' (L[at'].1, 2)).length = L.length := by exact List.length_set ..
            have HW7 := rej_row (L := L.set at' (L[at'].1, 2)) HZ.out (Nat.le_of_lt HNL.out) W27.out (by rw [hll]; exact hown) Y7 (by rw [hll]; have := HP4.out; omega)
            have hl7 : (Ls.take n ++ [L.set at' (L[at'].1, 2)]).length = n + 1 := by rw [List.length_append, List.length_take, Nat.min_eq_left (Nat.le_of_lt HNL.out)]; rfl
            have H7 := Lib.hid (below_call H2.out W27.out)
            have kD7 := kD w7 H7.out (some ⟨g7, 0, none⟩) p7 _ hval2 HW7
            rw [hl7] at kD7
            have B7 := B2.out.below W27.out
            obtain ⟨c0, c1, c2, c3, c4, c5, c6, c7, c8, c9⟩ := l6c B7
            clear hown hgrow S7 Y7 HW7 hval hval2 hl7 B7 hll
            go_wp2_with (first | (go_at_call 32; (with_reducible refine kD7.mono ?_); rintro e w8 ⟨v8, u8, rfl, hS, hb⟩; obtain ⟨s8, m8, rfl, -⟩ := tw_holdA 0 rfl hS; obtain ⟨s9, m9, rfl, -⟩ := tw_holdB 0 rfl hS; have H8 := Lib.hid (below_call H7.out hb); clear hb hS) | (go_at_call 31; (with_reducible refine (hE H8.out).mono ?_); rintro e w9 ⟨rfl, hb⟩; have H9 := Lib.hid (below_call H8.out hb); clear hb))
            go_ret
            exact ⟨rfl, H9.out⟩
          · have ha : bits .and .i64 how 3 = 2 := by rw [and3, hm]
            have HM := Lib.hid hm
            clear hm
            have S5 := O4
            have O5 := O3b
            have W25 := W24
            have wl : IntKind.i64.wrap ((L.length : Int) - 1) = ((L.length - 1 : Nat) : Int) := by have := HLL.out; have := HAT.out; rw [IntWalk.i64_left]; unfold wrap64; omega
            have cap4 : ((L.length - 1 : Nat) : Int) ≤ (p4 : Int) := by have := HP4.out; omega
            have cap5 : L.length - 1 ≤ p4 := by omega
            go_wp2_with (first | (at_builtin; refine wpList_append_own_at _ rfl _ _ 43 rfl w2.heap.size 35 j0 (.slice none 0 0) 1 24 Tryd.underlying43 hj hy0 hy1 hy2 rfl (by decide) _ n _ rfl (own2_below O5.out ((Below.refl _ _).alloc (Nat.le_refl _) _)) ⟨w4.heap.size, 0, none⟩ 1 1 [.slice (some ⟨g4, 0, none⟩) (L.length - 1) p4] rfl rfl (one_new9 _ _ _ _ rfl) (by intro u hu; simp at hu; subst hu; rfl) (by have := H178.out; unfold maxLen; omega) (by have := H178.out; omega) (by have := W25.out.size; rw [alloc_size]; omega) ?_))
            intro v7 w7 hown hgrow _ _
            obtain ⟨g7, p7, rfl, -, -⟩ := own2_form hown (Nat.succ_pos _)
            have S7 := own_other (by decide) S5.out O5.out hgrow
            have Y7 := (own_holdsY S7).2
            have W27 := Lib.hid ((W25.out.alloc W25.out.size (.cells #[.slice (some ⟨g4, 0, none⟩) (L.length - 1) p4] 35)).grown hgrow (by have := W25.out.size; rw [alloc_size]; omega) fun i hi => (own2_lt O5.out hi).1)
            have hval := HR.out HAT.out (how % 4)
            rw [HM.out] at hval
            have hval2 : valC w0 h0 pl o ⟨mb, mr, ms, mc, my⟩ (Ls.take n ++ [L.take (L.length - 1)]) = 8 := hval
            have hll : (L.take (L.length - 1)).length = (L.length - 1) := by rw [List.length_take]; omega
            have HW7 := rej_row (L := L.take (L.length - 1)) HZ.out (Nat.le_of_lt HNL.out) W27.out (by rw [hll]; exact hown) (holdsY_take Y7 _) (by rw [hll]; have := HP4.out; omega)
            have hl7 : (Ls.take n ++ [L.take (L.length - 1)]).length = n + 1 := by rw [List.length_append, List.length_take, Nat.min_eq_left (Nat.le_of_lt HNL.out)]; rfl
            have H7 := Lib.hid (below_call H2.out W27.out)
            have kD7 := kD w7 H7.out (some ⟨g7, 0, none⟩) p7 _ hval2 HW7
            rw [hl7] at kD7
            have B7 := B2.out.below W27.out
            obtain ⟨c0, c1, c2, c3, c4, c5, c6, c7, c8, c9⟩ := l6c B7
            clear hown hgrow S7 Y7 HW7 hval hval2 hl7 B7 hll
            go_wp2_with (first | (go_at_call 32; (with_reducible refine kD7.mono ?_); rintro e w8 ⟨v8, u8, rfl, hS, hb⟩; obtain ⟨s8, m8, rfl, -⟩ := tw_holdA 0 rfl hS; obtain ⟨s9, m9, rfl, -⟩ := tw_holdB 0 rfl hS; have H8 := Lib.hid (below_call H7.out hb); clear hb hS) | (go_at_call 31; (with_reducible refine (hE H8.out).mono ?_); rintro e w9 ⟨rfl, hb⟩; have H9 := Lib.hid (below_call H8.out hb); clear hb))
            go_ret
            exact ⟨rfl, H9.out⟩
          · have ha : bits .and .i64 how 3 = 3 := by rw [and3, hm]
            have HM := Lib.hid hm
            clear hm
            have hc := O4.out.cellAt (at' * 2) (by have := HAT.out; omega)
            have hc1 := O4.out.cellAt (at' * 2 + 1) (by have := HAT.out; omega)
            rw [(cellsP_at L at' HAT.out).1] at hc
            rw [(cellsP_at L at' HAT.out).2] at hc1
            obtain ⟨d, hd⟩ : ∃ d, d = L[at']'HAT.out := ⟨_, rfl⟩
            rw [← hd] at hc hc1
            have HD := Lib.hid hd
            clear hd
            go_wp2_with (first | (at_builtin; refine wpList_append_own_at _ rfl _ _ 35 rfl w2.heap.size 52 i0 (.agg #[.int .i64 0, .int .i64 0]) 2 16 Tryd.underlying35 hi hz0 hz1 hz2 rfl (by decide) _ L.length _ rfl (own2_below O4.out ((Below.refl _ _).alloc (Nat.le_refl _) _)) ⟨w4.heap.size, 0, none⟩ 1 1 [.int .i64 _, .int .i64 _] rfl rfl (pt_new _ _ _ _) (by intro u hu; simp at hu; rcases hu with rfl | rfl <;> rfl) (by have := HLL.out; unfold maxLen; omega) (by have := HLL.out; omega) (by have := W24.out.size; rw [alloc_size]; omega) ?_))
            intro v6 w6 hown hgrow _ _
            obtain ⟨g5, p5, rfl, -, hp5⟩ := own2_form hown (Nat.succ_pos _)
            have O5 := Lib.hid (own_other (by decide) O3b.out O4.out hgrow)
            have W25 := Lib.hid ((W24.out.alloc W24.out.size (.cells #[.int .i64 d.1, .int .i64 d.2] 52)).grown hgrow (by have := W24.out.size; rw [alloc_size]; omega) fun i hi => (own2_lt O4.out hi).1)
            have S5 := Lib.hid (show w6.ownsRow w2.heap.size 52 2 (.slice (some ⟨g5, 0, none⟩) (L.length + 1) p5) (L.length + 1) (cellsP (L ++ [d])) by rw [cellsP_app]; exact hown)
            have HP4 := Lib.hid hp5
            clear hown hgrow hc hc1 hp5
            go_wp2_with (first | (at_builtin; refine wpList_append_own_at _ rfl _ _ 43 rfl w2.heap.size 35 j0 (.slice none 0 0) 1 24 Tryd.underlying43 hj hy0 hy1 hy2 rfl (by decide) _ n _ rfl (own2_below O5.out ((Below.refl _ _).alloc (Nat.le_refl _) _)) ⟨w6.heap.size, 0, none⟩ 1 1 [.slice (some ⟨g5, 0, none⟩) (L.length + 1) p5] rfl rfl (one_new9 _ _ _ _ rfl) (by intro u hu; simp at hu; subst hu; rfl) (by have := H178.out; unfold maxLen; omega) (by have := H178.out; omega) (by have := W25.out.size; rw [alloc_size]; omega) ?_))
            intro v7 w7 hown hgrow _ _
            obtain ⟨g7, p7, rfl, -, -⟩ := own2_form hown (Nat.succ_pos _)
            have S7 := own_other (by decide) S5.out O5.out hgrow
            have Y7 := (own_holdsY S7).2
            have W27 := Lib.hid ((W25.out.alloc W25.out.size (.cells #[.slice (some ⟨g5, 0, none⟩) (L.length + 1) p5] 35)).grown hgrow (by have := W25.out.size; rw [alloc_size]; omega) fun i hi => (own2_lt O5.out hi).1)
            have hval := HR.out HAT.out (how % 4)
            rw [HM.out] at hval
            have hval2 : valC w0 h0 pl o ⟨mb, mr, ms, mc, my⟩ (Ls.take n ++ [L ++ [d]]) = 8 := by rw [HD.out]; exact hval
            have hll : (L ++ [d]).length = (L.length + 1) := by rw [List.length_append]; rfl
            have HW7 := rej_row (L := L ++ [d]) HZ.out (Nat.le_of_lt HNL.out) W27.out (by rw [hll]; exact hown) Y7 (by rw [hll]; have := HP4.out; omega)
            have hl7 : (Ls.take n ++ [L ++ [d]]).length = n + 1 := by rw [List.length_append, List.length_take, Nat.min_eq_left (Nat.le_of_lt HNL.out)]; rfl
            have H7 := Lib.hid (below_call H2.out W27.out)
            have kD7 := kD w7 H7.out (some ⟨g7, 0, none⟩) p7 _ hval2 HW7
            rw [hl7] at kD7
            have B7 := B2.out.below W27.out
            obtain ⟨c0, c1, c2, c3, c4, c5, c6, c7, c8, c9⟩ := l6c B7
            clear hown hgrow S7 Y7 HW7 hval hval2 hl7 B7 hll
            go_wp2_with (first | (go_at_call 32; (with_reducible refine kD7.mono ?_); rintro e w8 ⟨v8, u8, rfl, hS, hb⟩; obtain ⟨s8, m8, rfl, -⟩ := tw_holdA 0 rfl hS; obtain ⟨s9, m9, rfl, -⟩ := tw_holdB 0 rfl hS; have H8 := Lib.hid (below_call H7.out hb); clear hb hS) | (go_at_call 31; (with_reducible refine (hE H8.out).mono ?_); rintro e w9 ⟨rfl, hb⟩; have H9 := Lib.hid (below_call H8.out hb); clear hb))
            go_ret
            exact ⟨rfl, H9.out⟩
    · rw [decide_eq_false ho] at kV
      clear hs K K1 hal MB hT hok ho hfit hlen hl144 hp60 w12 h12 HK
      generalize plnN l = pl at *
      generalize l.length = N at *
      go_enter Tryd.func13, Tryd.ntmps13
      go_wp2_with (first | (go_at_call 26; (with_reducible refine kP.mono ?_); rintro e wn ⟨rfl, rfl⟩) | (go_at_call 35; (with_reducible refine kS.mono ?_); rintro e w1 ⟨rfl, hb⟩; have H1 := Lib.hid (below_call HA.out hb); have B1 := Lib.hid (HMB.out.below hb); obtain ⟨c0, c1, c2, c3, c4, c5, c6, c7, c8, c9⟩ := l6c B1.out; clear hb) | (go_at_call 27; (with_reducible refine (kV _).mono ?_); rintro e wn ⟨rfl, rfl⟩) | (go_at_call 31; (with_reducible refine (hE H1.out).mono ?_); rintro e w2 ⟨rfl, hb⟩; have H2 := Lib.hid (below_call H1.out hb); clear hb))
      go_ret
      exact ⟨rfl, H2.out⟩
  · rw [decide_eq_false hs] at kS
    obtain ⟨w, h, s, l, cp, sf, fl, cf, o, ⟨mb, mr, ms, mc, my⟩⟩ := b
    unfold BV.val BV.cs at *
    dsimp only at *
    clear hs K K1 hal MB hT HK
    generalize plnN l = pl at *
    generalize l.length = N at *
    go_enter Tryd.func13, Tryd.ntmps13
    go_wp2_with (first | (go_at_call 26; (with_reducible refine kP.mono ?_); rintro e wn ⟨rfl, rfl⟩) | (go_at_call 35; (with_reducible refine kS.mono ?_); rintro e w1 ⟨rfl, hb⟩; have H1 := Lib.hid (below_call HA.out hb); have B1 := Lib.hid (HMB.out.below hb); obtain ⟨c0, c1, c2, c3, c4, c5, c6, c7, c8, c9⟩ := l6c B1.out; clear hb) | (go_at_call 31; (with_reducible refine (hE H1.out).mono ?_); rintro e w2 ⟨rfl, hb⟩; have H2 := Lib.hid (below_call H1.out hb); clear hb))
    go_ret
    exact ⟨rfl, H2.out⟩

set_option maxRecDepth 100000 in
theorem lifted (os : Os) (started : os.Started) (H : Type) (enc : TypeId × Value → H) :
    ReturnsInHanded {} Tryd.checked os 13 .any (fun w args => (Rows.decpassRejectsSpec.pre enc Tryd.prog Tryd.f13 Rows.decpassRejectsRow.domain false w args ∧ laidMetH Tryd.prog Rows.decpassRejectsRow.laid w) ∧ sizedMet enc Tryd.prog Tryd.f13 (OpenSpec.ofChange Rows.decpassRejectsSpec) false w args)
      (Rows.decpassRejectsSpec.post enc Tryd.prog Tryd.f13 false true false false) := by
  refine returnsInHanded_of_change_and (C := Tryd.checked) (X := fun w _ => laidMetH Tryd.prog Rows.decpassRejectsRow.laid w) (fun _ _ _ hh h => h.of_heap hh) own started (by kernel_rfl) Tryd.func13
    (ChangeSpec.witness_shaped (enc := enc) (C := Tryd.checked) (os := os) (X := fun w _ => laidMetH Tryd.prog Rows.decpassRejectsRow.laid w) false (World.laidAll Tryd.prog os Rows.decpassRejectsRow.laid) #[.agg #[.int .i64 0, .int .i64 0, .slice none 0 0, .slice none 0 0, .int .i64 0, .bool false, .bool false, .bool false, .bool false, .bool false], .int .i64 0, .int .i64 0, .int .i64 0] 8 (World.laidAll_os _ _ _)
      (World.shaped_of_ZipB (by kernel_rfl) (by kernel_rfl)) (by kernel_rfl) (by kernel_rfl) (by kernel_rfl)
      (by rw [MakeChecks.laidMetH_plain _ _ _ (by kernel_rfl)]; exact laidMet_laidAll _ (by kernel_rfl) (by kernel_rfl))) ?_
  intro W base args ds gs before hval0 hW _ _ hL _
  have hval : ∀ (j : Nat) t v, Tryd.f13.params[j]? = some t → args[j]? = some v → Value.okWide Tryd.prog W .any base t v := hval0
  have hT : Cx.Tabs W := Cx.tabs_of_laid hL
  have hW' := hW
  obtain ⟨p, q, hA0, hV, rfl, _, _⟩ := hW
  have hA : DataW.TrodAll enc Tryd.prog W 0 (fun _ => true) true Tryd.f13.params.toList args.toList ds p := hA0
  rw [Tryd.params13] at hA hval
  obtain ⟨v0, vs0, d0, ds0, p0, q0, hargs, rfl, rfl, h0, r0⟩ := trodAll_cons hA
  obtain ⟨v1, vs1, d1, ds1, p1, q1, rfl, rfl, rfl, h1, r1⟩ := trodAll_cons r0
  obtain ⟨v2, vs2, d2, ds2, p2, q2, rfl, rfl, rfl, h2, r2⟩ := trodAll_cons r1
  obtain ⟨v3, vs3, d3, ds3, p3, q3, rfl, rfl, rfl, h3, r3⟩ := trodAll_cons r2
  obtain ⟨rfl, rfl, rfl⟩ := trodAll_nil r3
  obtain rfl : args = #[v0, v1, v2, v3] := by cases args; simp_all
  obtain ⟨rfl, rfl⟩ := trodVars_none hV
  clear hA0 hval0
  simp only [List.append_nil] at hW'
  have l0 : ∀ x ∈ p0, x.block < W.heap.size := fun x hx => hW'.lt x (by simp [hx])
  have l1 : ∀ x ∈ p1, x.block < W.heap.size := fun x hx => hW'.lt x (by simp [hx])
  have l2 : ∀ x ∈ p2, x.block < W.heap.size := fun x hx => hW'.lt x (by simp [hx])
  have l3 : ∀ x ∈ p3, x.block < W.heap.size := fun x hx => hW'.lt x (by simp [hx])
  obtain ⟨B0, rfl, hB0⟩ := open_L6 (hval 0 68 v0 rfl rfl) h0
  obtain ⟨i1, rfl, _, _, wi1⟩ := open_int Tryd.underlying3 (hval 1 3 v1 rfl rfl) h1
  obtain ⟨i2, rfl, _, _, wi2⟩ := open_int Tryd.underlying3 (hval 2 3 v2 rfl rfl) h2
  obtain ⟨i3, rfl, _, _, wi3⟩ := open_int Tryd.underlying3 (hval 3 3 v3 rfl rfl) h3
  refine (walk B0 i1 i2 i3 W hT hB0).mono fun e W' ⟨he, hb⟩ => ?_
  subst he
  exact ⟨_, rfl, post_low (pa := p0 ++ (p1 ++ (p2 ++ (p3 ++ ([]))))) (pv := []) hW' (fun _ _ _ => (trodAll_cons_mk (shut_bool Tryd.underlying4 _) trodAll_mk0)) (fun sp hsp => (trodAll_cons_mk (trod_low laidOut (by kernel_rfl) (of_decide_eq_true (by kernel_rfl)) h0 hb l0 (fun x hx => hsp x (by simp [hx]))) (trodAll_cons_mk (trod_low laidOut (by kernel_rfl) (of_decide_eq_true (by kernel_rfl)) h1 hb l1 (fun x hx => hsp x (by simp [hx]))) (trodAll_cons_mk (trod_low laidOut (by kernel_rfl) (of_decide_eq_true (by kernel_rfl)) h2 hb l2 (fun x hx => hsp x (by simp [hx]))) (trodAll_cons_mk (trod_low laidOut (by kernel_rfl) (of_decide_eq_true (by kernel_rfl)) h3 hb l3 (fun x hx => hsp x (by simp [hx]))) trodAll_mk0))))) (fun _ _ => rfl) (by simp) hb (ok_one (by kernel_rfl) rfl (okWide_bool_mk Tryd.underlying4 _))⟩

theorem over : Rows.decpassRejectsRow.holds Tryd.pinned (OpenSpec.ofChange Rows.decpassRejectsSpec) :=
  OpenClaim.holds_of_wide 13 Tryd.f13 rfl rfl rfl rfl rfl rfl rfl ⟨rfl, rfl, rfl, rfl, rfl⟩ rfl rfl rfl rfl rfl (by kernel_rfl) Tryd.func13 (by kernel_rfl)
    (of_decide_eq_true (by kernel_rfl)) (by unfold Func.isWrapper; first | (rw [if_pos (by decide +kernel)]; kernel_rfl) | (rw [if_neg (by decide +kernel)]; exact ⟨rfl, rfl⟩))
    (fun os started H enc _ => lifted os started H enc)
theorem proved : Rows.DecpassRejectsCardSaid :=
  Claim7.holds_tied_plain_at .later [] [.data, .data, .data] true Rows.decpassRejectsCard.stood.harness false over (fun _ h => by cases h) (by kernel_rfl) (fun _ h => by cases h) decpassRejects_row_tie rfl ⟨rfl, rfl⟩ (by kernel_rfl) rfl
    (fun f fn hf hfn => by
      obtain rfl : f = 13 := Option.some.inj ((show Tryd.prog.funcNamed Rows.decpassRejectsRow.func = some 13 by kernel_rfl).symm.trans hf) |>.symm
      obtain rfl : fn = Tryd.f13 := (Option.some.inj (Tryd.func13.symm.trans hfn)).symm
      exact ⟨by kernel_rfl, fun j t ht => by
        rw [Tryd.params13] at ht
        have hm : t ∈ [68, 3, 3, 3] := by simpa using Array.mem_of_getElem? ht
        have hall : ([68, 3, 3, 3].all fun u => !Tryd.prog.wantsStandIn u) = true := by kernel_rfl
        exact (show Tryd.prog.wantsStandIn t = false by simpa using List.all_eq_true.1 hall t hm)⟩)
    (by kernel_rfl)
#print axioms proved
end Go.Proofs.YtbhjapgioaiocaaDoor.decpassRejects
