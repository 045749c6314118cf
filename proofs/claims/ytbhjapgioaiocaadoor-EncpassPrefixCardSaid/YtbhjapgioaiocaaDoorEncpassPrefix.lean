/-
  For all blocks and numbers the statement EncpassPrefix returns true; they read afterwards as before.
  Conditions: none beyond those of the given statement (the listed variables are tied by the card).
-/
import Derived.Test.YtbhjapgioaiocaaDoorMc
import Derived.Test.YtbhjapgioaiocaaDoorTie
import Derived.Test.YtbhjapgioaiocaaDoorCards
import Derived.LaidMore
import Derived.Lay
import Derived.SevenTiedAt
import Derived.Stop.Joined
set_option maxRecDepth 100000
namespace Go.Proofs.YtbhjapgioaiocaaDoor.encpassPrefix
open Go.ChangeShapes Go.WideShapes Go.ChangeAt Go.RowKit Go.Joins Go.Deep

theorem l5c {w : World} {g : Nat} {c0 c1 c2 c3 c4 c5 c6 c7 c8 c9 : Value} (h : Blk w g 28 #[c0, c1, c2, c3, c4, c5, c6, c7, c8, c9]) : w.cell? ⟨g, 0, none⟩ = some c0 ∧ w.cell? ⟨g, 1, none⟩ = some c1 ∧ w.cell? ⟨g, 2, none⟩ = some c2 ∧ w.cell? ⟨g, 3, none⟩ = some c3 ∧ w.cell? ⟨g, 4, none⟩ = some c4 ∧ w.cell? ⟨g, 5, none⟩ = some c5 ∧ w.cell? ⟨g, 6, none⟩ = some c6 ∧ w.cell? ⟨g, 7, none⟩ = some c7 ∧ w.cell? ⟨g, 8, none⟩ = some c8 ∧ w.cell? ⟨g, 9, none⟩ = some c9 := ⟨h.cell 0, h.cell 1, h.cell 2, h.cell 3, h.cell 4, h.cell 5, h.cell 6, h.cell 7, h.cell 8, h.cell 9⟩
structure Sh (W W2 : World) (cs : Array Value) (s : Option Addr) (n m : Nat) (Ls : List (List Sy)) (wr : World) : Prop where
  below : Below W.heap.size W wr
  box : Blk wr W.heap.size 28 cs
  ss : SsAt W2 wr (.slice s n m) Ls
theorem Sh.call {W W2 w w' : World} {cs : Array Value} {s : Option Addr} {n m : Nat} {Ls : List (List Sy)} (h : Sh W W2 cs s n m Ls w) (hb : Below w.heap.size w w') : Sh W W2 cs s n m Ls w' := ⟨below_call h.below hb, h.box.below hb, h.ss.below hb⟩
theorem chk_lit (w : World) : HoldsY (w.alloc (.cells #[.int .i64 18, .int .i64 1, .int .i64 18, .int .i64 0, .int .i64 18, .int .i64 1, .int .i64 18, .int .i64 0] 52)) (some ⟨w.heap.size, 0, none⟩) [(18, 1), (18, 0), (18, 1), (18, 0)] := pair_new w _ _ rfl
theorem small_ok {b : BV} (hs : b.small) : ∃ w0 h0 : Nat, b.W = w0 ∧ b.H = h0 ∧ w0 ≤ 12 ∧ h0 ≤ 12 ∧ fits (w0 : Int) (h0 : Int) ∧ b.l.length = w0 * h0 ∧ b.l.length ≤ 144 ∧ plnN b.l ≤ 60 := by
  obtain ⟨h1, h2, h3, h4, h5, h6⟩ := hs
  obtain ⟨w0, hw⟩ : ∃ n : Nat, b.W = n := ⟨b.W.toNat, by omega⟩
  obtain ⟨h0, hh⟩ : ∃ n : Nat, b.H = n := ⟨b.H.toNat, by omega⟩
  rw [hw, hh, ← Int.natCast_mul] at h5
  have h7 : w0 * h0 ≤ 12 * 12 := Nat.mul_le_mul (by omega) (by omega)
  exact ⟨w0, h0, hw, hh, by omega, by omega, by unfold fits; omega, by omega, by omega, h6⟩
theorem okV_all {l : List Int} (hr : ∀ v ∈ l, i64R v) (hp : plnN l ≤ 60) : ∀ v ∈ l, okV v := fun v hv => by
  have h1 := mxN_le l v hv
  have h3 := mxN_64 l hr
  have h2 := (bit_iff (mxN l) 60 (by omega)).1 hp
  unfold okV
  omega
theorem kept_facts (v : Int) (k : Nat) (hv : okV v) : (v < 0 → ∃ a b c : Int, IntKind.i64.wrap (-v) = a ∧ a / 2 ^ k = b ∧ IntKind.i64.wrap (b * 2 ^ k) = c ∧ IntKind.i64.wrap (-c) = keptM v k) ∧ (0 ≤ v → ∃ b : Int, v / 2 ^ k = b ∧ IntKind.i64.wrap (b * 2 ^ k) = keptM v k) := by
  have e1 : ∀ n : Nat, (n : Int) / 2 ^ k = ((n / 2 ^ k : Nat) : Int) := fun n => by rw [Int.natCast_ediv, Int.natCast_pow]; rfl
  have e2 : ∀ n : Nat, (n : Int) * 2 ^ k = ((n * 2 ^ k : Nat) : Int) := fun n => by rw [Int.natCast_mul, Int.natCast_pow]; rfl
  have hle := Nat.div_mul_le_self v.natAbs (2 ^ k)
  unfold okV at hv
  constructor
  · intro h
    refine ⟨(v.natAbs : Int), ((v.natAbs / 2 ^ k : Nat) : Int), ((v.natAbs / 2 ^ k * 2 ^ k : Nat) : Int), ?_, e1 _, ?_, ?_⟩
    · rw [IntWalk.i64_left]; unfold wrap64; omega
    · rw [e2, IntWalk.i64_left]; unfold wrap64; omega
    · unfold keptM
      rw [if_pos h, IntWalk.i64_left]; unfold wrap64; omega
  · intro h
    refine ⟨((v.natAbs / 2 ^ k : Nat) : Int), ?_, ?_⟩
    · rw [← e1]; congr 1; omega
    · unfold keptM
      rw [if_neg (by omega), e2, IntWalk.i64_left]; unfold wrap64; omega
set_option maxHeartbeats 8000000 in
theorem walk (b : BV) (k : Int) (W : World) (hT : Cx.Tabs W) (K : BVk W b) : Calls Tryd.prog 7 #[b.val, .int .i64 k] W fun e w' => e = .returned (.bool true) ∧ Below W.heap.size W w' := by
  have hE := fun {w1 : World} (hb : Below W.heap.size W w1) => ex15_c w1 (hT.below hb)
  have HT := Lib.hid hT
  obtain ⟨bv, hbv⟩ : ∃ x, x = b := ⟨_, rfl⟩
  have hal := below_alloc (Below.refl _ W) (.cells b.cs 28)
  have K1 := K.call hal
  have kS := small_c b _ K1
  have MB := Blk.new W 28 b.cs
  have HSM := Lib.hid (fun h : b.small => small_ok h)
  have HOKV := Lib.hid (fun h : plnN b.l ≤ 60 => okV_all K.r h)
  have kP := xplanes_c b.s b.l b.cp (W.alloc (.cells b.cs 28)) K1.h K1.r (by have := K1.len; omega)
  have kV := fun W => xvalid_c b.o W
  have HA := Lib.hid hal
  have HMB := Lib.hid MB
  have HK := Lib.hid K
  by_cases hs : b.small
  · rw [decide_eq_true hs] at kS
    obtain ⟨w, h, s, l, cp, sf, fl, cf, o, ⟨mb, mr, ms, mc, my⟩⟩ := b
    obtain ⟨w0, h0, hw, hh, w12, h12, hfit, hlen, hl144, hp60⟩ := small_ok hs
    dsimp only at hw hh hlen hl144 hp60
    subst hw hh
    have hok := okV_all K.r hp60
    unfold BV.val BV.cs at *
    dsimp only at *
    by_cases ho : 0 ≤ o ∧ o ≤ 3
    · rw [decide_eq_true ho] at kV
      obtain ⟨pl, hpl⟩ : ∃ p, p = plnN l := ⟨_, rfl⟩
      rw [← hpl] at kP
      by_cases hk0 : k < 0
      · clear hs HSM HOKV K K1 hal MB hbv hT hok ho hfit hlen hl144 hp60 hpl w12 h12 HT HK
        go_enter Tryd.func7, Tryd.ntmps7
        go_wp2_with (first | (go_at_call 26; (with_reducible refine kP.mono ?_); rintro e wn ⟨rfl, rfl⟩) | (go_at_call 15; (with_reducible refine kS.mono ?_); rintro e w1 ⟨rfl, hb⟩; have H1 := Lib.hid (below_call HA.out hb); have B1 := Lib.hid (HMB.out.below hb); obtain ⟨c0, c1, c2, c3, c4, c5, c6, c7, c8, c9⟩ := l5c B1.out; clear hb) | (go_at_call 27; (with_reducible refine (kV _).mono ?_); rintro e wn ⟨rfl, rfl⟩) | (go_at_call 16; (with_reducible refine (hE H1.out).mono ?_); rintro e w2 ⟨rfl, hb2⟩; have H2 := Lib.hid (below_call H1.out hb2); clear hb2))
        go_ret
        exact ⟨rfl, H2.out⟩
      · by_cases hkp : (pl : Int) ≤ k
        · clear hs HSM HOKV K K1 hal MB hbv hT hok ho hfit hlen hl144 hp60 hpl w12 h12 HT HK
          go_enter Tryd.func7, Tryd.ntmps7
          go_wp2_with (first | (go_at_call 26; (with_reducible refine kP.mono ?_); rintro e wn ⟨rfl, rfl⟩) | (go_at_call 15; (with_reducible refine kS.mono ?_); rintro e w1 ⟨rfl, hb⟩; have H1 := Lib.hid (below_call HA.out hb); have B1 := Lib.hid (HMB.out.below hb); obtain ⟨c0, c1, c2, c3, c4, c5, c6, c7, c8, c9⟩ := l5c B1.out; clear hb) | (go_at_call 27; (with_reducible refine (kV _).mono ?_); rintro e wn ⟨rfl, rfl⟩) | (go_at_call 16; (with_reducible refine (hE H1.out).mono ?_); rintro e w2 ⟨rfl, hb2⟩; have H2 := Lib.hid (below_call H1.out hb2); clear hb2))
          go_ret
          exact ⟨rfl, H2.out⟩
        · obtain ⟨n, rfl⟩ : ∃ n : Nat, k = n := ⟨k.toNat, by omega⟩
          have hn : n < pl := by omega
          obtain ⟨cut, hcut⟩ : ∃ c, c = l.map fun v => keptM v n := ⟨_, rfl⟩
          have hcl : cut.length = l.length := by rw [hcut]; simp
          have hmx : mxN l < 2 ^ 64 := by have := mxN_64 l K.r; omega
          have hpc : plnN cut = pl := by rw [hcut, hpl]; exact pln_kept l n hmx (by omega)
          have hcok : ∀ v ∈ cut, okV v := fun v hv => by
            rw [hcut] at hv
            obtain ⟨u, hu, rfl⟩ := List.mem_map.1 hv
            have h1 := hok u hu
            have h2 := kept_abs u n
            have h3 := Nat.div_mul_le_self u.natAbs (2 ^ n)
            unfold okV at *
            omega
          have hcr : ∀ v ∈ cut, i64R v := fun v hv => by have := hcok v hv; unfold okV at this; unfold i64R; omega
          obtain ⟨L1, hL1⟩ : ∃ L, L = symL w0 h0 (plnN l) o ⟨mb, mr, ms, mc, my⟩ (setV w0 h0 l l.length) (3 * plnN l - 2) := ⟨_, rfl⟩
          obtain ⟨L2, hL2⟩ : ∃ L, L = symL w0 h0 (plnN cut) o ⟨mb, mr, ms, mc, my⟩ (setV w0 h0 cut cut.length) (3 * plnN cut - 2) := ⟨_, rfl⟩
          obtain ⟨N, hN⟩ : ∃ N, N = 3 * (pl - n) - 2 := ⟨_, rfl⟩
          have hln1 : L1.length = 3 * pl - 2 := by rw [hL1, symL_len, hpl]
          have hln2 : L2.length = 3 * pl - 2 := by rw [hL2, symL_len, hpc]
          have hrl := setV_kept w0 h0 l hok n l.length
          obtain ⟨-, hsy⟩ := blk_kept w0 h0 pl o ⟨mb, mr, ms, mc, my⟩ hrl N (by omega) hn
          have htk : L2.take N = L1.take N := by
            apply List.ext_getElem
            · simp; omega
            · intro j h1 h2
              rw [List.getElem_take, List.getElem_take]
              subst hL1 hL2
              rw [symL_at, symL_at, hpc, hcl, hcut, ← hpl]
              exact hsy j (by rw [List.length_take] at h1; omega)
          have hszL : ∀ x ∈ L1.take N, x.length ≤ 1000000000 := fun x hx => by
            obtain ⟨j, hj, e⟩ := List.mem_iff_getElem.1 (List.mem_of_mem_take hx)
            subst hL1
            rw [symL_at] at e
            have := sym_len w0 h0 (plnN l) o ⟨mb, mr, ms, mc, my⟩ (setV w0 h0 l l.length) j (by omega) (by omega)
            rw [e] at this
            omega
          have k1 := fun w1 (hb : Below W.heap.size W w1) => symbols_c3 s l cp w0 h0 o ⟨mb, mr, ms, mc, my⟩ w1 hfit hlen ho (HK.out.call hb).h (HT.out.below hb) HK.out.r 0 L1 (fun ⟨v, hv, hn⟩ => absurd (hok v hv) hn) (fun _ => ⟨rfl, hL1⟩)
          have k2 := fun w1 (hb : Below W.heap.size W w1) (g : Nat) (hg : RowAt w1 g cut) => symbols_c3 (some ⟨g, 0, none⟩) cut cut.length w0 h0 o ⟨mb, mr, ms, mc, my⟩ w1 hfit (hcl.trans hlen) ho hg.holds (HT.out.below hb) hcr 0 L2 (fun ⟨v, hv, hn⟩ => absurd (hcok v hv) hn) (fun _ => ⟨rfl, hL2⟩)
          unfold Mo.val at k1 k2
          dsimp only at k1 k2
          have HOK := Lib.hid hok
          have HCL := Lib.hid hcl
          have HCUT := Lib.hid hcut
          have HTK := Lib.hid htk
          have HSZ := Lib.hid hszL
          have HL1 := Lib.hid hln1
          have HL2 := Lib.hid hln2
          have HNN := Lib.hid hN
          have H144 := Lib.hid hl144
          have H60 := Lib.hid (show pl ≤ 60 by omega)
          have HNP := Lib.hid hn
          have kM := fun W => mkI l.length (by omega) W
          have hmin : min n 64 = n := by omega
          have wu : IntKind.u64.wrap (n : Int) = (n : Int) := by unfold IntKind.wrap; simp [IntKind.bits, IntKind.signed]; omega
          clear hs HSM HOKV K K1 hal MB hbv hT hok ho hfit hlen hp60 hL1 hL2 hpl w12 h12 hcut hmx hpc hcok hcr hN hln1 hln2 hrl hsy htk hszL hn hcl hl144
          go_enter Tryd.func7, Tryd.ntmps7
          go_wp2_with (first | (go_at_call 26; (with_reducible refine kP.mono ?_); rintro e wn ⟨rfl, rfl⟩) | (go_at_call 15; (with_reducible refine kS.mono ?_); rintro e w1 ⟨rfl, hb⟩; have H1 := Lib.hid (below_call HA.out hb); have B1 := Lib.hid (HMB.out.below hb); obtain ⟨c0, c1, c2, c3, c4, c5, c6, c7, c8, c9⟩ := l5c B1.out; have n2 := fun X => cell_alloc c2 X; clear hb) | (go_at_call 27; (with_reducible refine (kV _).mono ?_); rintro e wn ⟨rfl, rfl⟩))
          have hal3 := below_alloc (Below.refl _ w1) (zI l.length)
          have R0 : RowAt (w1.alloc (zI l.length)) w1.heap.size (List.replicate l.length 0) := rowAt_made w1 l.length
          have HB3 := Lib.hid (below_call H1.out hal3)
          obtain ⟨CSX, hCS⟩ : ∃ c : Array Value, c = #[.int .i64 (w0 : Int), .int .i64 (h0 : Int), .slice s l.length cp, .slice sf fl.length cf, .int .i64 o, .bool mb, .bool mr, .bool ms, .bool mc, .bool my] := ⟨_, rfl⟩
          have HX3 := Lib.hid (show Blk (w1.alloc (zI l.length)) W.heap.size 28 CSX by rw [hCS]; exact B1.out.below hal3)
          have HCS := Lib.hid hCS
          clear hCS
          have HG := Lib.hid (show W.heap.size < w1.heap.size from B1.out.lt)
          have HR0 := Lib.hid (show RowAt (w1.alloc (zI l.length)) w1.heap.size (fillL cut 0) by rw [fillL_zero, HCL.out]; exact R0)
          clear hal3 R0 n2 c0 c1 c2 c3 c4 c5 c6 c7 c8 c9 kM kP
          go_loopw [43] (fun i wr => ∃ j : Nat, j ≤ l.length ∧ i = .int .i64 (j : Int) ∧ Hid (Below W.heap.size W wr) ∧ Hid (Blk wr W.heap.size 28 CSX) ∧ Hid (RowAt wr w1.heap.size (fillL cut j))) (fun i _ => (l.length - (intOf i).toNat))
          case atStart => exact ⟨0, by omega, rfl, HB3, HX3, HR0⟩
          case round =>
            obtain ⟨j, hj, rfl, hB, hX, hR⟩ := hrel
            by_cases hlt : j < l.length
            · obtain ⟨b, off, rfl, hA⟩ := (HK.out.call hB.out).h.resolve_left (fun h => by rw [show l = [] from h] at hlt; simp at hlt)
              have c0 : wr.cell? ⟨b, off + j, none⟩ = some (.int .i64 l[j]) := hA j hlt
              have wj : IntKind.i64.wrap ((j : Int) + 1) = ((j + 1 : Nat) : Int) := by have := H144.out; rw [IntWalk.i64_left]; unfold wrap64; omega
              have hov := HOK.out _ (List.getElem_mem hlt)
              have hcj : j < cut.length := by have := HCL.out; omega
              have hce : cut[j] = keptM l[j] n := by
                have hc := HCUT.out
                subst hc
                rw [List.getElem_map]
              have hfl := fillL_next cut j hcj
              have hfr := hR.out.free
              have hflen : (fillL cut j).length = cut.length := fillL_len cut j (by omega)
              obtain ⟨v, hve⟩ : ∃ v, v = l[j] := ⟨_, rfl⟩
              rw [← hve] at c0 hov hce
              obtain ⟨kf1, kf2⟩ := kept_facts v n hov
              rw [hce] at hfl
              have hset := fun (u : Int) => hR.out.set j u
              have d0 : wr.cell? ⟨w1.heap.size, j, none⟩ = some (.int .i64 ((fillL cut j)[j]'(by omega))) := hR.out.at (by omega)
              generalize (fillL cut j)[j]'(by omega) = old at *
              generalize keptM v n = kv at *
              have hset1 := hset kv
              rw [hfl] at hset1
              have S1 := Lib.hid hset1
              have hw1 := HG.out
              have keep := fun (u : Value) => (show Below W.heap.size W (wr.setCell ⟨w1.heap.size, j, none⟩ u) ∧ Blk (wr.setCell ⟨w1.heap.size, j, none⟩ u) W.heap.size 28 CSX from ⟨hB.out.setCell (p := ⟨w1.heap.size, j, none⟩) (by show W.heap.size ≤ w1.heap.size; omega) _, hX.out.far (p := ⟨w1.heap.size, j, none⟩) (by show W.heap.size ≠ w1.heap.size; omega) _⟩)
              have KP := Lib.hid keep
              have HLT := Lib.hid hlt
              clear hset hset1 hfl hce hflen hov hve keep hA hcj
              by_cases hv : v < 0
              · obtain ⟨x1, x2, x3, y1, y2, y3, y4⟩ := kf1 hv
                clear kf1 kf2
                go_wp2_with fail
                go_roundw
                case rel => exact ⟨j + 1, HLT.out, by go_num, (KP.out _).1, (KP.out _).2, S1⟩
                case measure => have := HLT.out; simp [intOf]; omega
              · obtain ⟨x1, y1, y2⟩ := kf2 (by omega)
                clear kf1 kf2
                go_wp2_with fail
                go_roundw
                case rel => exact ⟨j + 1, HLT.out, by go_num, (KP.out _).1, (KP.out _).2, S1⟩
                case measure => have := HLT.out; simp [intOf]; omega
            · have hjn : j = l.length := by omega
              subst hjn
              have hrow : RowAt wr w1.heap.size cut := by
                have := hR.out
                rw [← HCL.out, fillL_all] at this
                exact this
              have HRW := Lib.hid hrow
              have hx := hX.out
              rw [HCS.out] at hx
              have BX := Lib.hid hx
              obtain ⟨c0, c1, c2, c3, c4, c5, c6, c7, c8, c9⟩ := l5c hx
              clear hx
              have k1a := k1 _ hB.out
              have wq1 : IntKind.i64.wrap ((pl : Int) - (n : Int)) = (pl : Int) - (n : Int) := by have := H60.out; rw [IntWalk.i64_left]; unfold wrap64; omega
              have wq2 : IntKind.i64.wrap (3 * ((pl : Int) - (n : Int))) = 3 * ((pl : Int) - (n : Int)) := by have := H60.out; rw [IntWalk.i64_left]; unfold wrap64; omega
              have wq3 : IntKind.i64.wrap (3 * ((pl : Int) - (n : Int)) - 2) = (N : Int) := by have := H60.out; have := HNN.out; have := HNP.out; rw [IntWalk.i64_left]; unfold wrap64; omega
              have nl1 : ¬ (L1.length : Int) < (N : Int) := by have := HL1.out; have := HNN.out; omega
              have nl2 : ¬ (L2.length : Int) < (N : Int) := by have := HL2.out; have := HNN.out; omega
              have hcl2 := HCL.out
              rw [hcl2] at k2
              clear hrow hcl2
              go_wp2_with (first | (go_at_call 22; first | ((with_reducible refine k1a.mono ?_); rintro e w2 ⟨v2, rfl, hS, hb⟩; obtain ⟨s2, m2, rfl, hz2, hm2⟩ := ss_cap hS; have Z2 := Lib.hid hz2; have M2 := Lib.hid hm2; have H2 := Lib.hid (below_call hB.out hb); have B2 := Lib.hid (BX.out.below hb); have R2 := Lib.hid (HRW.out.below hb); clear c0 c1 c2 c3 c4 c5 c6 c7 c8 c9 hz2 hm2; obtain ⟨c0, c1, c2, c3, c4, c5, c6, c7, c8, c9⟩ := l5c B2.out; have k2a := k2 _ H2.out _ R2.out; clear hb hS) | ((with_reducible refine k2a.mono ?_); rintro e w3 ⟨v3, rfl, hS, hb⟩; obtain ⟨s3, m3, rfl, hz3, hm3⟩ := ss_cap hS; have Z3 := Lib.hid hz3; have M3 := Lib.hid hm3; have H3 := Lib.hid (below_call H2.out hb); have Z23 := Lib.hid (Z2.out.call hb); clear hz3 hm3 hb hS)))
              have cap2 : (N : Int) ≤ (m2 : Int) := by have := M2.out; omega
              have cap3 : (N : Int) ≤ (m3 : Int) := by have := M3.out; omega
              have cap2' : N ≤ m2 := by omega
              have cap3' : N ≤ m3 := by omega
              have htl : (L1.take N).length = N := by rw [List.length_take]; omega
              have kSS := fun (X : World) (h1 : HoldsZ X s2 L1) (h2 : HoldsZ X s3 L2) => samePs_t X (L1.take N) s2 s3 m2 m3 (h1.take N) (by rw [← HTK.out]; exact h2.take N) (by have := HNN.out; have := H60.out; omega) HSZ.out
              rw [htl] at kSS
              have kS1 := kSS w3.drew (Z23.out.call (Below.refl _ _).drew) (Z3.out.call (Below.refl _ _).drew)
              have H3d := Lib.hid (below_call H3.out (Below.refl w3.heap.size w3).drew)
              clear kSS htl nl1 nl2
              go_region_held3 (fun _ => True) (first | (with_reducible exact trivial) | fail) (first | (go_simp; go_at_call 24; (with_reducible refine kS1.mono ?_); rintro e w4 ⟨rfl, hd⟩; have H4 := Lib.hid (below_call H3d.out hd.below); clear hd) | (go_simp; go_at_call 16; (with_reducible refine (hE H4.out).mono ?_); rintro e w5 ⟨rfl, hb5⟩; have H5 := Lib.hid (below_call H4.out hb5); clear hb5) | fail)
              all_goals
                go_wp2_with fail
                go_ret
                exact ⟨rfl, H5.out⟩
    · rw [decide_eq_false ho] at kV
      clear hs HSM HOKV K K1 hal MB hbv hT hok ho hfit hlen hl144 hp60 w12 h12 HT HK
      generalize plnN l = pl at *
      go_enter Tryd.func7, Tryd.ntmps7
      go_wp2_with (first | (go_at_call 26; (with_reducible refine kP.mono ?_); rintro e wn ⟨rfl, rfl⟩) | (go_at_call 15; (with_reducible refine kS.mono ?_); rintro e w1 ⟨rfl, hb⟩; have H1 := Lib.hid (below_call HA.out hb); have B1 := Lib.hid (HMB.out.below hb); obtain ⟨c0, c1, c2, c3, c4, c5, c6, c7, c8, c9⟩ := l5c B1.out; clear hb) | (go_at_call 27; (with_reducible refine (kV _).mono ?_); rintro e wn ⟨rfl, rfl⟩) | (go_at_call 16; (with_reducible refine (hE H1.out).mono ?_); rintro e w2 ⟨rfl, hb2⟩; have H2 := Lib.hid (below_call H1.out hb2); clear hb2))
      go_ret
      exact ⟨rfl, H2.out⟩
  · obtain ⟨w, h, s, l, cp, sf, fl, cf, o, ⟨mb, mr, ms, mc, my⟩⟩ := b
    rw [decide_eq_false hs] at kS
    unfold BV.val BV.cs at *
    dsimp only at *
    clear hs HSM HOKV K K1 hal MB hbv hT HT HK kV
    generalize plnN l = pl at *
    go_enter Tryd.func7, Tryd.ntmps7
    go_wp2_with (first | (go_at_call 26; (with_reducible refine kP.mono ?_); rintro e wn ⟨rfl, rfl⟩) | (go_at_call 15; (with_reducible refine kS.mono ?_); rintro e w1 ⟨rfl, hb⟩; have H1 := Lib.hid (below_call HA.out hb); have B1 := Lib.hid (HMB.out.below hb); obtain ⟨c0, c1, c2, c3, c4, c5, c6, c7, c8, c9⟩ := l5c B1.out; clear hb) | (go_at_call 16; (with_reducible refine (hE H1.out).mono ?_); rintro e w2 ⟨rfl, hb2⟩; have H2 := Lib.hid (below_call H1.out hb2); clear hb2))
    go_ret
    exact ⟨rfl, H2.out⟩

set_option maxRecDepth 100000 in
theorem lifted (os : Os) (started : os.Started) (H : Type) (enc : TypeId × Value → H) :
    ReturnsInHanded {} Tryd.checked os 7 .any (fun w args => (Rows.encpassPrefixSpec.pre enc Tryd.prog Tryd.f7 Rows.encpassPrefixRow.domain false w args ∧ laidMetH Tryd.prog Rows.encpassPrefixRow.laid w) ∧ sizedMet enc Tryd.prog Tryd.f7 (OpenSpec.ofChange Rows.encpassPrefixSpec) false w args)
      (Rows.encpassPrefixSpec.post enc Tryd.prog Tryd.f7 false true false false) := by
  refine returnsInHanded_of_change_and (C := Tryd.checked) (X := fun w _ => laidMetH Tryd.prog Rows.encpassPrefixRow.laid w) (fun _ _ _ hh h => h.of_heap hh) own started (by kernel_rfl) Tryd.func7
    (ChangeSpec.witness_shaped (enc := enc) (C := Tryd.checked) (os := os) (X := fun w _ => laidMetH Tryd.prog Rows.encpassPrefixRow.laid w) false (World.laidAll Tryd.prog os Rows.encpassPrefixRow.laid) #[.agg #[.int .i64 0, .int .i64 0, .slice none 0 0, .slice none 0 0, .int .i64 0, .bool false, .bool false, .bool false, .bool false, .bool false], .int .i64 0] 8 (World.laidAll_os _ _ _)
      (World.shaped_of_ZipB (by kernel_rfl) (by kernel_rfl)) (by kernel_rfl) (by kernel_rfl) (by kernel_rfl)
      (by rw [MakeChecks.laidMetH_plain _ _ _ (by kernel_rfl)]; exact laidMet_laidAll _ (by kernel_rfl) (by kernel_rfl))) ?_
  intro W base args ds gs before hval0 hW _ _ hL _
  have hval : ∀ (j : Nat) t v, Tryd.f7.params[j]? = some t → args[j]? = some v → Value.okWide Tryd.prog W .any base t v := hval0
  have hT : Cx.Tabs W := Cx.tabs_of_laid hL
  have hW' := hW
  obtain ⟨p, q, hA0, hV, rfl, _, _⟩ := hW
  have hA : DataW.TrodAll enc Tryd.prog W 0 (fun _ => true) true Tryd.f7.params.toList args.toList ds p := hA0
  rw [Tryd.params7] at hA hval
  obtain ⟨v0, vs0, d0, ds0, p0, q0, hargs, rfl, rfl, h0, r0⟩ := trodAll_cons hA
  obtain ⟨v1, vs1, d1, ds1, p1, q1, rfl, rfl, rfl, h1, r1⟩ := trodAll_cons r0
  obtain ⟨rfl, rfl, rfl⟩ := trodAll_nil r1
  obtain rfl : args = #[v0, v1] := by cases args; simp_all
  obtain ⟨rfl, rfl⟩ := trodVars_none hV
  clear hA0 hval0
  simp only [List.append_nil] at hW'
  have l0 : ∀ x ∈ p0, x.block < W.heap.size := fun x hx => hW'.lt x (by simp [hx])
  have l1 : ∀ x ∈ p1, x.block < W.heap.size := fun x hx => hW'.lt x (by simp [hx])
  obtain ⟨B0, rfl, hB0⟩ := open_L5 (hval 0 28 v0 rfl rfl) h0
  obtain ⟨i1, rfl, _, _, wi1⟩ := open_int Tryd.underlying3 (hval 1 3 v1 rfl rfl) h1
  refine (walk B0 i1 W hT hB0).mono fun e W' ⟨he, hb⟩ => ?_
  subst he
  exact ⟨_, rfl, post_low (pa := p0 ++ (p1 ++ ([]))) (pv := []) hW' (fun _ _ _ => (trodAll_cons_mk (shut_bool Tryd.underlying4 _) trodAll_mk0)) (fun sp hsp => (trodAll_cons_mk (trod_low laidOut (by kernel_rfl) (of_decide_eq_true (by kernel_rfl)) h0 hb l0 (fun x hx => hsp x (by simp [hx]))) (trodAll_cons_mk (trod_low laidOut (by kernel_rfl) (of_decide_eq_true (by kernel_rfl)) h1 hb l1 (fun x hx => hsp x (by simp [hx]))) trodAll_mk0))) (fun _ _ => rfl) (by simp) hb (ok_one (by kernel_rfl) rfl (okWide_bool_mk Tryd.underlying4 _))⟩

theorem over : Rows.encpassPrefixRow.holds Tryd.pinned (OpenSpec.ofChange Rows.encpassPrefixSpec) :=
  OpenClaim.holds_of_wide 7 Tryd.f7 rfl rfl rfl rfl rfl rfl rfl ⟨rfl, rfl, rfl, rfl, rfl⟩ rfl rfl rfl rfl rfl (by kernel_rfl) Tryd.func7 (by kernel_rfl)
    (of_decide_eq_true (by kernel_rfl)) (by unfold Func.isWrapper; first | (rw [if_pos (by decide +kernel)]; kernel_rfl) | (rw [if_neg (by decide +kernel)]; exact ⟨rfl, rfl⟩))
    (fun os started H enc _ => lifted os started H enc)
theorem proved : Rows.EncpassPrefixCardSaid :=
  Claim7.holds_tied_plain_at .later [] [.data, .data, .data] true Rows.encpassPrefixCard.stood.harness false over (fun _ h => by cases h) (by kernel_rfl) (fun _ h => by cases h) encpassPrefix_row_tie rfl ⟨rfl, rfl⟩ (by kernel_rfl) rfl
    (fun f fn hf hfn => by
      obtain rfl : f = 7 := Option.some.inj ((show Tryd.prog.funcNamed Rows.encpassPrefixRow.func = some 7 by kernel_rfl).symm.trans hf) |>.symm
      obtain rfl : fn = Tryd.f7 := (Option.some.inj (Tryd.func7.symm.trans hfn)).symm
      exact ⟨by kernel_rfl, fun j t ht => by
        rw [Tryd.params7] at ht
        have hm : t ∈ [28, 3] := by simpa using Array.mem_of_getElem? ht
        have hall : ([28, 3].all fun u => !Tryd.prog.wantsStandIn u) = true := by kernel_rfl
        exact (show Tryd.prog.wantsStandIn t = false by simpa using List.all_eq_true.1 hall t hm)⟩)
    (by kernel_rfl)
#print axioms proved
end Go.Proofs.YtbhjapgioaiocaaDoor.encpassPrefix
