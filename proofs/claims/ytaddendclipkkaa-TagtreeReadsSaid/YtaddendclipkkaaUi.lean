/-
  Layer 10: the reference's Decode, walked.
-/
import Derived.Test.YtaddendclipkkaaUh
import Derived.Test.YtaddendclipkkaaTi
set_option maxRecDepth 100000
namespace Go.Proofs.Ytaddendclipkkaa
open Go.RowKit

theorem pst_one {σ : Type} (g : σ → Nd → Int × Int × σ) (t : Int) (N : Nat → Nd) (D : Nat) (s : σ) (j : Nat) (he : (pst g t N D s j).e = 0) : pst g t N D s (j + 1) =
    ⟨(nrun g t FU (pst g t N D s j).s { N (D - 1 - j) with l := max (N (D - 1 - j)).l (pst g t N D s j).low }).1, (nrun g t FU (pst g t N D s j).s { N (D - 1 - j) with l := max (N (D - 1 - j)).l (pst g t N D s j).low }).2.1,
      (nrun g t FU (pst g t N D s j).s { N (D - 1 - j) with l := max (N (D - 1 - j)).l (pst g t N D s j).low }).2.2.l, fun k => if k = D - 1 - j then (nrun g t FU (pst g t N D s j).s { N (D - 1 - j) with l := max (N (D - 1 - j)).l (pst g t N D s j).low }).2.2 else (pst g t N D s j).n k⟩ := by
  show (if (pst g t N D s j).e ≠ 0 then _ else _) = _
  rw [if_neg (by rw [he]; simp)]
theorem upP_leaf (Q : Nat → Nat → Nat → Nd) (x y : Nat) (R : Nat → Nd) {D : Nat} (hD : 1 ≤ D) : upP Q x y R D 0 x y = R 0 := by
  unfold upP
  rw [if_pos ⟨hD, by simp, by simp⟩]
set_option maxHeartbeats 8000000
theorem udec_c {W : World} {B B2 b g r w h D : Nat} {u : Int} {Q : Nat → Nat → Nat → Nd} {bs : List Int} {tt : Nat} (H : Ur W B b g w h D u Q) (hS : Sd W B2 r bs tt) (hle : tt ≤ 8 * bs.length) (hby : Bi.bytes bs) (hl : bs.length ≤ 100000000) (x y t : Int) :
    Calls Try.prog 40 #[.pointer (some ⟨b, 0, none⟩), .pointer (some ⟨r, 0, none⟩), .int .i64 x, .int .i64 y, .int .i64 t] W fun e W' => e = .returned (.tuple #[.bool (deB bs Q w h D u tt x y t), .int .i64 (deE bs Q w h D u tt x y t)]) ∧
      Du W B B2 b g r w h D bs (deT bs Q w h D u tt x y t) (deU bs Q w h D u tt x y t) (deQ bs Q w h D u tt x y t) W' := by
  have hb := sbits_c W B2 r bs tt 0 hS hle hby hl
  rw [(rb_zero bs tt).1, (rb_zero bs tt).2.1, (rb_zero bs tt).2.2] at hb
  have hn := fun X => nilU X ⟨b, 0, none⟩
  have mid : ∀ Y, SGives B2 r bs tt 0 0 W (.returned (.tuple #[.int .i64 0, .int .i64 0])) Y → (Ur Y B b g w h D u Q ∧ Sd Y B2 r bs tt ∧ Kf (fun k => Fp W r k) W Y ∧ ∀ k, Fp Y r k → Fp W r k ∨ W.heap.size ≤ k) := fun Y hg => by
    obtain ⟨_, h1, h2⟩ := hg
    exact ⟨H.keep fun k hf => h2.block k (H.foot k hf).2 (fun hn => su_ne hS H k hn hf), h1, ⟨h2.os, h2.tape, h2.output, h2.size, fun k hk hn => h2.block k hk hn⟩, h2.foot⟩
  have MID := Lib.hid mid
  have c0 := H.cells.1
  have c4 := H.cells.2.2.2.2.1
  have HD := Lib.hid H.dd
  have US := Lib.hid H.us
  have HBL := Lib.hid hl
  have HBY := Lib.hid hby
  have VB := Lib.hid H.vb
  have QB := Lib.hid H.qb
  have HLE := Lib.hid hle
  have HU0 := Lib.hid H
  have HS0 := Lib.hid hS
  have WH : Hid (1 ≤ w ∧ 1 ≤ h) := Lib.hid ⟨H.w1, H.h1⟩
  have UNL := Lib.hid H.d
  clear mid H hS hl hby hle
  by_cases h1 : u = 1
  · have re : deE bs Q w h D u tt x y t = 6 := by unfold deE; rw [if_pos h1]
    have rb : deB bs Q w h D u tt x y t = false := by unfold deB; rw [re]; rfl
    have rt : deT bs Q w h D u tt x y t = tt := by unfold deT; rw [if_pos (.inl h1)]
    have ru : deU bs Q w h D u tt x y t = u := by unfold deU; rw [re]; rfl
    have rq : deQ bs Q w h D u tt x y t = Q := by unfold deQ; rw [re]; rfl
    rw [re, rb, rt, ru, rq]
    rw [decide_eq_true h1] at c4
    clear re rb rt ru rq hb
    go_enter Try.func40, Try.ntmps40
    go_wp2_with fail
    go_ret2
    exact ⟨rfl, ⟨g, .inl rfl, HU0.out⟩, HS0.out, HLE.out, Kf.refl _ _, fun k hk => .inl hk⟩
  rw [decide_eq_false h1] at c4
  have H1 := Lib.hid h1
  by_cases hok : okT w h x y t 65536
  · obtain ⟨⟨i1, i2, i3, i4⟩, i5, i6⟩ := id hok
    have hin : inT w h x y := hok.1
    obtain ⟨X, rfl⟩ : ∃ n : Nat, x = n := ⟨x.toNat, by omega⟩
    obtain ⟨Y, rfl⟩ : ∃ n : Nat, y = n := ⟨y.toNat, by omega⟩
    have HXY : Hid (X < w ∧ Y < h) := Lib.hid (by omega)
    have HT : Hid (0 ≤ t ∧ t ≤ 65536) := Lib.hid ⟨i5, i6⟩
    have HIN := Lib.hid hin
    obtain ⟨P, hP⟩ : ∃ P, P = pst (decG bs) t (fun k => Q k (X / 2 ^ k) (Y / 2 ^ k)) D tt D := ⟨_, rfl⟩
    have re : deE bs Q w h D u tt (X : Int) (Y : Int) t = P.e := by unfold deE; rw [if_neg h1, if_pos hok, hP]; rfl
    have rb : deB bs Q w h D u tt (X : Int) (Y : Int) t = if P.e = 0 then (P.n 0).b && decide ((P.n 0).l < t) else false := by unfold deB; rw [re, hP]; rfl
    have rt : deT bs Q w h D u tt (X : Int) (Y : Int) t = P.s := by unfold deT; rw [if_neg (fun c => c.elim h1 (fun d => d hok)), hP]; rfl
    have ru : deU bs Q w h D u tt (X : Int) (Y : Int) t = if P.e = 0 then 2 else u := by unfold deU; rw [re]
    have rq : deQ bs Q w h D u tt (X : Int) (Y : Int) t = if P.e = 0 then upP Q X Y P.n D else Q := by unfold deQ; rw [re, hP]; rfl
    rw [re, rb, rt, ru, rq]
    have HP := Lib.hid hP
    clear re rb rt ru rq hP hok hin h1 i1 i2 i3 i4
    generalize hdB : (if P.e = 0 then (P.n 0).b && decide ((P.n 0).l < t) else false) = dB
    generalize hdU : (if P.e = 0 then (2 : Int) else u) = dU
    generalize hdQ : (if P.e = 0 then upP Q X Y P.n D else Q) = dQ
    have HDB := Lib.hid hdB
    have HDU := Lib.hid hdU
    have HDQ := Lib.hid hdQ
    clear hdB hdU hdQ
    obtain ⟨i0, hi, hz0, hz1, hz2⟩ := info_parts infoU
    go_enter Try.func40, Try.ntmps40
    go_wp2_with fail
    refine hb.mono ?_
    rintro e w1 ⟨rfl, h1, h2⟩
    have U1 := Lib.hid (MID.out w1 ⟨rfl, h1, h2⟩)
    have hlf := uleaf_c U1.out.1 (X : Int) (Y : Int)
    rw [decide_eq_true HIN.out] at hlf
    clear hb h1 h2 c0 c4 MID
    obtain ⟨_, _, _, ⟨m, c3⟩, _, _⟩ := U1.out.1.cells
    have un : Un w1 g w h D Q := U1.out.1.nds
    obtain ⟨cs, hcs, hcs2⟩ := id un
    obtain ⟨z1, z2⟩ := un.size WH.out.1 WH.out.2 cs hcs
    have hsz := U1.out.1.size
    have hN0 : 1 ≤ bs.length + 1 := by omega
    have CS2 := Lib.hid hcs2
    have NP : Hid (1 ≤ Go.Proofs.Ytaddendclipkkaa.bs w h D) := Lib.hid (by
      have := ix_lt WH.out.1 WH.out.2 (k := 0) (D := D) (x := X) (y := Y) (by have := HD.out.1; omega) HXY.out.1 HXY.out.2
      omega)
    obtain ⟨N, hNe⟩ : ∃ N, N = Go.Proofs.Ytaddendclipkkaa.bs w h D := ⟨_, rfl⟩
    rw [← hNe] at c3 z1 z2 hsz NP
    have HNE := Lib.hid hNe
    have hlen : (cs.toList.take (N * 3)).length = N * 3 := by simp; omega
    have HNW := Lib.hid (fun (Z : Obj) (j : Nat) (v : Value) (hj : (cs.toList.take (N * 3))[j]? = some v) => (by
      have hj3 : j < N * 3 := by
        have := (List.getElem?_eq_some_iff.1 hj).1
        omega
      rw [List.getElem?_take_of_lt hj3, Array.getElem?_toList] at hj
      rw [show ((⟨g, 0, none⟩ : Addr).add j) = ⟨g, j, none⟩ by simp [Addr.add]; intro h; exact h.symm, (hcs.below (below_alloc (Below.refl _ w1) Z)).cell]
      exact hj : (w1.alloc Z).cell? ((⟨g, 0, none⟩ : Addr).add j) = some v))
    have HC := Lib.hid (fun (i : Nat) (hi : i < N * 3) => (by rw [List.getElem?_take_of_lt hi, Array.getElem?_toList] : (cs.toList.take (N * 3))[i]? = cs[i]?))
    have HA := Lib.hid (fun Z => (Below.refl w1.heap.size w1).alloc (Nat.le_refl _) Z)
    have c3a : (w1.alloc (.cells #[] 105)).cell? ⟨b, 3, none⟩ = some (.slice (some ⟨g, 0, none⟩) N m) := cell_below (below_alloc (Below.refl _ w1) (.cells #[] 105)) c3
    clear un hcs hcs2 hNe
    generalize cs.toList.take (N * 3) = LL at *
    go_wp2_with (first | (go_at_call 63; (with_reducible refine hlf.mono ?_); rintro e wn ⟨rfl, rfl⟩) | (at_builtin; refine wpList_append_own_at _ rfl _ _ 95 rfl w1.heap.size 105 i0 _ 3 24 Try.underlying95 hi hz0 hz1 hz2 rfl (by decide) _ 0 [] rfl (World.ownsRow_made w1 #[] 0 (Nat.le_refl _) (by decide) (by simp)) ⟨g, 0, none⟩ N m LL rfl (by omega) (HNW.out _) z2 (by unfold maxLen; omega) (by omega) (by simp) ?_))
    intro v' w2 hown hgrow _ hat
    have hbw : Below w1.heap.size w1 w2 := (HA.out _).grown hgrow (by simp) (fun k hk => by simp [Value.ownBlock] at hk; omega)
    obtain ⟨q1, q2⟩ := hown
    have hres : ∃ g1 m1, v' = .slice (some ⟨g1, 0, none⟩) N m1 ∧ Un w2 g1 w h D Q ∧ w1.heap.size ≤ g1 := by
      rcases q2 with ⟨rfl, h2⟩ | ⟨g', cap, cur, rfl, h2, h3, h4, h5, h6, h7⟩
      · have := NP.out; omega
      · refine ⟨g', cap, rfl, ⟨cur, h3, fun k x y hk hx hy => ?_⟩, h2⟩
        have hi3 := ix_lt WH.out.1 WH.out.2 hk hx hy
        rw [← HNE.out] at hi3
        have ag : ∀ i, i < N * 3 → cur[i]? = cs[i]? := fun i hi => by
          rw [← HC.out i hi, ← h7, List.getElem?_take_of_lt hi, Array.getElem?_toList]
        rw [ag _ (by omega), ag _ (by omega), ag _ (by omega)]
        exact CS2.out k x y hk hx hy
    obtain ⟨g1, m1, rfl, hun, hg1⟩ := hres
    have U2 := Lib.hid (And.intro (U1.out.1.below hbw) (And.intro (sd_keep U1.out.2.1 (fun k hf => hbw.block k (sd_foot U1.out.2.1 k hf).2)) (And.intro (U1.out.2.2.1.trans (Kf.of_below _ hbw)) (And.intro (fun k hk => U1.out.2.2.2 k (fpB hbw (sd_lt U1.out.2.1) hk)) (And.intro hun (Nat.le_trans U1.out.2.2.1.size hg1))))))
    have G1N : Hid (g1 ≠ g ∧ g1 ≠ b) := Lib.hid (by
      have h1 := (HU0.out.foot g (.inr rfl)).2
      have h2 := (HU0.out.foot b (.inl rfl)).2
      have h3 := U2.out.2.2.2.2.2
      omega)
    have hpth := path_c U2.out.1 X Y HXY.out.1 HXY.out.2
    clear q1 q2 hbw hgrow hat hun hg1 hlf U1 HNW HC HA CS2 c3 c3a z1 z2 hlen hN0
    go_wp2_with fail
    refine hpth.mono ?_
    rintro e w4 ⟨gp, mp, rfl, hpI, hb4, hg1, hg2⟩
    have LL := pthL_len w h X Y D
    rw [LL]
    obtain ⟨NN, hNN⟩ : ∃ NN : Nat → Nd, NN = fun k => Q k (X / 2 ^ k) (Y / 2 ^ k) := ⟨_, rfl⟩
    have hq0 := HP.out
    rw [← hNN] at hq0
    have HP2 := Lib.hid hq0
    have E4 : Hid ((pst (decG bs) t NN D tt 0).e = 0 ∧ Ed W B B2 b g r gp g1 (pthL w h X Y D) w h D u Q (upR Q X Y (pst (decG bs) t NN D tt 0).n D 0) bs (pst (decG bs) t NN D tt 0).s w4) := Lib.hid (by
      rw [upR_zero]
      have hz := U2.out.2.2.1.size
      have hgl := U2.out.2.2.2.2.1.lt
      exact ⟨rfl, U2.out.1.below hb4, U2.out.2.2.2.2.1.keep (hb4.block _ hgl), sd_keep U2.out.2.1 (fun k hf => hb4.block k (sd_foot U2.out.2.1 k hf).2), HLE.out, hpI, fun hf => by have := (sd_foot U2.out.2.1 gp (fpB hb4 (sd_lt U2.out.2.1) hf)).2; omega, hg2, U2.out.2.2.1.trans (Kf.of_below _ hb4), fun k hk => U2.out.2.2.2.1 k (fpB hb4 (sd_lt U2.out.2.1) hk), by omega, U2.out.2.2.2.2.2, by omega⟩)
    have LAT := Lib.hid (pthL_at w h X Y D)
    have HLL := Lib.hid LL
    have HNN := Lib.hid hNN
    clear hpI hb4 hg1 hg2 hpth LL hNN hq0 HP U2
    go_wp2_with fail
    go_loopw [15, 68] (fun low z wr => ∃ j : Nat, j ≤ D ∧ z = .int .i64 (j : Int) ∧ low = .int .i64 (pst (decG bs) t NN D tt j).low ∧ Hid ((pst (decG bs) t NN D tt j).e = 0 ∧ Ed W B B2 b g r gp g1 (pthL w h X Y D) w h D u Q (upR Q X Y (pst (decG bs) t NN D tt j).n D j) bs (pst (decG bs) t NN D tt j).s wr)) (fun _ z _ => D - (intOf z).toNat)
    case atStart => exact ⟨0, Nat.zero_le _, rfl, rfl, E4.out⟩
    case round =>
      obtain ⟨j, hj, rfl, rfl, hT⟩ := hrel
      by_cases hlt : j < D
      · obtain ⟨k, hk⟩ : ∃ k, k = D - 1 - j := ⟨_, rfl⟩
        have hX := dm_at HXY.out.1 k
        have hY := dm_at HXY.out.2 k
        have hkD : k < D := by omega
        obtain ⟨ii, hii⟩ : ∃ ii, ii = ix w h k (X / 2 ^ k) (Y / 2 ^ k) := ⟨_, rfl⟩
        have pc : wr.cell? ⟨gp, j, none⟩ = some (.int .i64 (ii : Int)) := by
          rcases hT.out.2.hp with h0 | ⟨b', off, e, hr⟩
          · have := HLL.out; rw [h0] at this; simp at this; omega
          · simp at e
            obtain ⟨rfl, rfl⟩ := e
            have h1 := hr j (by rw [HLL.out]; exact hlt)
            rw [LAT.out j (by rw [HLL.out]; exact hlt), ← hk, ← hii] at h1
            simpa using h1
        obtain ⟨n0, n1, n2⟩ := hT.out.2.un.node hkD hX hY hii
        have EU : Hid (upR Q X Y (pst (decG bs) t NN D tt j).n D j k (X / 2 ^ k) (Y / 2 ^ k) = NN k) := Lib.hid (by rw [upR_at _ _ _ _ (by omega), HNN.out])
        rw [EU.out] at n0 n1 n2
        have hlt2 := ix_lt WH.out.1 WH.out.2 hkD hX hY
        rw [← hii, ← HNE.out] at hlt2
        have hsz := hsz
        have NB : Hid (0 ≤ (NN k).l ∧ (NN k).l ≤ 65536) := Lib.hid (by
          have h1 := QB.out k (X / 2 ^ k) (Y / 2 ^ k)
          rw [HNN.out]
          exact h1)
        have PB := Lib.hid (pst_bd (decG bs) t HT.out.2 NN D tt (fun k => by
          have h1 := QB.out k (X / 2 ^ k) (Y / 2 ^ k)
          rw [HNN.out]
          exact h1) j).1
        have PE := Lib.hid (pst_one (decG bs) t NN D tt j hT.out.1)
        rw [← hk] at PE
        have T0 := Lib.hid hT.out.2
        have HII := Lib.hid hii
        have HK := Lib.hid hk
        have hm1 : (j : Int) < (D : Int) := by omega
        have hltI : (ii : Int) < (N : Int) := Int.ofNat_lt.2 hlt2
        generalize hP0 : pst (decG bs) t NN D tt j = p0 at *
        have HP0 := Lib.hid hP0
        obtain ⟨pe, ps, plow, pn⟩ := p0
        dsimp only at *
        generalize hNk : NN k = nk at *
        have HNK := Lib.hid hNk
        obtain ⟨nv, nl, nb⟩ := nk
        dsimp only at *
        have hmx := hmx
        have hD17 := HD.out.2.1
        have GL := Lib.hid (And.intro T0.out.gl T0.out.un.lt)
        have DF := Lib.hid (fun z hz => (T0.out.ur.foot z hz).2)
        have hw0 : Hid (W.heap.size ≤ wr.heap.size) := Lib.hid T0.out.kf.size
        clear hT hP0 hNk hii hk hX hY hlt2
        have hML : 0 ≤ max nl plow ∧ max nl plow ≤ 65536 := by have := PB.out; have := NB.out; omega
        have X0 : Hid (Ej (nrun (decG bs) t FU ps ⟨nv, max nl plow, nb⟩) t W B B2 b g r gp g1 (pthL w h X Y D) w h D u Q (upR Q X Y pn D j) bs wr.heap.size FU ps ⟨nv, max nl plow, nb⟩ (wr.alloc (.cells #[.int .i64 nv, .int .i64 (max nl plow), .bool nb] 105))) := Lib.hid (by
          have hA := below_alloc (Below.refl _ wr) (.cells #[.int .i64 nv, .int .i64 (max nl plow), .bool nb] 105)
          exact ⟨rfl, .inr (by unfold FU; simp only; omega), hML, T0.out.step hA, Blk.new wr 105 #[.int .i64 nv, .int .i64 (max nl plow), .bool nb], by have := DF.out g (.inr rfl); omega, by have := DF.out b (.inl rfl); omega, by have := GL.out.2; omega, by have := GL.out.1; omega, hw0.out⟩)
        go_wp2_with fail
        clear T0
        generalize wr.heap.size = gn at *
        generalize hml : max nl plow = ml at *
        generalize wr.alloc (.cells #[.int .i64 nv, .int .i64 ml, .bool nb] 105) = w5 at *
        clear n0 n1 n2 pc hmx hML
        generalize hTT : nrun (decG bs) t FU ps ⟨nv, ml, nb⟩ = TT at *
        have HTT := Lib.hid hTT
        have HML := Lib.hid hml
        clear hTT hml
        go_loopw [] (fun wr => ∃ (f : Nat) (s' : Nat) (n : Nd), Hid (Ej TT t W B B2 b g r gp g1 (pthL w h X Y D) w h D u Q (upR Q X Y pn D j) bs gn f s' n wr ∧ n.v = nv)) (fun wr => (65537 - lvOf (wr.cell? ⟨gn, 1, none⟩)).toNat + kbOf (wr.cell? ⟨gn, 2, none⟩))
        case atStart => exact ⟨_, _, _, X0.out, rfl⟩
        case round =>
          obtain ⟨f, s', ⟨v', l, b'⟩, hB⟩ := hrel
          obtain rfl : v' = nv := hB.out.2
          have b0 : wr.cell? ⟨gn, 0, none⟩ = some (.int .i64 v') := hB.out.1.box.cell 0
          have b1 : wr.cell? ⟨gn, 1, none⟩ = some (.int .i64 l) := hB.out.1.box.cell 1
          have b2 : wr.cell? ⟨gn, 2, none⟩ = some (.bool b') := hB.out.1.box.cell 2
          have bf := hB.out.1.box.free
          have LO := Lib.hid (show 0 ≤ l ∧ l ≤ 65536 from hB.out.1.lo)
          have B0 := Lib.hid hB.out.1
          clear hB
          by_cases hc : l < t ∧ b' = false
          · obtain ⟨hlt1, rfl⟩ := hc
            obtain ⟨f, rfl⟩ : ∃ f', f = f' + 1 := ⟨f - 1, by have := B0.out.fuel; simp at this; omega⟩
            have RN := Lib.hid ((nrun_go (decG bs) t f s' v' l hlt1).symm.trans B0.out.run)
            have vp := sget_c wr B2 r bs s' B0.out.ed.sd B0.out.ed.le HBY.out HBL.out
            have gl2 := Lib.hid (Bi.gN_le B0.out.ed.le).2
            have rn := RN.out
            have dg : decG bs s' ⟨v', l, false⟩ = (Bi.gR bs s', Bi.gE bs s', Bi.gN bs s') := rfl
            rw [dg] at rn
            dsimp only at rn
            generalize Bi.gR bs s' = gR at *
            generalize Bi.gE bs s' = gE at *
            generalize Bi.gN bs s' = gN at *
            clear dg RN
            have RN := Lib.hid rn
            clear rn
            by_cases he : gE = 0
            · subst he
              by_cases hb1 : gR = 1
              · subst hb1
                have rn := RN.out
                rw [if_neg (by simp), if_pos rfl] at rn
                have RN2 := Lib.hid rn
                clear rn RN
                go_wp2_with fail
                refine vp.mono ?_
                rintro e w6 ⟨rfl, hV, hK⟩
                have hbx : Blk w6 gn 105 #[.int .i64 v', .int .i64 l, .bool false] := (hK.block gn B0.out.box.lt (not_sp B0.out.ed.sd B0.out.box (by decide))).trans B0.out.box
                have E6 := Lib.hid (B0.out.ed.get hV gl2.out hK)
                have BX := Lib.hid hbx
                have k2 : w6.cell? ⟨gn, 2, none⟩ = some (.bool false) := hbx.cell 2
                have kf := hbx.free
                clear vp hV hK hbx b0 bf
                have F3 : Hid (Ej TT t W B B2 b g r gp g1 (pthL w h X Y D) w h D u Q (upR Q X Y pn D j) bs gn f gN ⟨v', l, true⟩ (w6.setCell ⟨gn, 2, none⟩ (.bool true))) := Lib.hid ⟨RN2.out, .inl rfl, LO.out,
                  E6.out.chg BX.out B0.out.gnew B0.out.gng B0.out.gnb B0.out.gnp (Kf.set (S := fun k => k = gn) gn 2 _ rfl _) (E6.out.un.keep (Below.heap_setCell _ _ _ _ (by simp; exact fun e => B0.out.gn1 e.symm))), BX.out.set 2 _, B0.out.gng, B0.out.gnb, B0.out.gn1, B0.out.gnp, B0.out.gnew⟩
                go_wp2_with fail
                go_roundw
                case rel => exact ⟨f, _, _, F3.out, rfl⟩
                case measure =>
                  have z1 : (w6.setCell ⟨gn, 2, none⟩ (.bool true)).cell? ⟨gn, 1, none⟩ = some (.int .i64 l) := F3.out.box.cell 1
                  have z2 : (w6.setCell ⟨gn, 2, none⟩ (.bool true)).cell? ⟨gn, 2, none⟩ = some (.bool true) := F3.out.box.cell 2
                  rw [z1, z2, b1, b2]
                  show (65537 - l).toNat + 0 < (65537 - l).toNat + 1
                  omega
              · have hb2 : (gR == 1) = false := by simpa using hb1
                have rn := RN.out
                rw [if_neg (by simp), if_neg hb1] at rn
                have RN2 := Lib.hid rn
                have lw : IntKind.i64.wrap (l + 1) = l + 1 := by have := LO.out; rw [IntWalk.i64_left]; unfold wrap64; omega
                clear rn RN hb1
                go_wp2_with fail
                refine vp.mono ?_
                rintro e w6 ⟨rfl, hV, hK⟩
                have hbx : Blk w6 gn 105 #[.int .i64 v', .int .i64 l, .bool false] := (hK.block gn B0.out.box.lt (not_sp B0.out.ed.sd B0.out.box (by decide))).trans B0.out.box
                have E6 := Lib.hid (B0.out.ed.get hV gl2.out hK)
                have BX := Lib.hid hbx
                have k1 : w6.cell? ⟨gn, 1, none⟩ = some (.int .i64 l) := hbx.cell 1
                have kf := hbx.free
                clear vp hV hK hbx b0 bf
                have hfu : (t - l).toNat < f + 1 := by have := B0.out.fuel; simpa using this
                have hlo := LO.out
                have F3 : Hid (Ej TT t W B B2 b g r gp g1 (pthL w h X Y D) w h D u Q (upR Q X Y pn D j) bs gn f gN ⟨v', l + 1, false⟩ (w6.setCell ⟨gn, 1, none⟩ (.int .i64 (l + 1)))) := Lib.hid ⟨RN2.out, .inr (by simp only; omega), by have := HT.out; simp only; omega,
                  E6.out.chg BX.out B0.out.gnew B0.out.gng B0.out.gnb B0.out.gnp (Kf.set (S := fun k => k = gn) gn 1 _ rfl _) (E6.out.un.keep (Below.heap_setCell _ _ _ _ (by simp; exact fun e => B0.out.gn1 e.symm))), BX.out.set 1 _, B0.out.gng, B0.out.gnb, B0.out.gn1, B0.out.gnp, B0.out.gnew⟩
                clear hfu hlo
                go_wp2_with fail
                go_roundw
                case rel => exact ⟨f, _, _, F3.out, rfl⟩
                case measure =>
                  have z1 : (w6.setCell ⟨gn, 1, none⟩ (.int .i64 (l + 1))).cell? ⟨gn, 1, none⟩ = some (.int .i64 (l + 1)) := F3.out.box.cell 1
                  have z2 : (w6.setCell ⟨gn, 1, none⟩ (.int .i64 (l + 1))).cell? ⟨gn, 2, none⟩ = some (.bool false) := F3.out.box.cell 2
                  rw [z1, z2, b1, b2]
                  show (65537 - (l + 1)).toNat + 1 < (65537 - l).toNat + 1
                  have := LO.out
                  omega
            · have he2 : (gE != 0) = true := by simpa using he
              have rn := RN.out
              rw [if_pos he] at rn
              have PL : Hid (P = ⟨gE, gN, l, fun q => if q = k then ⟨v', l, false⟩ else pn q⟩) := Lib.hid (by
                have h1 := PE.out
                rw [← rn] at h1
                dsimp only at h1
                have h2 := pst_err (decG bs) t NN D tt (j + 1) (by rw [h1]; exact he) (D - (j + 1))
                rw [show j + 1 + (D - (j + 1)) = D by omega] at h2
                rw [HP2.out, h2, h1])
              have E0 := Lib.hid (And.intro B0.out.ed gl2.out)
              have HE := Lib.hid he
              clear rn RN he B0
              go_wp2_with fail
              refine vp.mono ?_
              rintro e w6 ⟨rfl, hV, hK⟩
              have E6 := Lib.hid (E0.out.1.get hV E0.out.2 hK)
              clear vp hV hK b0 b1 b2 bf
              go_wp2_with fail
              go_ret2
              have pe : P.e = gE := by rw [PL.out]
              have ps' : P.s = gN := by rw [PL.out]
              have h0 : ¬ P.e = 0 := by rw [pe]; exact HE.out
              rw [← HDB.out, ← HDU.out, ← HDQ.out, if_neg h0, if_neg h0, if_neg h0, pe, ps']
              exact ⟨rfl, ⟨g, .inl rfl, E6.out.ur⟩, E6.out.sd, E6.out.le, E6.out.kf.mono fun k hk => .inl hk, E6.out.ft⟩
          · have hcc : (decide (l < t) = true ∧ b' = true) ∨ decide (l < t) = false := by
              by_cases hz : l < t
              · left
                refine ⟨decide_eq_true hz, ?_⟩
                cases b' with
                | true => rfl
                | false => exact absurd ⟨hz, rfl⟩ hc
              · exact .inr (decide_eq_false hz)
            have TE : Hid (TT = (0, s', ⟨v', l, b'⟩)) := Lib.hid (B0.out.run.symm.trans (nrun_stop (decG bs) t f s' _ hc))
            have hX := dm_at HXY.out.1 k
            have hY := dm_at HXY.out.2 k
            have hP3 := Un.put3 WH.out.1 WH.out.2 B0.out.ed.un hkD hX hY ⟨v', l, b'⟩ (o := ii * 3) (by rw [HII.out])
            have hK3 : Kf (fun k => k = g1) wr (((wr.setCell ⟨g1, ii * 3, none⟩ (.int .i64 v')).setCell ⟨g1, ii * 3 + 1, none⟩ (.int .i64 l)).setCell ⟨g1, ii * 3 + 2, none⟩ (.bool b')) := ((Kf.set (S := fun k => k = g1) g1 (ii * 3) (.int .i64 v') rfl wr).trans (Kf.set (S := fun k => k = g1) g1 (ii * 3 + 1) (.int .i64 l) rfl _)).trans (Kf.set (S := fun k => k = g1) g1 (ii * 3 + 2) (.bool b') rfl _)
            have hpn : pst (decG bs) t NN D tt (j + 1) = ⟨0, s', l, fun q => if q = k then ⟨v', l, b'⟩ else pn q⟩ := by
              have h1 := PE.out
              rw [TE.out] at h1
              exact h1
            have E3 : Hid ((pst (decG bs) t NN D tt (j + 1)).e = 0 ∧ Ed W B B2 b g r gp g1 (pthL w h X Y D) w h D u Q (upR Q X Y (pst (decG bs) t NN D tt (j + 1)).n D (j + 1)) bs (pst (decG bs) t NN D tt (j + 1)).s (((wr.setCell ⟨g1, ii * 3, none⟩ (.int .i64 v')).setCell ⟨g1, ii * 3 + 1, none⟩ (.int .i64 l)).setCell ⟨g1, ii * 3 + 2, none⟩ (.bool b'))) := Lib.hid (by
              rw [hpn]
              obtain ⟨cs, hcs, _⟩ := B0.out.ed.un
              have hq := upR_next Q X Y pn (fun q => if q = k then (⟨v', l, b'⟩ : Nd) else pn q) (D := D) (j := j) (n := ⟨v', l, b'⟩) hlt (fun q => by rw [← HK.out])
              rw [← HK.out] at hq
              rw [hq] at hP3
              exact ⟨rfl, B0.out.ed.chg hcs B0.out.ed.nnew G1N.out.1 G1N.out.2 B0.out.ed.ne hK3 hP3⟩)
            have HPN := Lib.hid hpn
            have gf := B0.out.ed.un.free
            obtain ⟨m0, m1, m2⟩ := B0.out.ed.un.node hkD hX hY HII.out
            have BX := Lib.hid (B0.out.box)
            have GNE := Lib.hid B0.out.gn1
            have q1 : ∀ bb : Bool, (((wr.setCell ⟨g1, ii * 3, none⟩ (.int .i64 v')).setCell ⟨g1, ii * 3 + 1, none⟩ (.int .i64 l)).setCell ⟨g1, ii * 3 + 2, none⟩ (.bool bb)).cell? ⟨gn, 1, none⟩ = some (.int .i64 l) := fun bb => (((BX.out.far (p := ⟨g1, ii * 3, none⟩) GNE.out (.int .i64 v')).far (p := ⟨g1, ii * 3 + 1, none⟩) GNE.out (.int .i64 l)).far (p := ⟨g1, ii * 3 + 2, none⟩) GNE.out (.bool bb)).cell 1
            clear hP3 hK3 hpn hc B0 TE
            rcases hcc with ⟨d1, rfl⟩ | d1
            all_goals
              go_wp2_with fail
              go_roundw
              case rel => exact ⟨j + 1, by omega, by go_num, by rw [HPN.out], E3.out⟩
              case measure => simp [intOf]; omega
      · obtain rfl : j = D := by omega
        have F := Lib.hid hT.out
        clear hT
        have hd1 := HD.out.1
        obtain ⟨c0, c1, _, ⟨mo, c3⟩, c4, c5⟩ := F.out.2.ur.cells
        have bf := F.out.2.ur.freeb
        have fin : ∀ m1, Ur ((wr.setCell ⟨b, 3, none⟩ (.slice (some ⟨g1, 0, none⟩) N m1)).setCell ⟨b, 5, none⟩ (.bool true)) B b g1 w h j 2 (upP Q X Y P.n j) := fun m1 => by
          have hb := pst_bd (decG bs) t HT.out.2 NN j tt (fun k => by
            have h1 := QB.out k (X / 2 ^ k) (Y / 2 ^ k)
            rw [HNN.out]
            exact h1) j
          rw [← HP2.out] at hb
          have hun := F.out.2.un
          rw [upR_end, ← HP2.out] at hun
          have hgB : B ≤ g1 := by
            have h1 := (HU0.out.foot g (.inr rfl))
            have h2 := F.out.2.nnew
            omega
          have hs := F.out.2.ur.swap (m1 := m1) H1.out hun hgB (fun x y => by
            unfold upP
            split
            · rename_i hc
              rw [hb.2.2 0, HNN.out]
              exact VB.out _ _
            · exact VB.out x y) (fun k x y => by
            unfold upP
            split
            · exact hb.2.1 k
            · exact QB.out k x y)
          rw [← HNE.out] at hs
          exact hs
        have FIN := Lib.hid fin
        have P0 : Hid (P.e = 0) := Lib.hid (by rw [HP2.out]; exact F.out.1)
        have PS : Hid (P.s = (pst (decG bs) t NN j tt j).s) := Lib.hid (by rw [HP2.out])
        clear fin
        have IX : Hid (Y * w + X < N) := Lib.hid (by
          have := ix_lt WH.out.1 WH.out.2 (k := 0) (D := j) (x := X) (y := Y) (by omega) HXY.out.1 HXY.out.2
          rw [ix0] at this
          rw [HNE.out]; exact this)
        have hixN := IX.out
        have wm : IntKind.i64.wrap ((Y : Int) * (w : Int)) = ((Y * w : Nat) : Int) := by rw [← Int.natCast_mul, IntWalk.i64_left]; generalize Y * w = p at *; unfold wrap64; omega
        have wa : IntKind.i64.wrap (((Y * w : Nat) : Int) + (X : Int)) = ((Y * w + X : Nat) : Int) := by rw [IntWalk.i64_left]; generalize Y * w = p at *; unfold wrap64; omega
        have hixI : ((Y * w + X : Nat) : Int) < (N : Int) := Int.ofNat_lt.2 hixN
        have ND := Lib.hid (fun (Z : World) (hZ : Ur Z B b g1 w h j 2 (upP Q X Y P.n j)) => by
          have h1 := hZ.node (k := 0) (x := X) (y := Y) (by omega) (show X < w from HXY.out.1) (show Y < h from HXY.out.2) (i := Y * w + X) (ix0 w h X Y).symm
          rw [upP_leaf Q X Y P.n (by omega)] at h1
          exact h1)
        generalize hn0 : P.n 0 = n0 at *
        obtain ⟨nv, nl, nb⟩ := n0
        have HN0 := Lib.hid hn0
        clear hn0
        generalize Y * w + X = ii at *
        generalize Y * w = pp at *
        dsimp only at *
        go_upto_region 27 with fail
        have S27 := Lib.hid (FIN.out m1)
        have d1 := S27.out.cells.2.1
        obtain ⟨m0, m2, m3⟩ := ND.out _ S27.out
        have SF : Hid (Sd ((wr.setCell ⟨b, 3, none⟩ (.slice (some ⟨g1, 0, none⟩) N m1)).setCell ⟨b, 5, none⟩ (.bool true)) B2 r bs (pst (decG bs) t NN j tt j).s ∧ Kf (fun k => Fp W r k ∨ k = b) W ((wr.setCell ⟨b, 3, none⟩ (.slice (some ⟨g1, 0, none⟩) N m1)).setCell ⟨b, 5, none⟩ (.bool true)) ∧ ∀ k, Fp ((wr.setCell ⟨b, 3, none⟩ (.slice (some ⟨g1, 0, none⟩) N m1)).setCell ⟨b, 5, none⟩ (.bool true)) r k → Fp W r k ∨ W.heap.size ≤ k) := Lib.hid (by
          have kb : Kf (fun k => k = b) wr ((wr.setCell ⟨b, 3, none⟩ (.slice (some ⟨g1, 0, none⟩) N m1)).setCell ⟨b, 5, none⟩ (.bool true)) := (Kf.set (S := fun k => k = b) b 3 _ rfl wr).trans (Kf.set (S := fun k => k = b) b 5 _ rfl _)
          have kv : ∀ k, Fp wr r k → ((wr.setCell ⟨b, 3, none⟩ (.slice (some ⟨g1, 0, none⟩) N m1)).setCell ⟨b, 5, none⟩ (.bool true)).heap[k]? = wr.heap[k]? := fun k hf => kb.block k (sd_foot F.out.2.sd k hf).2 fun e => su_ne F.out.2.sd F.out.2.ur k hf (.inl e)
          exact ⟨sd_keep F.out.2.sd kv, (F.out.2.kf.mono fun k hk => .inl hk).trans (kb.mono fun k hk => .inr hk), fun k hf => F.out.2.ft k (fpS (kv r (.inl rfl)) hf)⟩)
        have LE := Lib.hid F.out.2.le
        have GN := Lib.hid F.out.2.nnew
        generalize (wr.setCell ⟨b, 3, none⟩ (.slice (some ⟨g1, 0, none⟩) N m1)).setCell ⟨b, 5, none⟩ (.bool true) = w8 at *
        have hA := below_alloc (Below.refl _ w8) (.cells #[.int .i64 nv, .int .i64 nl, .bool nb] 105)
        have R8 : Hid (Du W B B2 b g r w h j bs P.s dU dQ (w8.alloc (.cells #[.int .i64 nv, .int .i64 nl, .bool nb] 105))) := Lib.hid (by
          rw [← HDU.out, ← HDQ.out, if_pos P0.out, if_pos P0.out, PS.out]
          exact ⟨⟨g1, .inr GN.out, S27.out.below hA⟩, sd_keep SF.out.1 (fun k hf => hA.block k (sd_foot SF.out.1 k hf).2), LE.out, SF.out.2.1.trans (Kf.of_below _ hA), fun k hf => SF.out.2.2 k (fpB hA (sd_lt SF.out.1) hf)⟩)
        clear hA FIN ND c0 c1 c3 c4 c5 bf F S27 SF
        cases nb with
        | false =>
          go_wp2_with fail
          go_ret2
          refine ⟨?_, R8.out⟩
          rw [← HDB.out, if_pos P0.out, P0.out]
          rfl
        | true =>
          go_wp2_with fail
          go_ret2
          refine ⟨?_, R8.out⟩
          rw [← HDB.out, if_pos P0.out, P0.out]
          simp
  · have re : deE bs Q w h D u tt x y t = 2 := by unfold deE; rw [if_neg h1, if_neg hok]
    have rb : deB bs Q w h D u tt x y t = false := by unfold deB; rw [re]; rfl
    have rt : deT bs Q w h D u tt x y t = tt := by unfold deT; rw [if_pos (.inr hok)]
    have ru : deU bs Q w h D u tt x y t = u := by unfold deU; rw [re]; rfl
    have rq : deQ bs Q w h D u tt x y t = Q := by unfold deQ; rw [re]; rfl
    rw [re, rb, rt, ru, rq]
    have hcs : decide (inT w h x y) = false ∨ (decide (inT w h x y) = true ∧ t < 0) ∨ (decide (inT w h x y) = true ∧ 0 ≤ t ∧ 65536 < t) := by
      by_cases hin : inT w h x y
      · rw [decide_eq_true hin]
        by_cases p : t < 0
        · exact .inr (.inl ⟨rfl, p⟩)
        · by_cases q : 65536 < t
          · exact .inr (.inr ⟨rfl, by omega, q⟩)
          · exact absurd ⟨hin, by omega, by omega⟩ hok
      · exact .inl (decide_eq_false hin)
    clear re rb rt ru rq hok
    have HLF := Lib.hid (fun (Z : World) (hZ : Ur Z B b g w h D u Q) => uleaf_c hZ x y)
    rcases hcs with h3 | ⟨h3, h4⟩ | ⟨h3, h4, h5⟩ <;> rw [h3] at HLF <;> clear h3 <;>
     (go_enter Try.func40, Try.ntmps40
      go_wp2_with fail
      refine hb.mono ?_
      rintro e w1 ⟨rfl, h1, h2'⟩
      have U1 := Lib.hid (MID.out w1 ⟨rfl, h1, h2'⟩)
      have hlf := HLF.out w1 U1.out.1
      clear hb h1 h2' c0 c4
      go_wp2_with (first | (go_at_call 63; (with_reducible refine hlf.mono ?_); rintro e wn ⟨rfl, rfl⟩))
      go_ret2
      exact ⟨rfl, ⟨g, .inl rfl, U1.out.1⟩, U1.out.2.1, HLE.out, U1.out.2.2.1.mono fun k hk => .inl hk, U1.out.2.2.2⟩)
end Go.Proofs.Ytaddendclipkkaa
