/-
  Layer 10: the reference's Encode, walked.
-/
import Derived.Test.YtaddendclipkkaaUf
set_option maxRecDepth 100000
namespace Go.Proofs.Ytaddendclipkkaa
open Go.RowKit

/-- The nodes behind the reference's Encode. -/
def ueQ (w h D : Nat) (u : Int) (Q : Nat → Nat → Nat → Nd) (s : List Int) (x y t : Int) : Nat → Nat → Nat → Nd := if u = 2 ∨ ¬ okT w h x y t 65536 then Q else enQ (eQ w h u Q) w h D u s x y t
set_option maxHeartbeats 8000000
theorem uenc_c {W : World} {B B2 b g v w h D : Nat} {u : Int} {Q : Nat → Nat → Nat → Nd} {s : List Int} (H : Ur W B b g w h D u Q) (hV : Vr W B2 v s) (hl : s.length + 1200000 + 32 ≤ 1000000000) (x y t : Int) :
    Calls Try.prog 36 #[.pointer (some ⟨b, 0, none⟩), .pointer (some ⟨v, 0, none⟩), .int .i64 x, .int .i64 y, .int .i64 t] W fun e W' => e = .returned (.int .i64 (enE w h u x y t)) ∧
      Eu W B B2 b g v w h D (enS (eQ w h u Q) w h D u s x y t) (enU w h u x y t) (ueQ w h D u Q s x y t) W' := by
  have hb := vbits_c W B2 v s 0 0 hV (by omega)
  rw [nil_ok.1, nil_ok.2, List.append_nil] at hb
  have hn := fun X => nilU X ⟨b, 0, none⟩
  have mid : ∀ Y, VGives B2 v s 0 W (.returned (.int .i64 0)) Y → (Ur Y B b g w h D u Q ∧ Vr Y B2 v s ∧ Kf (fun k => Fp W v k ∨ Uf b g k) W Y ∧ ∀ k, Fp Y v k → Fp W v k ∨ W.heap.size ≤ k) := fun Y hg => by
    obtain ⟨_, h1, h2⟩ := hg
    exact ⟨H.keep fun k hf => h2.block k (H.foot k hf).2 (fun hn => not_uf hV H k hn hf), h1, ⟨h2.os, h2.tape, h2.output, h2.size, fun k hk hn => h2.block k hk fun hf => hn (.inl hf)⟩, h2.foot⟩
  have MID := Lib.hid mid
  have c0 := H.cells.1
  have HD := Lib.hid H.dd
  have US := Lib.hid H.us
  have HL := Lib.hid hl
  have VB := Lib.hid H.vb
  have QB0 := Lib.hid H.qb
  clear mid H hV hl
  by_cases h2 : u = 2
  · subst h2
    have re : enE w h 2 x y t = 6 := by unfold enE; rw [if_pos rfl]
    have rs : enS (eQ w h 2 Q) w h D 2 s x y t = s := by unfold enS; rw [if_pos (.inl rfl)]
    have ru : enU w h 2 x y t = 2 := by unfold enU; rw [if_pos (.inl rfl)]
    have rq : ueQ w h D 2 Q s x y t = Q := by unfold ueQ; rw [if_pos (.inl rfl)]
    rw [re, rs, ru, rq]
    clear re rs ru rq
    go_enter Try.func36, Try.ntmps36
    go_wp2_with fail
    refine hb.mono ?_
    rintro e w1 ⟨rfl, h1, h2⟩
    have U1 := Lib.hid (MID.out w1 ⟨rfl, h1, h2⟩)
    have c5 : w1.cell? ⟨b, 5, none⟩ = some (.bool true) := U1.out.1.cells.2.2.2.2.2
    clear hb h1 h2 c0
    go_wp2_with fail
    go_ret
    exact ⟨rfl, U1.out.1, U1.out.2.1, U1.out.2.2.1, U1.out.2.2.2⟩
  have hu : u = 0 ∨ u = 1 := by have := US.out; omega
  by_cases hok : okT w h x y t 65536
  · have re : enE w h u x y t = 0 := by unfold enE; rw [if_neg h2, if_pos hok]
    have rs : enS (eQ w h u Q) w h D u s x y t = (enP (eQ w h u Q) D s x.toNat y.toNat t).s := by unfold enS; rw [if_neg (fun c => c.elim h2 (fun d => d hok))]
    have ru : enU w h u x y t = 1 := by unfold enU; rw [if_neg (fun c => c.elim h2 (fun d => d hok))]
    have rq : ueQ w h D u Q s x y t = upP (eQ w h u Q) x.toNat y.toNat (enP (eQ w h u Q) D s x.toNat y.toNat t).n D := by unfold ueQ enQ; rw [if_neg (fun c => c.elim h2 (fun d => d hok)), if_neg (fun c => c.elim h2 (fun d => d hok))]
    rw [re, rs, ru, rq]
    clear re rs ru rq
    obtain ⟨⟨i1, i2, i3, i4⟩, i5, i6⟩ := id hok
    have hin : inT w h x y := hok.1
    obtain ⟨X, rfl⟩ : ∃ n : Nat, x = n := ⟨x.toNat, by omega⟩
    obtain ⟨Y, rfl⟩ : ∃ n : Nat, y = n := ⟨y.toNat, by omega⟩
    rw [show (Int.toNat (X : Int)) = X by omega, show (Int.toNat (Y : Int)) = Y by omega]
    have HXY : Hid (X < w ∧ Y < h) := Lib.hid (by omega)
    have HT : Hid (0 ≤ t ∧ t ≤ 65536) := Lib.hid ⟨i5, i6⟩
    have HIN := Lib.hid hin
    unfold enP
    clear hok hin i1 i2 i3 i4
    rcases hu with rfl | rfl
    · rw [show eQ w h 0 Q = minQ w h Q from if_pos rfl]
      have QB : Hid (∀ k x y, 0 ≤ (minQ w h Q k x y).l ∧ (minQ w h Q k x y).l ≤ 65536) := Lib.hid (fun k x y => QB0.out k x y)
      go_enter Try.func36, Try.ntmps36
      go_wp2_with fail
      refine hb.mono ?_
      rintro e w1 ⟨rfl, h1, h2⟩
      have U1 := Lib.hid (MID.out w1 ⟨rfl, h1, h2⟩)
      have c5 : w1.cell? ⟨b, 5, none⟩ = some (.bool false) := U1.out.1.cells.2.2.2.2.2
      have c4 : w1.cell? ⟨b, 4, none⟩ = some (.bool false) := U1.out.1.cells.2.2.2.2.1
      have hlf := uleaf_c U1.out.1 (X : Int) (Y : Int)
      rw [decide_eq_true HIN.out] at hlf
      have hmn := minima_c U1.out.1
      clear hb h1 h2 c0
      go_wp2_with (first | (go_at_call 63; (with_reducible refine hlf.mono ?_); rintro e wn ⟨rfl, rfl⟩))
      refine hmn.mono ?_
      rintro e w2 ⟨rfl, hU, hK⟩
      have U2 : Hid (Ur w2 B b g w h D 0 (minQ w h Q) ∧ Vr w2 B2 v s ∧ Kf (fun k => Fp W v k ∨ Uf b g k) W w2 ∧ ∀ k, Fp w2 v k → Fp W v k ∨ W.heap.size ≤ k) := Lib.hid (by
        have kv : ∀ k, Fp w1 v k → w2.heap[k]? = w1.heap[k]? := fun k hf => hK.block k (U1.out.2.1.foot k hf).2 (not_uf U1.out.2.1 U1.out.1 k hf)
        exact ⟨hU, U1.out.2.1.keep kv, U1.out.2.2.1.trans (hK.mono fun k hk => .inr hk), fun k hf => U1.out.2.2.2 k (fpS (kv v (.inl rfl)) hf)⟩)
      have c4 : w2.cell? ⟨b, 4, none⟩ = some (.bool false) := U2.out.1.cells.2.2.2.2.1
      have bf := U2.out.1.freeb
      have U3 : Hid (Ur (w2.setCell ⟨b, 4, none⟩ (.bool true)) B b g w h D 1 (minQ w h Q) ∧ Vr (w2.setCell ⟨b, 4, none⟩ (.bool true)) B2 v s ∧ Kf (fun k => Fp W v k ∨ Uf b g k) W (w2.setCell ⟨b, 4, none⟩ (.bool true)) ∧ ∀ k, Fp (w2.setCell ⟨b, 4, none⟩ (.bool true)) v k → Fp W v k ∨ W.heap.size ≤ k) := Lib.hid (by
        have kv : ∀ k, Fp w2 v k → (w2.setCell ⟨b, 4, none⟩ (.bool true)).heap[k]? = w2.heap[k]? := fun k hf => Below.heap_setCell _ _ _ _ fun e => not_uf U2.out.2.1 U2.out.1 k hf (.inl (by simpa using e))
        exact ⟨U2.out.1.setE (by omega), U2.out.2.1.keep kv, U2.out.2.2.1.trans ((Kf.set b 4 (.bool true) (.inl rfl) w2 : Kf (Uf b g) _ _).mono fun k hk => .inr hk), fun k hf => U2.out.2.2.2 k (fpS (kv v (.inl rfl)) hf)⟩)
      clear hU hK hmn hlf U1 U2 c5
      go_upto_region 9 with fail
      generalize w2.setCell ⟨b, 4, none⟩ (.bool true) = w3 at *
      clear c4 bf
      generalize hQ1 : minQ w h Q = Q1 at *
      have HQ1 := Lib.hid hQ1
      clear hQ1
      have hpth := path_c U3.out.1 X Y HXY.out.1 HXY.out.2
      go_wp2_with fail
      refine hpth.mono ?_
      rintro e w4 ⟨gp, mp, rfl, hpI, hb4, hg1, hg2⟩
      have LL := pthL_len w h X Y D
      rw [LL]
      have E4 : Hid (Eb W B B2 b g v gp (pthL w h X Y D) w h D (upR Q1 X Y (pst encG t (fun k => Q1 k (X / 2 ^ k) (Y / 2 ^ k)) D s 0).n D 0) (pst encG t (fun k => Q1 k (X / 2 ^ k) (Y / 2 ^ k)) D s 0).s w4) := Lib.hid (by
        rw [upR_zero]
        have hz := U3.out.2.2.1.size
        exact ⟨U3.out.1.below hb4, U3.out.2.1.below hb4, hpI, fun hf => by have := (U3.out.2.1.foot gp (fpB hb4 U3.out.2.1.lt hf)).2; omega, by have := (U3.out.1.foot g (.inr rfl)).2; omega, hg2, U3.out.2.2.1.trans (Kf.of_below _ hb4), fun k hk => U3.out.2.2.2 k (fpB hb4 U3.out.2.1.lt hk), by omega⟩)
      have LAT := Lib.hid (pthL_at w h X Y D)
      have HLL := Lib.hid LL
      clear hpI hb4 hg1 hg2 hpth LL
      obtain ⟨NN, hNN⟩ : ∃ NN : Nat → Nd, NN = fun k => Q1 k (X / 2 ^ k) (Y / 2 ^ k) := ⟨_, rfl⟩
      have HNN := Lib.hid hNN
      rw [← hNN] at E4
      clear hNN
      go_wp2_with fail
      go_loopw [11, 63] (fun low z wr => ∃ j : Nat, j ≤ D ∧ z = .int .i64 (j : Int) ∧ low = .int .i64 (pst encG t NN D s j).low ∧ Hid (Eb W B B2 b g v gp (pthL w h X Y D) w h D (upR Q1 X Y (pst encG t NN D s j).n D j) (pst encG t NN D s j).s wr)) (fun _ z _ => D - (intOf z).toNat)
      case atStart => exact ⟨0, Nat.zero_le _, rfl, rfl, E4.out⟩
      case round =>
        obtain ⟨j, hj, rfl, rfl, hT⟩ := hrel
        by_cases hlt : j < D
        · obtain ⟨k, hk⟩ : ∃ k, k = D - 1 - j := ⟨_, rfl⟩
          have hX := dm_at HXY.out.1 k
          have hY := dm_at HXY.out.2 k
          have hkD : k < D := by omega
          obtain ⟨ii, hii⟩ : ∃ ii, ii = ix w h k (X / 2 ^ k) (Y / 2 ^ k) := ⟨_, rfl⟩
          have pc : wr.cell? ⟨gp, j, none⟩ = some (.int .i64 (ii : Int)) := by
            rcases hT.out.hp with h0 | ⟨b', off, e, hr⟩
            · have := HLL.out; rw [h0] at this; simp at this; omega
            · simp at e
              obtain ⟨rfl, rfl⟩ := e
              have h1 := hr j (by rw [HLL.out]; exact hlt)
              rw [LAT.out j (by rw [HLL.out]; exact hlt), ← hk, ← hii] at h1
              simpa using h1
          obtain ⟨n0, n1, n2⟩ := hT.out.ur.node hkD hX hY hii
          have EU : Hid (upR Q1 X Y (pst encG t NN D s j).n D j k (X / 2 ^ k) (Y / 2 ^ k) = NN k) := Lib.hid (by rw [upR_at _ _ _ _ (by omega), HNN.out])
          rw [EU.out] at n0 n1 n2
          have hlt2 := ix_lt hT.out.ur.w1 hT.out.ur.h1 hkD hX hY
          rw [← hii] at hlt2
          obtain ⟨_, _, _, ⟨mn, c3⟩, _, _⟩ := hT.out.ur.cells
          have hsz := hT.out.ur.size
          have NB : Hid ((0 ≤ (NN k).l ∧ (NN k).l ≤ 65536) ∧ (k = 0 → 0 ≤ (NN k).v ∧ (NN k).v ≤ 65535)) := Lib.hid (by
            have h1 := hT.out.ur.qb k (X / 2 ^ k) (Y / 2 ^ k)
            rw [EU.out] at h1
            refine ⟨h1, fun hk0 => ?_⟩
            have h2 := hT.out.ur.vb (X / 2 ^ k) (Y / 2 ^ k)
            have h3 := EU.out
            rw [hk0] at h3 h2 ⊢
            rw [h3] at h2
            exact h2)
          have PB := Lib.hid (pst_bd encG t HT.out.2 NN D s (fun k => by
            have h1 := QB.out k (X / 2 ^ k) (Y / 2 ^ k)
            rw [HNN.out]
            exact h1) j).1
          have PE := Lib.hid (pst_enc t NN D s j)
          have PLN := Lib.hid (pst_len t NN D s j)
          rw [← hk] at PE
          have T0 := Lib.hid hT.out
          have HII := Lib.hid hii
          have HK := Lib.hid hk
          have hm1 : (j : Int) < (D : Int) := by omega
          obtain ⟨N, hN⟩ : ∃ N, N = bs w h D := ⟨_, rfl⟩
          rw [← hN] at c3 hlt2 hsz
          have HN := Lib.hid hN
          have hltI : (ii : Int) < (N : Int) := Int.ofNat_lt.2 hlt2
          generalize hP0 : pst encG t NN D s j = p0 at *
          have HP0 := Lib.hid hP0
          obtain ⟨pe, ps, plow, pn⟩ := p0
          dsimp only at *
          generalize hNk : NN k = nk at *
          have HNK := Lib.hid hNk
          obtain ⟨nv, nl, nb⟩ := nk
          dsimp only at *
          have hmx := hmx
          have hD17 := HD.out.2.1
          have GL := Lib.hid T0.out.gl
          have DF := Lib.hid (fun z hz => (T0.out.ur.foot z hz).2)
          have hw0 : Hid (W.heap.size ≤ wr.heap.size) := Lib.hid T0.out.kf.size
          clear hT hP0 hNk hii hk hX hY hN hsz hlt2
          have hML : 0 ≤ max nl plow ∧ max nl plow ≤ 65536 := by have := PB.out; have := NB.out.1; omega
          have X0 : Hid (Ei (nrun encG t FU ps ⟨nv, max nl plow, nb⟩) t W B B2 b g v gp (pthL w h X Y D) w h D (upR Q1 X Y pn D j) wr.heap.size (ps.length + FU) FU ps ⟨nv, max nl plow, nb⟩ (wr.alloc (.cells #[.int .i64 nv, .int .i64 (max nl plow), .bool nb] 105))) := Lib.hid (by
            have hA := below_alloc (Below.refl _ wr) (.cells #[.int .i64 nv, .int .i64 (max nl plow), .bool nb] 105)
            exact ⟨rfl, .inr (by unfold FU; simp only; omega), hML, Nat.le_refl _, T0.out.step hA, Blk.new wr 105 #[.int .i64 nv, .int .i64 (max nl plow), .bool nb], by have := DF.out g (.inr rfl); omega, by have := DF.out b (.inl rfl); omega, by have := GL.out; omega, hw0.out⟩)
          go_wp2_with fail
          clear T0
          generalize wr.heap.size = gn at *
          generalize hml : max nl plow = ml at *
          generalize wr.alloc (.cells #[.int .i64 nv, .int .i64 ml, .bool nb] 105) = w5 at *
          clear n0 n1 n2 c3 pc hmx hML
          generalize hTT : nrun encG t FU ps ⟨nv, ml, nb⟩ = TT at *
          have HTT := Lib.hid hTT
          have HML := Lib.hid hml
          clear hTT hml
          go_loopw [] (fun wr => ∃ (f : Nat) (s' : List Int) (n : Nd), Hid (Ei TT t W B B2 b g v gp (pthL w h X Y D) w h D (upR Q1 X Y pn D j) gn (ps.length + FU) f s' n wr ∧ n.v = nv)) (fun wr => (65537 - lvOf (wr.cell? ⟨gn, 1, none⟩)).toNat + kbOf (wr.cell? ⟨gn, 2, none⟩))
          case atStart => exact ⟨_, _, _, X0.out, rfl⟩
          case round =>
            obtain ⟨f, s', ⟨v', l, b'⟩, hB⟩ := hrel
            obtain rfl : v' = nv := hB.out.2
            have b0 : wr.cell? ⟨gn, 0, none⟩ = some (.int .i64 v') := hB.out.1.box.cell 0
            have b1 : wr.cell? ⟨gn, 1, none⟩ = some (.int .i64 l) := hB.out.1.box.cell 1
            have b2 : wr.cell? ⟨gn, 2, none⟩ = some (.bool b') := hB.out.1.box.cell 2
            have bf := hB.out.1.box.free
            have LO := Lib.hid (show 0 ≤ l ∧ l ≤ 65536 from hB.out.1.lo)
            have B0 := Lib.hid hB.out.1
            clear hB
            by_cases hc : l < t ∧ b' = false
            · obtain ⟨hlt1, rfl⟩ := hc
              obtain ⟨f, rfl⟩ : ∃ f', f = f' + 1 := ⟨f - 1, by have := B0.out.fuel; simp at this; omega⟩
              have RN := Lib.hid ((nrun_go encG t f s' v' l hlt1).symm.trans B0.out.run)
              have hbnd : s'.length + 32 ≤ 1000000000 := by
                have h1 := B0.out.len
                have h2 := PLN.out
                have h3 := HL.out
                have h4 : j * FU + FU ≤ 17 * FU := by rw [← Nat.succ_mul]; exact Nat.mul_le_mul_right _ (by have := HD.out.2.1; omega)
                unfold FU at *
                omega
              by_cases hv1 : v' = l
              · subst hv1
                have vp := vput_c wr B2 v s' 1 B0.out.eb.vr hbnd
                rw [(put_ok2 (.inr rfl)).1, (put_ok2 (.inr rfl)).2] at vp
                have hee : (v' == v') = true := by simp
                have rn := RN.out
                rw [if_neg (by simp [encG]), if_pos (by simp [encG])] at rn
                have RN2 : Hid (nrun encG t f (s' ++ [1]) ⟨v', v', true⟩ = TT) := Lib.hid (by
                  have e : (encG s' ⟨v', v', false⟩).2.2 = s' ++ [1] := by simp [encG]
                  rw [e] at rn
                  exact rn)
                clear rn RN
                go_wp2_with fail
                refine vp.mono ?_
                rintro e w6 ⟨rfl, hV, hK⟩
                have hbx : Blk w6 gn 105 #[.int .i64 v', .int .i64 v', .bool false] := (hK.block gn B0.out.box.lt (not_vp B0.out.eb.vr B0.out.box (by decide))).trans B0.out.box
                have E6 := Lib.hid (B0.out.eb.put hV hK)
                have BX := Lib.hid hbx
                have k2 : w6.cell? ⟨gn, 2, none⟩ = some (.bool false) := hbx.cell 2
                have kf := hbx.free
                clear vp hV hK hbx b0 bf
                have F3 : Hid (Ei TT t W B B2 b g v gp (pthL w h X Y D) w h D (upR Q1 X Y pn D j) gn (ps.length + FU) f (s' ++ [1]) ⟨v', v', true⟩ (w6.setCell ⟨gn, 2, none⟩ (.bool true))) := Lib.hid ⟨RN2.out, .inl rfl, LO.out, by have := B0.out.len; simp; omega,
                  E6.out.chg BX.out (.inr B0.out.gnew) B0.out.gnp (Kf.set (S := fun k => k = gn) gn 2 _ rfl _) (E6.out.ur.farn B0.out.gne B0.out.gnb _ _), BX.out.set 2 _, B0.out.gne, B0.out.gnb, B0.out.gnp, B0.out.gnew⟩
                go_wp2_with fail
                go_roundw
                case rel => exact ⟨f, _, _, F3.out, rfl⟩
                case measure =>
                  have z1 : (w6.setCell ⟨gn, 2, none⟩ (.bool true)).cell? ⟨gn, 1, none⟩ = some (.int .i64 v') := F3.out.box.cell 1
                  have z2 : (w6.setCell ⟨gn, 2, none⟩ (.bool true)).cell? ⟨gn, 2, none⟩ = some (.bool true) := F3.out.box.cell 2
                  rw [z1, z2, b1, b2]
                  show (65537 - v').toNat + 0 < (65537 - v').toNat + 1
                  omega
              · have vp := vput_c wr B2 v s' 0 B0.out.eb.vr hbnd
                rw [(put_ok2 (.inl rfl)).1, (put_ok2 (.inl rfl)).2] at vp
                have hee : (v' == l) = false := by simpa using hv1
                have rn := RN.out
                rw [if_neg (by simp [encG]), if_neg (by simp [encG, hv1])] at rn
                have RN2 : Hid (nrun encG t f (s' ++ [0]) ⟨v', l + 1, false⟩ = TT) := Lib.hid (by
                  have e : (encG s' ⟨v', l, false⟩).2.2 = s' ++ [0] := by simp [encG, hv1]
                  rw [e] at rn
                  exact rn)
                have lw : IntKind.i64.wrap (l + 1) = l + 1 := by have := LO.out; rw [IntWalk.i64_left]; unfold wrap64; omega
                clear rn RN hv1
                go_wp2_with fail
                refine vp.mono ?_
                rintro e w6 ⟨rfl, hV, hK⟩
                have hbx : Blk w6 gn 105 #[.int .i64 v', .int .i64 l, .bool false] := (hK.block gn B0.out.box.lt (not_vp B0.out.eb.vr B0.out.box (by decide))).trans B0.out.box
                have E6 := Lib.hid (B0.out.eb.put hV hK)
                have BX := Lib.hid hbx
                have k1 : w6.cell? ⟨gn, 1, none⟩ = some (.int .i64 l) := hbx.cell 1
                have kf := hbx.free
                clear vp hV hK hbx b0 bf
                have hfu : (t - l).toNat < f + 1 := by have := B0.out.fuel; simpa using this
                have hlo := LO.out
                have F3 : Hid (Ei TT t W B B2 b g v gp (pthL w h X Y D) w h D (upR Q1 X Y pn D j) gn (ps.length + FU) f (s' ++ [0]) ⟨v', l + 1, false⟩ (w6.setCell ⟨gn, 1, none⟩ (.int .i64 (l + 1)))) := Lib.hid ⟨RN2.out, .inr (by simp only; omega), by have := HT.out; simp only; omega, by have := B0.out.len; simp; omega,
                  E6.out.chg BX.out (.inr B0.out.gnew) B0.out.gnp (Kf.set (S := fun k => k = gn) gn 1 _ rfl _) (E6.out.ur.farn B0.out.gne B0.out.gnb _ _), BX.out.set 1 _, B0.out.gne, B0.out.gnb, B0.out.gnp, B0.out.gnew⟩
                clear hfu hlo
                go_wp2_with fail
                go_roundw
                case rel => exact ⟨f, _, _, F3.out, rfl⟩
                case measure =>
                  have z1 : (w6.setCell ⟨gn, 1, none⟩ (.int .i64 (l + 1))).cell? ⟨gn, 1, none⟩ = some (.int .i64 (l + 1)) := F3.out.box.cell 1
                  have z2 : (w6.setCell ⟨gn, 1, none⟩ (.int .i64 (l + 1))).cell? ⟨gn, 2, none⟩ = some (.bool false) := F3.out.box.cell 2
                  rw [z1, z2, b1, b2]
                  show (65537 - (l + 1)).toNat + 1 < (65537 - l).toNat + 1
                  have := LO.out
                  omega
            · have hcc : (decide (l < t) = true ∧ b' = true) ∨ decide (l < t) = false := by
                by_cases hz : l < t
                · left
                  refine ⟨decide_eq_true hz, ?_⟩
                  cases b' with
                  | true => rfl
                  | false => exact absurd ⟨hz, rfl⟩ hc
                · exact .inr (decide_eq_false hz)
              have TE : Hid (TT = (0, s', ⟨v', l, b'⟩)) := Lib.hid (B0.out.run.symm.trans (nrun_stop encG t f s' _ hc))
              have hX := dm_at HXY.out.1 k
              have hY := dm_at HXY.out.2 k
              have hP3 := B0.out.eb.ur.put3 hkD hX hY ⟨v', l, b'⟩ LO.out NB.out.2 (o := ii * 3) (by rw [HII.out])
              have hK3 : Kf (fun k => k = g) wr (((wr.setCell ⟨g, ii * 3, none⟩ (.int .i64 v')).setCell ⟨g, ii * 3 + 1, none⟩ (.int .i64 l)).setCell ⟨g, ii * 3 + 2, none⟩ (.bool b')) := ((Kf.set (S := fun k => k = g) g (ii * 3) (.int .i64 v') rfl wr).trans (Kf.set (S := fun k => k = g) g (ii * 3 + 1) (.int .i64 l) rfl _)).trans (Kf.set (S := fun k => k = g) g (ii * 3 + 2) (.bool b') rfl _)
              have hpn : pst encG t NN D s (j + 1) = ⟨0, s', l, fun q => if q = k then ⟨v', l, b'⟩ else pn q⟩ := by
                have h1 := PE.out
                rw [TE.out] at h1
                exact h1
              have E3 : Hid (Eb W B B2 b g v gp (pthL w h X Y D) w h D (upR Q1 X Y (pst encG t NN D s (j + 1)).n D (j + 1)) (pst encG t NN D s (j + 1)).s (((wr.setCell ⟨g, ii * 3, none⟩ (.int .i64 v')).setCell ⟨g, ii * 3 + 1, none⟩ (.int .i64 l)).setCell ⟨g, ii * 3 + 2, none⟩ (.bool b'))) := Lib.hid (by
                rw [hpn]
                obtain ⟨cs, hcs, _⟩ := B0.out.eb.ur.nds
                have hq := upR_next Q1 X Y pn (fun q => if q = k then (⟨v', l, b'⟩ : Nd) else pn q) (D := D) (j := j) (n := ⟨v', l, b'⟩) hlt (fun q => by rw [← HK.out])
                rw [← HK.out] at hq
                rw [hq] at hP3
                exact B0.out.eb.chg hcs (.inl rfl) B0.out.eb.gpne hK3 hP3)
              have HPN := Lib.hid hpn
              obtain ⟨_, _, _, ⟨mn, c3⟩, _, _⟩ := B0.out.eb.ur.cells
              rw [← HN.out] at c3
              have gf := B0.out.eb.ur.free
              obtain ⟨m0, m1, m2⟩ := B0.out.eb.ur.node hkD hX hY HII.out
              have BX := Lib.hid (B0.out.box)
              have GNE := Lib.hid B0.out.gne
              clear hP3 hK3 hpn hc B0 TE
              have q1 : ∀ bb : Bool, (((wr.setCell ⟨g, ii * 3, none⟩ (.int .i64 v')).setCell ⟨g, ii * 3 + 1, none⟩ (.int .i64 l)).setCell ⟨g, ii * 3 + 2, none⟩ (.bool bb)).cell? ⟨gn, 1, none⟩ = some (.int .i64 l) := fun bb => (((BX.out.far (p := ⟨g, ii * 3, none⟩) GNE.out (.int .i64 v')).far (p := ⟨g, ii * 3 + 1, none⟩) GNE.out (.int .i64 l)).far (p := ⟨g, ii * 3 + 2, none⟩) GNE.out (.bool bb)).cell 1
              rcases hcc with ⟨d1, rfl⟩ | d1
              all_goals
                go_wp2_with fail
                go_region
                all_goals
                  first
                    | have F5 := Lib.hid E3.out
                    | skip
                  go_wp2_with fail
                  go_roundw
                  case rel => exact ⟨j + 1, by omega, by go_num, by rw [HPN.out], by first | exact E3.out | exact E3.out.step (Below.refl _ _).drew⟩
                  case measure => simp [intOf]; omega
        · obtain rfl : j = D := by omega
          have F := Lib.hid hT.out
          clear hT
          go_wp2_with fail
          go_ret
          rw [upR_end] at F
          have FF := F.out
          rw [HNN.out, ← HQ1.out] at FF
          exact ⟨rfl, FF.ur, FF.vr, FF.kf, FF.ft⟩
    · rw [show eQ w h 1 Q = Q from if_neg (by omega)]
      have QB : Hid (∀ k x y, 0 ≤ (Q k x y).l ∧ (Q k x y).l ≤ 65536) := Lib.hid (fun k x y => QB0.out k x y)
      go_enter Try.func36, Try.ntmps36
      go_wp2_with fail
      refine hb.mono ?_
      rintro e w3 ⟨rfl, h1, h2⟩
      have U3 := Lib.hid (MID.out w3 ⟨rfl, h1, h2⟩)
      have c5 : w3.cell? ⟨b, 5, none⟩ = some (.bool false) := U3.out.1.cells.2.2.2.2.2
      have c4 : w3.cell? ⟨b, 4, none⟩ = some (.bool true) := U3.out.1.cells.2.2.2.2.1
      have hlf := uleaf_c U3.out.1 (X : Int) (Y : Int)
      rw [decide_eq_true HIN.out] at hlf
      clear hb h1 h2 c0
      go_wp2_with (first | (go_at_call 63; (with_reducible refine hlf.mono ?_); rintro e wn ⟨rfl, rfl⟩))
      clear hlf c4 c5 MID
      generalize hQ1 : Q = Q1 at *
      have HQ1 := Lib.hid hQ1
      clear hQ1
      have hpth := path_c U3.out.1 X Y HXY.out.1 HXY.out.2
      refine hpth.mono ?_
      rintro e w4 ⟨gp, mp, rfl, hpI, hb4, hg1, hg2⟩
      have LL := pthL_len w h X Y D
      rw [LL]
      have E4 : Hid (Eb W B B2 b g v gp (pthL w h X Y D) w h D (upR Q1 X Y (pst encG t (fun k => Q1 k (X / 2 ^ k) (Y / 2 ^ k)) D s 0).n D 0) (pst encG t (fun k => Q1 k (X / 2 ^ k) (Y / 2 ^ k)) D s 0).s w4) := Lib.hid (by
        rw [upR_zero]
        have hz := U3.out.2.2.1.size
        exact ⟨U3.out.1.below hb4, U3.out.2.1.below hb4, hpI, fun hf => by have := (U3.out.2.1.foot gp (fpB hb4 U3.out.2.1.lt hf)).2; omega, by have := (U3.out.1.foot g (.inr rfl)).2; omega, hg2, U3.out.2.2.1.trans (Kf.of_below _ hb4), fun k hk => U3.out.2.2.2 k (fpB hb4 U3.out.2.1.lt hk), by omega⟩)
      have LAT := Lib.hid (pthL_at w h X Y D)
      have HLL := Lib.hid LL
      clear hpI hb4 hg1 hg2 hpth LL
      obtain ⟨NN, hNN⟩ : ∃ NN : Nat → Nd, NN = fun k => Q1 k (X / 2 ^ k) (Y / 2 ^ k) := ⟨_, rfl⟩
      have HNN := Lib.hid hNN
      rw [← hNN] at E4
      clear hNN
      go_wp2_with fail
      go_loopw [11, 63] (fun low z wr => ∃ j : Nat, j ≤ D ∧ z = .int .i64 (j : Int) ∧ low = .int .i64 (pst encG t NN D s j).low ∧ Hid (Eb W B B2 b g v gp (pthL w h X Y D) w h D (upR Q1 X Y (pst encG t NN D s j).n D j) (pst encG t NN D s j).s wr)) (fun _ z _ => D - (intOf z).toNat)
      case atStart => exact ⟨0, Nat.zero_le _, rfl, rfl, E4.out⟩
      case round =>
        obtain ⟨j, hj, rfl, rfl, hT⟩ := hrel
        by_cases hlt : j < D
        · obtain ⟨k, hk⟩ : ∃ k, k = D - 1 - j := ⟨_, rfl⟩
          have hX := dm_at HXY.out.1 k
          have hY := dm_at HXY.out.2 k
          have hkD : k < D := by omega
          obtain ⟨ii, hii⟩ : ∃ ii, ii = ix w h k (X / 2 ^ k) (Y / 2 ^ k) := ⟨_, rfl⟩
          have pc : wr.cell? ⟨gp, j, none⟩ = some (.int .i64 (ii : Int)) := by
            rcases hT.out.hp with h0 | ⟨b', off, e, hr⟩
            · have := HLL.out; rw [h0] at this; simp at this; omega
            · simp at e
              obtain ⟨rfl, rfl⟩ := e
              have h1 := hr j (by rw [HLL.out]; exact hlt)
              rw [LAT.out j (by rw [HLL.out]; exact hlt), ← hk, ← hii] at h1
              simpa using h1
          obtain ⟨n0, n1, n2⟩ := hT.out.ur.node hkD hX hY hii
          have EU : Hid (upR Q1 X Y (pst encG t NN D s j).n D j k (X / 2 ^ k) (Y / 2 ^ k) = NN k) := Lib.hid (by rw [upR_at _ _ _ _ (by omega), HNN.out])
          rw [EU.out] at n0 n1 n2
          have hlt2 := ix_lt hT.out.ur.w1 hT.out.ur.h1 hkD hX hY
          rw [← hii] at hlt2
          obtain ⟨_, _, _, ⟨mn, c3⟩, _, _⟩ := hT.out.ur.cells
          have hsz := hT.out.ur.size
          have NB : Hid ((0 ≤ (NN k).l ∧ (NN k).l ≤ 65536) ∧ (k = 0 → 0 ≤ (NN k).v ∧ (NN k).v ≤ 65535)) := Lib.hid (by
            have h1 := hT.out.ur.qb k (X / 2 ^ k) (Y / 2 ^ k)
            rw [EU.out] at h1
            refine ⟨h1, fun hk0 => ?_⟩
            have h2 := hT.out.ur.vb (X / 2 ^ k) (Y / 2 ^ k)
            have h3 := EU.out
            rw [hk0] at h3 h2 ⊢
            rw [h3] at h2
            exact h2)
          have PB := Lib.hid (pst_bd encG t HT.out.2 NN D s (fun k => by
            have h1 := QB.out k (X / 2 ^ k) (Y / 2 ^ k)
            rw [HNN.out]
            exact h1) j).1
          have PE := Lib.hid (pst_enc t NN D s j)
          have PLN := Lib.hid (pst_len t NN D s j)
          rw [← hk] at PE
          have T0 := Lib.hid hT.out
          have HII := Lib.hid hii
          have HK := Lib.hid hk
          have hm1 : (j : Int) < (D : Int) := by omega
          obtain ⟨N, hN⟩ : ∃ N, N = bs w h D := ⟨_, rfl⟩
          rw [← hN] at c3 hlt2 hsz
          have HN := Lib.hid hN
          have hltI : (ii : Int) < (N : Int) := Int.ofNat_lt.2 hlt2
          generalize hP0 : pst encG t NN D s j = p0 at *
          have HP0 := Lib.hid hP0
          obtain ⟨pe, ps, plow, pn⟩ := p0
          dsimp only at *
          generalize hNk : NN k = nk at *
          have HNK := Lib.hid hNk
          obtain ⟨nv, nl, nb⟩ := nk
          dsimp only at *
          have hmx := hmx
          have hD17 := HD.out.2.1
          have GL := Lib.hid T0.out.gl
          have DF := Lib.hid (fun z hz => (T0.out.ur.foot z hz).2)
          have hw0 : Hid (W.heap.size ≤ wr.heap.size) := Lib.hid T0.out.kf.size
          clear hT hP0 hNk hii hk hX hY hN hsz hlt2
          have hML : 0 ≤ max nl plow ∧ max nl plow ≤ 65536 := by have := PB.out; have := NB.out.1; omega
          have X0 : Hid (Ei (nrun encG t FU ps ⟨nv, max nl plow, nb⟩) t W B B2 b g v gp (pthL w h X Y D) w h D (upR Q1 X Y pn D j) wr.heap.size (ps.length + FU) FU ps ⟨nv, max nl plow, nb⟩ (wr.alloc (.cells #[.int .i64 nv, .int .i64 (max nl plow), .bool nb] 105))) := Lib.hid (by
            have hA := below_alloc (Below.refl _ wr) (.cells #[.int .i64 nv, .int .i64 (max nl plow), .bool nb] 105)
            exact ⟨rfl, .inr (by unfold FU; simp only; omega), hML, Nat.le_refl _, T0.out.step hA, Blk.new wr 105 #[.int .i64 nv, .int .i64 (max nl plow), .bool nb], by have := DF.out g (.inr rfl); omega, by have := DF.out b (.inl rfl); omega, by have := GL.out; omega, hw0.out⟩)
          go_wp2_with fail
          clear T0
          generalize wr.heap.size = gn at *
          generalize hml : max nl plow = ml at *
          generalize wr.alloc (.cells #[.int .i64 nv, .int .i64 ml, .bool nb] 105) = w5 at *
          clear n0 n1 n2 c3 pc hmx hML
          generalize hTT : nrun encG t FU ps ⟨nv, ml, nb⟩ = TT at *
          have HTT := Lib.hid hTT
          have HML := Lib.hid hml
          clear hTT hml
          go_loopw [] (fun wr => ∃ (f : Nat) (s' : List Int) (n : Nd), Hid (Ei TT t W B B2 b g v gp (pthL w h X Y D) w h D (upR Q1 X Y pn D j) gn (ps.length + FU) f s' n wr ∧ n.v = nv)) (fun wr => (65537 - lvOf (wr.cell? ⟨gn, 1, none⟩)).toNat + kbOf (wr.cell? ⟨gn, 2, none⟩))
          case atStart => exact ⟨_, _, _, X0.out, rfl⟩
          case round =>
            obtain ⟨f, s', ⟨v', l, b'⟩, hB⟩ := hrel
            obtain rfl : v' = nv := hB.out.2
            have b0 : wr.cell? ⟨gn, 0, none⟩ = some (.int .i64 v') := hB.out.1.box.cell 0
            have b1 : wr.cell? ⟨gn, 1, none⟩ = some (.int .i64 l) := hB.out.1.box.cell 1
            have b2 : wr.cell? ⟨gn, 2, none⟩ = some (.bool b') := hB.out.1.box.cell 2
            have bf := hB.out.1.box.free
            have LO := Lib.hid (show 0 ≤ l ∧ l ≤ 65536 from hB.out.1.lo)
            have B0 := Lib.hid hB.out.1
            clear hB
            by_cases hc : l < t ∧ b' = false
            · obtain ⟨hlt1, rfl⟩ := hc
              obtain ⟨f, rfl⟩ : ∃ f', f = f' + 1 := ⟨f - 1, by have := B0.out.fuel; simp at this; omega⟩
              have RN := Lib.hid ((nrun_go encG t f s' v' l hlt1).symm.trans B0.out.run)
              have hbnd : s'.length + 32 ≤ 1000000000 := by
                have h1 := B0.out.len
                have h2 := PLN.out
                have h3 := HL.out
                have h4 : j * FU + FU ≤ 17 * FU := by rw [← Nat.succ_mul]; exact Nat.mul_le_mul_right _ (by have := HD.out.2.1; omega)
                unfold FU at *
                omega
              by_cases hv1 : v' = l
              · subst hv1
                have vp := vput_c wr B2 v s' 1 B0.out.eb.vr hbnd
                rw [(put_ok2 (.inr rfl)).1, (put_ok2 (.inr rfl)).2] at vp
                have hee : (v' == v') = true := by simp
                have rn := RN.out
                rw [if_neg (by simp [encG]), if_pos (by simp [encG])] at rn
                have RN2 : Hid (nrun encG t f (s' ++ [1]) ⟨v', v', true⟩ = TT) := Lib.hid (by
                  have e : (encG s' ⟨v', v', false⟩).2.2 = s' ++ [1] := by simp [encG]
                  rw [e] at rn
                  exact rn)
                clear rn RN
                go_wp2_with fail
                refine vp.mono ?_
                rintro e w6 ⟨rfl, hV, hK⟩
                have hbx : Blk w6 gn 105 #[.int .i64 v', .int .i64 v', .bool false] := (hK.block gn B0.out.box.lt (not_vp B0.out.eb.vr B0.out.box (by decide))).trans B0.out.box
                have E6 := Lib.hid (B0.out.eb.put hV hK)
                have BX := Lib.hid hbx
                have k2 : w6.cell? ⟨gn, 2, none⟩ = some (.bool false) := hbx.cell 2
                have kf := hbx.free
                clear vp hV hK hbx b0 bf
                have F3 : Hid (Ei TT t W B B2 b g v gp (pthL w h X Y D) w h D (upR Q1 X Y pn D j) gn (ps.length + FU) f (s' ++ [1]) ⟨v', v', true⟩ (w6.setCell ⟨gn, 2, none⟩ (.bool true))) := Lib.hid ⟨RN2.out, .inl rfl, LO.out, by have := B0.out.len; simp; omega,
                  E6.out.chg BX.out (.inr B0.out.gnew) B0.out.gnp (Kf.set (S := fun k => k = gn) gn 2 _ rfl _) (E6.out.ur.farn B0.out.gne B0.out.gnb _ _), BX.out.set 2 _, B0.out.gne, B0.out.gnb, B0.out.gnp, B0.out.gnew⟩
                go_wp2_with fail
                go_roundw
                case rel => exact ⟨f, _, _, F3.out, rfl⟩
                case measure =>
                  have z1 : (w6.setCell ⟨gn, 2, none⟩ (.bool true)).cell? ⟨gn, 1, none⟩ = some (.int .i64 v') := F3.out.box.cell 1
                  have z2 : (w6.setCell ⟨gn, 2, none⟩ (.bool true)).cell? ⟨gn, 2, none⟩ = some (.bool true) := F3.out.box.cell 2
                  rw [z1, z2, b1, b2]
                  show (65537 - v').toNat + 0 < (65537 - v').toNat + 1
                  omega
              · have vp := vput_c wr B2 v s' 0 B0.out.eb.vr hbnd
                rw [(put_ok2 (.inl rfl)).1, (put_ok2 (.inl rfl)).2] at vp
                have hee : (v' == l) = false := by simpa using hv1
                have rn := RN.out
                rw [if_neg (by simp [encG]), if_neg (by simp [encG, hv1])] at rn
                have RN2 : Hid (nrun encG t f (s' ++ [0]) ⟨v', l + 1, false⟩ = TT) := Lib.hid (by
                  have e : (encG s' ⟨v', l, false⟩).2.2 = s' ++ [0] := by simp [encG, hv1]
                  rw [e] at rn
                  exact rn)
                have lw : IntKind.i64.wrap (l + 1) = l + 1 := by have := LO.out; rw [IntWalk.i64_left]; unfold wrap64; omega
                clear rn RN hv1
                go_wp2_with fail
                refine vp.mono ?_
                rintro e w6 ⟨rfl, hV, hK⟩
                have hbx : Blk w6 gn 105 #[.int .i64 v', .int .i64 l, .bool false] := (hK.block gn B0.out.box.lt (not_vp B0.out.eb.vr B0.out.box (by decide))).trans B0.out.box
                have E6 := Lib.hid (B0.out.eb.put hV hK)
                have BX := Lib.hid hbx
                have k1 : w6.cell? ⟨gn, 1, none⟩ = some (.int .i64 l) := hbx.cell 1
                have kf := hbx.free
                clear vp hV hK hbx b0 bf
                have hfu : (t - l).toNat < f + 1 := by have := B0.out.fuel; simpa using this
                have hlo := LO.out
                have F3 : Hid (Ei TT t W B B2 b g v gp (pthL w h X Y D) w h D (upR Q1 X Y pn D j) gn (ps.length + FU) f (s' ++ [0]) ⟨v', l + 1, false⟩ (w6.setCell ⟨gn, 1, none⟩ (.int .i64 (l + 1)))) := Lib.hid ⟨RN2.out, .inr (by simp only; omega), by have := HT.out; simp only; omega, by have := B0.out.len; simp; omega,
                  E6.out.chg BX.out (.inr B0.out.gnew) B0.out.gnp (Kf.set (S := fun k => k = gn) gn 1 _ rfl _) (E6.out.ur.farn B0.out.gne B0.out.gnb _ _), BX.out.set 1 _, B0.out.gne, B0.out.gnb, B0.out.gnp, B0.out.gnew⟩
                clear hfu hlo
                go_wp2_with fail
                go_roundw
                case rel => exact ⟨f, _, _, F3.out, rfl⟩
                case measure =>
                  have z1 : (w6.setCell ⟨gn, 1, none⟩ (.int .i64 (l + 1))).cell? ⟨gn, 1, none⟩ = some (.int .i64 (l + 1)) := F3.out.box.cell 1
                  have z2 : (w6.setCell ⟨gn, 1, none⟩ (.int .i64 (l + 1))).cell? ⟨gn, 2, none⟩ = some (.bool false) := F3.out.box.cell 2
                  rw [z1, z2, b1, b2]
                  show (65537 - (l + 1)).toNat + 1 < (65537 - l).toNat + 1
                  have := LO.out
                  omega
            · have hcc : (decide (l < t) = true ∧ b' = true) ∨ decide (l < t) = false := by
                by_cases hz : l < t
                · left
                  refine ⟨decide_eq_true hz, ?_⟩
                  cases b' with
                  | true => rfl
                  | false => exact absurd ⟨hz, rfl⟩ hc
                · exact .inr (decide_eq_false hz)
              have TE : Hid (TT = (0, s', ⟨v', l, b'⟩)) := Lib.hid (B0.out.run.symm.trans (nrun_stop encG t f s' _ hc))
              have hX := dm_at HXY.out.1 k
              have hY := dm_at HXY.out.2 k
              have hP3 := B0.out.eb.ur.put3 hkD hX hY ⟨v', l, b'⟩ LO.out NB.out.2 (o := ii * 3) (by rw [HII.out])
              have hK3 : Kf (fun k => k = g) wr (((wr.setCell ⟨g, ii * 3, none⟩ (.int .i64 v')).setCell ⟨g, ii * 3 + 1, none⟩ (.int .i64 l)).setCell ⟨g, ii * 3 + 2, none⟩ (.bool b')) := ((Kf.set (S := fun k => k = g) g (ii * 3) (.int .i64 v') rfl wr).trans (Kf.set (S := fun k => k = g) g (ii * 3 + 1) (.int .i64 l) rfl _)).trans (Kf.set (S := fun k => k = g) g (ii * 3 + 2) (.bool b') rfl _)
              have hpn : pst encG t NN D s (j + 1) = ⟨0, s', l, fun q => if q = k then ⟨v', l, b'⟩ else pn q⟩ := by
                have h1 := PE.out
                rw [TE.out] at h1
                exact h1
              have E3 : Hid (Eb W B B2 b g v gp (pthL w h X Y D) w h D (upR Q1 X Y (pst encG t NN D s (j + 1)).n D (j + 1)) (pst encG t NN D s (j + 1)).s (((wr.setCell ⟨g, ii * 3, none⟩ (.int .i64 v')).setCell ⟨g, ii * 3 + 1, none⟩ (.int .i64 l)).setCell ⟨g, ii * 3 + 2, none⟩ (.bool b'))) := Lib.hid (by
                rw [hpn]
                obtain ⟨cs, hcs, _⟩ := B0.out.eb.ur.nds
                have hq := upR_next Q1 X Y pn (fun q => if q = k then (⟨v', l, b'⟩ : Nd) else pn q) (D := D) (j := j) (n := ⟨v', l, b'⟩) hlt (fun q => by rw [← HK.out])
                rw [← HK.out] at hq
                rw [hq] at hP3
                exact B0.out.eb.chg hcs (.inl rfl) B0.out.eb.gpne hK3 hP3)
              have HPN := Lib.hid hpn
              obtain ⟨_, _, _, ⟨mn, c3⟩, _, _⟩ := B0.out.eb.ur.cells
              rw [← HN.out] at c3
              have gf := B0.out.eb.ur.free
              obtain ⟨m0, m1, m2⟩ := B0.out.eb.ur.node hkD hX hY HII.out
              have BX := Lib.hid (B0.out.box)
              have GNE := Lib.hid B0.out.gne
              clear hP3 hK3 hpn hc B0 TE
              have q1 : ∀ bb : Bool, (((wr.setCell ⟨g, ii * 3, none⟩ (.int .i64 v')).setCell ⟨g, ii * 3 + 1, none⟩ (.int .i64 l)).setCell ⟨g, ii * 3 + 2, none⟩ (.bool bb)).cell? ⟨gn, 1, none⟩ = some (.int .i64 l) := fun bb => (((BX.out.far (p := ⟨g, ii * 3, none⟩) GNE.out (.int .i64 v')).far (p := ⟨g, ii * 3 + 1, none⟩) GNE.out (.int .i64 l)).far (p := ⟨g, ii * 3 + 2, none⟩) GNE.out (.bool bb)).cell 1
              rcases hcc with ⟨d1, rfl⟩ | d1
              all_goals
                go_wp2_with fail
                go_region
                all_goals
                  first
                    | have F5 := Lib.hid E3.out
                    | skip
                  go_wp2_with fail
                  go_roundw
                  case rel => exact ⟨j + 1, by omega, by go_num, by rw [HPN.out], by first | exact E3.out | exact E3.out.step (Below.refl _ _).drew⟩
                  case measure => simp [intOf]; omega
        · obtain rfl : j = D := by omega
          have F := Lib.hid hT.out
          clear hT
          go_wp2_with fail
          go_ret
          rw [upR_end] at F
          have FF := F.out
          rw [HNN.out, ← HQ1.out] at FF
          exact ⟨rfl, FF.ur, FF.vr, FF.kf, FF.ft⟩
  · have re : enE w h u x y t = 2 := by unfold enE; rw [if_neg h2, if_neg hok]
    have rs : enS (eQ w h u Q) w h D u s x y t = s := by unfold enS; rw [if_pos (.inr hok)]
    have ru : enU w h u x y t = u := by unfold enU; rw [if_pos (.inr hok)]
    have rq : ueQ w h D u Q s x y t = Q := by unfold ueQ; rw [if_pos (.inr hok)]
    rw [re, rs, ru, rq]
    have hcs : decide (inT w h x y) = false ∨ (decide (inT w h x y) = true ∧ t < 0) ∨ (decide (inT w h x y) = true ∧ 0 ≤ t ∧ 65536 < t) := by
      by_cases hin : inT w h x y
      · rw [decide_eq_true hin]
        by_cases p : t < 0
        · exact .inr (.inl ⟨rfl, p⟩)
        · by_cases q : 65536 < t
          · exact .inr (.inr ⟨rfl, by omega, q⟩)
          · exact absurd ⟨hin, by omega, by omega⟩ hok
      · exact .inl (decide_eq_false hin)
    clear re rs ru rq hok
    have HLF := Lib.hid (fun (Z : World) (hZ : Ur Z B b g w h D u Q) => uleaf_c hZ x y)
    have H5 := Lib.hid (decide_eq_false h2)
    clear hu
    rcases hcs with h3 | ⟨h3, h4⟩ | ⟨h3, h4, h5⟩ <;> rw [h3] at HLF <;> clear h3 <;>
     (go_enter Try.func36, Try.ntmps36
      go_wp2_with fail
      refine hb.mono ?_
      rintro e w1 ⟨rfl, h1, h2'⟩
      have U1 := Lib.hid (MID.out w1 ⟨rfl, h1, h2'⟩)
      have c5 := U1.out.1.cells.2.2.2.2.2
      rw [H5.out] at c5
      have hlf := HLF.out w1 U1.out.1
      clear hb h1 h2' c0
      go_wp2_with (first | (go_at_call 63; (with_reducible refine hlf.mono ?_); rintro e wn ⟨rfl, rfl⟩))
      go_ret
      exact ⟨rfl, U1.out.1, U1.out.2.1, U1.out.2.2.1, U1.out.2.2.2⟩)
end Go.Proofs.Ytaddendclipkkaa
