/-
  Layer 10: the code's walk, step by step.
-/
import Derived.Test.YtaddendclipkkaaTd
set_option maxRecDepth 100000
namespace Go.Proofs.Ytaddendclipkkaa
open Go.RowKit

def lvOf : Option Value → Int
  | some (.int _ l) => l
  | _ => 0
def kbOf : Option Value → Nat
  | some (.bool true) => 0
  | _ => 1
/-- What a walk returns. -/
def WkGives {σ : Type} (g : σ → Nd → Int × Int × σ) (P : Nat → σ → World → Prop) (t : Int) (N : Nat → Nd) (s0 : σ) (B A L : Nat) (nd : Nat → Nat) (w h D : Nat) (u : Int) (Q : Nat → Nat → Nat → Nd) (W : World) (e : Ending) (w' : World) : Prop :=
  ∃ m pv, e = .returned (.tuple #[pv, .int .i64 (pst g t N D s0 D).e]) ∧ P m (pst g t N D s0 D).s w' ∧ W.heap.size ≤ w'.heap.size ∧ Tr w' B A L nd w h D u Q ∧ ((pst g t N D s0 D).e = 0 → ∃ G, pv = .slice (some ⟨G, 0, none⟩) D D ∧ W.heap.size ≤ G ∧ Pa w' G D (pst g t N D s0 D).n D)
/-- What a loop over the levels knows. -/
structure Lv {σ : Type} (g : σ → Nd → Int × Int × σ) (P : Nat → σ → World → Prop) (t : Int) (N : Nat → Nd) (s0 : σ) (W0 : World) (B A L : Nat) (nd : Nat → Nat) (w h D : Nat) (u : Int) (Q : Nat → Nat → Nat → Nd) (G j m : Nat) (W : World) : Prop where
  e : (pst g t N D s0 j).e = 0
  p : P m (pst g t N D s0 j).s W
  bud : (D - j) * FU ≤ m
  tr : Tr W B A L nd w h D u Q
  pa : Pa W G D (pst g t N D s0 j).n j
  geG : W0.heap.size ≤ G
  size : W0.heap.size ≤ W.heap.size
/-- What a loop over the bits of a node knows. -/
structure Bt {σ : Type} (g : σ → Nd → Int × Int × σ) (P : Nat → σ → World → Prop) (t : Int) (s1 : σ) (n1 : Nd) (W0 : World) (B A L : Nat) (nd : Nat → Nat) (w h D : Nat) (u : Int) (Q : Nat → Nat → Nat → Nd) (G gn j r : Nat) (R : Nat → Nd) (f m : Nat) (s : σ) (n : Nd) (W : World) : Prop where
  run : nrun g t FU s1 n1 = nrun g t f s n
  fuel : n.b = true ∨ (t - n.l).toNat < f
  lo : 0 ≤ n.l ∧ n.l ≤ 65536
  p : P m s W
  bud : f + r ≤ m
  tr : Tr W B A L nd w h D u Q
  pa : Pa W G D R j
  box : Blk W gn 100 #[.int .i64 n.v, .int .i64 n.l, .bool n.b]
  ne : G ≠ gn
  geG : W0.heap.size ≤ G
  gen : W0.heap.size ≤ gn
  size : W0.heap.size ≤ W.heap.size
theorem Lv.step {σ : Type} {g : σ → Nd → Int × Int × σ} {P : Nat → σ → World → Prop} {t : Int} {N : Nat → Nd} {s0 : σ} {W0 W1 W2 : World} {B A L : Nat} {nd : Nat → Nat} {w h D : Nat} {u : Int} {Q : Nat → Nat → Nat → Nd} {G j m : Nat} (H : Lv g P t N s0 W0 B A L nd w h D u Q G j m W1) {n : Nat} (hn : W0.heap.size = n)
    (hP : ∀ m s W1 W2, n ≤ W1.heap.size → P m s W1 → Kw n W1 W2 → P m s W2) (hb : Below W1.heap.size W1 W2) : Lv g P t N s0 W0 B A L nd w h D u Q G j m W2 := by
  subst hn
  exact ⟨H.e, hP _ _ _ _ H.size H.p (Kw.of_below _ hb), H.bud, H.tr.below hb, H.pa.below hb, H.geG, Nat.le_trans H.size hb.size⟩
set_option maxHeartbeats 8000000 in
theorem walk_c {σ : Type} (g : σ → Nd → Int × Int × σ) (P : Nat → σ → World → Prop) (gf : Nat) (cv : Value) {W : World} {B A L w rh D : Nat} {nd : Nat → Nat} {u : Int} {Q : Nat → Nat → Nat → Nd} (t : Int) (ht : 0 ≤ t ∧ t ≤ 65536)
    (eg : ∀ args w, (callFunc gf args).run Try.prog w = .ok (.enter gf args) w)
    (hP : ∀ m s W1 W2, W.heap.size ≤ W1.heap.size → P m s W1 → Kw W.heap.size W1 W2 → P m s W2)
    (hC : ∀ m s W1 n, W.heap.size ≤ W1.heap.size → P (m + 1) s W1 → Calls Try.prog gf #[.agg #[.int .i64 n.v, .int .i64 n.l, .bool n.b], cv] W1 fun e W2 => e = .returned (.tuple #[.int .i64 (g s n).1, .int .i64 (g s n).2.1]) ∧ P m (g s n).2.2 W2 ∧ Kn W1 W2)
    (H : Tr W B A L nd w rh D u Q) (x y : Nat) (hx : x < w) (hy : y < rh) (m0 : Nat) (s0 : σ) (hm : D * FU ≤ m0) (h0 : P m0 s0 W) :
    Calls Try.prog 81 #[.pointer (some ⟨A, 0, none⟩), .int .i64 (x : Int), .int .i64 (y : Int), .int .i64 t, .func (.func gf) #[] #[cv]] W (WkGives g P t (fun k => Q k (x / 2 ^ k) (y / 2 ^ k)) s0 B A L nd w rh D u Q W) := by
  obtain ⟨N, hN⟩ : ∃ N : Nat → Nd, N = fun k => Q k (x / 2 ^ k) (y / 2 ^ k) := ⟨_, rfl⟩
  rw [← hN]
  obtain ⟨c0, ⟨mc, c1⟩, c2⟩ := H.cells
  have hd1 := H.d1
  have hd2 := H.d2
  have mk := mk_nodes D (by omega)
  have HL0 : Hid (Lv g P t N s0 W B A L nd w rh D u Q W.heap.size 0 m0 (W.alloc (.cells (madeCells #[.int .i64 0, .int .i64 0, .bool false] (D * 3)) 100))) := by
    have hA := below_alloc (Below.refl _ W) (.cells (madeCells #[.int .i64 0, .int .i64 0, .bool false] (D * 3)) 100)
    exact ⟨rfl, hP _ _ _ _ (Nat.le_refl _) h0 (Kw.of_below _ hA), by simpa using hm, H.below hA, ⟨_, Blk.new W _ _, by simp [madeCells], fun k h1 h2 => by omega⟩, Nat.le_refl _, by simp⟩
  have FOOT := Lib.hid (fun k hk => (H.foot k hk).2)
  have HXY := Lib.hid (And.intro hx hy)
  have HNN := Lib.hid hN
  have HPP := Lib.hid hP
  have HCC := Lib.hid hC
  have QB := Lib.hid H.qb
  have dw : IntKind.i64.wrap ((D : Int) - 1) = (D : Int) - 1 := by rw [IntWalk.i64_left]; unfold wrap64; omega
  obtain ⟨t0, t1⟩ := ht
  clear H hx hy hN hP hC hm h0
  go_enter Try.func81, Try.ntmps81
  go_wp2_with fail
  generalize hG : W.heap.size = G at *
  have HG := Lib.hid hG
  generalize W.alloc (.cells (madeCells #[.int .i64 0, .int .i64 0, .bool false] (D * 3)) 100) = w0 at *
  clear mk c0 c1 c2 dw hG
  go_loopw [13, 14] (fun low z wr => ∃ (k m : Nat), k ≤ D ∧ z = .int .i64 ((k : Int) - 1) ∧ low = .int .i64 (pst g t N D s0 (D - k)).low ∧ Hid (Lv g P t N s0 W B A L nd w rh D u Q G (D - k) m wr)) (fun _ z _ => (intOf z + 1).toNat)
  case atStart => exact ⟨D, m0, Nat.le_refl _, rfl, by rw [Nat.sub_self]; rfl, by rw [Nat.sub_self]; exact HL0.out⟩
  case round =>
    obtain ⟨k, m, hk, rfl, rfl, hT⟩ := hrel
    cases k with
    | zero =>
      have T0 := Lib.hid hT.out
      rw [Nat.sub_zero] at T0
      clear hT
      go_wp2_with fail
      go_ret2
      exact ⟨m, .slice (some ⟨G, 0, none⟩) D D, by rw [T0.out.e]; rfl, T0.out.p, T0.out.size, T0.out.tr, fun _ => ⟨G, rfl, Nat.le_of_eq HG.out, T0.out.pa⟩⟩
    | succ k =>
      have hk0 : ((k + 1 : Nat) : Int) - 1 = (k : Int) := by omega
      rw [hk0]
      clear hk0
      obtain ⟨c0, ⟨mc, c1⟩, c2⟩ := hT.out.tr.cells
      obtain ⟨i, hi⟩ : ∃ i, i = y / 2 ^ k * dm w k + x / 2 ^ k := ⟨_, rfl⟩
      have HI := Lib.hid hi
      have hon := on_c hT.out.tr k x y (by omega) HXY.out.1 HXY.out.2 i hi
      have T0 := Lib.hid hT.out
      obtain ⟨pb1, pb2, pb3⟩ := pst_bd g t t1 N D s0 (fun k => by rw [HNN.out]; exact QB.out _ _ _) (D - (k + 1))
      have PB := Lib.hid pb1
      have qb := QB.out k (x / 2 ^ k) (y / 2 ^ k)
      have NK : Hid (N k = Q k (x / 2 ^ k) (y / 2 ^ k)) := by rw [HNN.out]; exact Lib.hid rfl
      have hmx := hmx
      clear hT hi pb2 pb3 pb1
      go_wp2_with fail
      refine hon.mono ?_
      rintro e w1 ⟨rfl, hb⟩
      have P1 := Lib.hid (HPP.out m _ wr w1 (by rw [← HG.out]; exact T0.out.size) T0.out.p (Kw.of_below _ hb))
      have R1 := Lib.hid (T0.out.tr.below hb)
      have A1 := Lib.hid (T0.out.pa.below hb)
      have Z1 := Lib.hid hb.size
      obtain ⟨a0, a1, a2⟩ := R1.out.at (k := k) (by omega) HXY.out.1 HXY.out.2 HI.out
      rw [← NK.out] at a0 a1 a2 qb
      have NX := Lib.hid (pst_next g t N D s0 k (by omega) T0.out.e)
      have EE := Lib.hid T0.out.e
      generalize hP0 : pst g t N D s0 (D - (k + 1)) = p0 at *
      obtain ⟨pe, ps, plow, pn⟩ := p0
      dsimp only at *
      generalize hNk : N k = nk at *
      obtain ⟨nv, nl, nb⟩ := nk
      dsimp only at *
      have HNK := Lib.hid hNk
      have HP0 := Lib.hid hP0
      clear hon hb hNk hP0 c0 c1 c2
      go_wp2_with fail
      have hML : 0 ≤ max nl plow ∧ max nl plow ≤ 65536 := by have := PB.out; omega
      have X0 : Hid (Bt g P t ps ⟨nv, max nl plow, nb⟩ W B A L nd w rh D u Q G w1.heap.size (D - (k + 1)) (k * FU) pn FU m ps ⟨nv, max nl plow, nb⟩ (w1.alloc (.cells #[.int .i64 nv, .int .i64 (max nl plow), .bool nb] 100))) := by
        have hA := below_alloc (Below.refl _ w1) (.cells #[.int .i64 nv, .int .i64 (max nl plow), .bool nb] 100)
        have hbk := Blk.new w1 100 #[.int .i64 nv, .int .i64 (max nl plow), .bool nb]
        have hge : G ≤ w1.heap.size := by have := T0.out.size; have := HG.out; have := Z1.out; omega
        have hGlt := A1.out.lt
        have hp1 := HPP.out m _ w1 _ hge P1.out (Kw.of_below G hA)
        have hbud := T0.out.bud
        rw [show D - (D - (k + 1)) = k + 1 by omega, Nat.succ_mul] at hbud
        exact ⟨rfl, .inr (by unfold FU; simp only; omega), hML, hp1, by omega, R1.out.below hA, A1.out.below hA, hbk, by omega, T0.out.geG, by have := HG.out; omega, by have := HG.out; simp; omega⟩
      have S0 : Hid (G ≤ w1.heap.size) := Lib.hid (by have := T0.out.size; have := HG.out; have := Z1.out; omega)
      generalize hgn : w1.heap.size = gn at *
      clear hgn
      generalize hml : max nl plow = ml at *
      clear hml
      generalize w1.alloc (.cells #[.int .i64 nv, .int .i64 ml, .bool nb] 100) = w2 at *
      clear P1 R1 A1 Z1 T0 a0 a1 a2 qb hmx
      go_loopw [] (fun wr => ∃ (f m : Nat) (s : σ) (n : Nd), Hid (Bt g P t ps ⟨nv, ml, nb⟩ W B A L nd w rh D u Q G gn (D - (k + 1)) (k * FU) pn f m s n wr)) (fun wr => (65537 - lvOf (wr.cell? ⟨gn, 1, none⟩)).toNat + kbOf (wr.cell? ⟨gn, 2, none⟩))
      case atStart => exact ⟨_, _, _, _, X0⟩
      case round =>
        obtain ⟨f, m, s, ⟨v, l, b⟩, hB⟩ := hrel
        have b0 : wr.cell? ⟨gn, 0, none⟩ = some (.int .i64 v) := hB.out.box.cell 0
        have b1 : wr.cell? ⟨gn, 1, none⟩ = some (.int .i64 l) := hB.out.box.cell 1
        have b2 : wr.cell? ⟨gn, 2, none⟩ = some (.bool b) := hB.out.box.cell 2
        have bf := hB.out.box.free
        by_cases hc : l < t ∧ b = false
        · obtain ⟨hlt, rfl⟩ := hc
          have B0 := Lib.hid hB.out
          obtain ⟨f, rfl⟩ : ∃ f', f = f' + 1 := ⟨f - 1, by have := B0.out.fuel; simp at this; omega⟩
          obtain ⟨m, rfl⟩ : ∃ m', m = m' + 1 := ⟨m - 1, by have := B0.out.bud; omega⟩
          have cc := HCC.out m s wr ⟨v, l, false⟩ (by rw [← HG.out]; exact B0.out.size) B0.out.p
          have RN := Lib.hid (B0.out.run.trans (nrun_go g t f s v l hlt))
          have LO := Lib.hid (show 0 ≤ l ∧ l ≤ 65536 from B0.out.lo)
          dsimp only at cc
          generalize g s ⟨v, l, false⟩ = rr at *
          obtain ⟨bit, er, s'⟩ := rr
          dsimp only at *
          clear hB
          by_cases he : er = 0
          · subst he
            by_cases hb1 : bit = 1
            · subst hb1
              rw [if_neg (by simp), if_pos rfl] at RN
              go_wp2_with (first | (go_at_fn gf; (with_reducible refine cc.mono ?_); rintro e w3 ⟨rfl, hp, hkn⟩; have hbx := hkn.block gn _ _ (.inr (.inr rfl)) B0.out.box; have k0 : w3.cell? ⟨gn, 0, none⟩ = some (.int .i64 v) := hbx.cell 0; have k1 : w3.cell? ⟨gn, 1, none⟩ = some (.int .i64 l) := hbx.cell 1; have k2 : w3.cell? ⟨gn, 2, none⟩ = some (.bool false) := hbx.cell 2; have kf := hbx.free; have HP3 := Lib.hid hp; have HK3 := Lib.hid hkn; have HB3 := Lib.hid hbx; clear hp hkn hbx))
              have F3 : Hid (Bt g P t ps ⟨nv, ml, nb⟩ W B A L nd w rh D u Q G gn (D - (k + 1)) (k * FU) pn f m s' ⟨v, l, true⟩ (w3.setCell ⟨gn, 2, none⟩ (.bool true))) := by
                have hz := HK3.out.size
                have hz2 := B0.out.size
                have hbud := B0.out.bud
                have hg := HG.out
                exact ⟨RN.out, .inl rfl, LO.out, HPP.out m _ w3 _ (by omega) HP3.out (Kw.set G gn 2 _ S0.out HB3.out), by omega, (B0.out.tr.kn HK3.out).far FOOT.out S0.out _ _, (B0.out.pa.kn HK3.out).far B0.out.ne _ _, HB3.out.set 2 _, B0.out.ne, B0.out.geG, B0.out.gen, by simp [World.setCell]; omega⟩
              go_roundw
              case rel => exact ⟨f, m, s', ⟨v, l, true⟩, F3⟩
              case measure =>
                have z1 : (w3.setCell ⟨gn, 2, none⟩ (.bool true)).cell? ⟨gn, 1, none⟩ = some (.int .i64 l) := F3.out.box.cell 1
                have z2 : (w3.setCell ⟨gn, 2, none⟩ (.bool true)).cell? ⟨gn, 2, none⟩ = some (.bool true) := F3.out.box.cell 2
                rw [z1, z2, b1, b2]
                show (65537 - l).toNat + 0 < (65537 - l).toNat + 1
                omega
            · have hb2 : (bit == 1) = false := by simpa using hb1
              rw [if_neg (by simp), if_neg hb1] at RN
              have lw : IntKind.i64.wrap (l + 1) = l + 1 := by have := LO.out; rw [IntWalk.i64_left]; unfold wrap64; omega
              go_wp2_with (first | (go_at_fn gf; (with_reducible refine cc.mono ?_); rintro e w3 ⟨rfl, hp, hkn⟩; have hbx := hkn.block gn _ _ (.inr (.inr rfl)) B0.out.box; have k0 : w3.cell? ⟨gn, 0, none⟩ = some (.int .i64 v) := hbx.cell 0; have k1 : w3.cell? ⟨gn, 1, none⟩ = some (.int .i64 l) := hbx.cell 1; have k2 : w3.cell? ⟨gn, 2, none⟩ = some (.bool false) := hbx.cell 2; have kf := hbx.free; have HP3 := Lib.hid hp; have HK3 := Lib.hid hkn; have HB3 := Lib.hid hbx; clear hp hkn hbx))
              have F3 : Hid (Bt g P t ps ⟨nv, ml, nb⟩ W B A L nd w rh D u Q G gn (D - (k + 1)) (k * FU) pn f m s' ⟨v, l + 1, false⟩ (w3.setCell ⟨gn, 1, none⟩ (.int .i64 (l + 1)))) := by
                have hz := HK3.out.size
                have hz2 := B0.out.size
                have hbud := B0.out.bud
                have hg := HG.out
                have hfu : (t - l).toNat < f + 1 := by have := B0.out.fuel; simpa using this
                have hlo := LO.out
                exact ⟨RN.out, .inr (by simp only; omega), by simp only; omega, HPP.out m _ w3 _ (by omega) HP3.out (Kw.set G gn 1 _ S0.out HB3.out), by omega, (B0.out.tr.kn HK3.out).far FOOT.out S0.out _ _, (B0.out.pa.kn HK3.out).far B0.out.ne _ _, HB3.out.set 1 _, B0.out.ne, B0.out.geG, B0.out.gen, by simp [World.setCell]; omega⟩
              go_roundw
              case rel => exact ⟨f, m, s', ⟨v, l + 1, false⟩, F3⟩
              case measure =>
                have z1 : (w3.setCell ⟨gn, 1, none⟩ (.int .i64 (l + 1))).cell? ⟨gn, 1, none⟩ = some (.int .i64 (l + 1)) := F3.out.box.cell 1
                have z2 : (w3.setCell ⟨gn, 1, none⟩ (.int .i64 (l + 1))).cell? ⟨gn, 2, none⟩ = some (.bool false) := F3.out.box.cell 2
                rw [z1, z2, b1, b2]
                show (65537 - (l + 1)).toNat + 1 < (65537 - l).toNat + 1
                have := LO.out
                omega
          · have he2 : (er != 0) = true := by simpa using he
            rw [if_pos he] at RN
            have PL : Hid (pst g t N D s0 D = ⟨er, s', l, fun i => if i = k then ⟨v, l, false⟩ else pn i⟩) := by
              have hnx := NX.out
              rw [RN.out] at hnx
              have := pst_last g t N D s0 k (by omega) (by rw [hnx]; exact he)
              exact Lib.hid (this.trans hnx)
            have Z0 := Lib.hid B0.out.size
            have TR0 := Lib.hid B0.out.tr
            go_wp2_with (first | (go_at_fn gf; (with_reducible refine cc.mono ?_); rintro e w3 ⟨rfl, hp, hkn⟩; have HP3 := Lib.hid hp; have HK3 := Lib.hid hkn.size; have TR3 := Lib.hid (TR0.out.kn hkn); clear hp hkn))
            go_ret2
            refine ⟨m, .slice none 0 0, by rw [PL.out]; rfl, by rw [PL.out]; exact HP3.out, by have := Z0.out; have := HK3.out; omega, TR3.out, fun hz => ?_⟩
            rw [PL.out] at hz
            exact absurd hz he
        · have B0 := Lib.hid hB.out
          have NX2 : Hid (pst g t N D s0 (D - k) = ⟨0, s, l, fun i => if i = k then ⟨v, l, b⟩ else pn i⟩) := by
            have hnx := NX.out
            rw [B0.out.run, nrun_stop g t f s ⟨v, l, b⟩ hc] at hnx
            exact Lib.hid hnx
          obtain ⟨cs, hpb, hpz, hpc⟩ := B0.out.pa
          have ex : ∀ o, o < D * 3 → ∃ u, wr.cell? ⟨G, o, none⟩ = some u := fun o ho => ⟨cs[o]'(by omega), by rw [hpb.cell]; exact Array.getElem?_eq_getElem _⟩
          obtain ⟨y0, x0⟩ := ex (k * 3) (by omega)
          obtain ⟨y1, x1⟩ := ex (k * 3 + 1) (by omega)
          obtain ⟨y2, x2⟩ := ex (k * 3 + 2) (by omega)
          have xf := hpb.free
          have F4 : Hid (Lv g P t N s0 W B A L nd w rh D u Q G (D - k) m (((wr.setCell ⟨G, k * 3, none⟩ (.int .i64 v)).setCell ⟨G, k * 3 + 1, none⟩ (.int .i64 l)).setCell ⟨G, k * 3 + 2, none⟩ (.bool b))) := by
            have hz := B0.out.size
            have hg := HG.out
            have hbud := B0.out.bud
            have p1 := HPP.out m _ wr _ (by omega) B0.out.p (Kw.set G G (k * 3) (.int .i64 v) (Nat.le_refl _) hpb)
            have p2 := HPP.out m _ _ _ (by simp [World.setCell]; omega) p1 (Kw.set G G (k * 3 + 1) (.int .i64 l) (Nat.le_refl _) (hpb.set _ _))
            have p3 := HPP.out m _ _ _ (by simp [World.setCell]; omega) p2 (Kw.set G G (k * 3 + 2) (.bool b) (Nat.le_refl _) ((hpb.set _ _).set _ _))
            have q := B0.out.pa.put (j := D - (k + 1)) (by omega) ⟨v, l, b⟩ (R' := fun i => if i = k then ⟨v, l, b⟩ else pn i) (fun i => by rw [show D - 1 - (D - (k + 1)) = k by omega]) (o := k * 3) (by rw [show D - 1 - (D - (k + 1)) = k by omega])
            rw [show D - (k + 1) + 1 = D - k by omega] at q
            exact ⟨by rw [NX2.out], by rw [NX2.out]; exact p3, by rw [show D - (D - k) = k by omega]; omega, ((B0.out.tr.far FOOT.out (Nat.le_refl _) _ _).far FOOT.out (Nat.le_refl _) _ _).far FOOT.out (Nat.le_refl _) _ _, by rw [NX2.out]; exact q, B0.out.geG, by simp [World.setCell]; omega⟩
          have kD : (k : Int) < (D : Int) := by omega
          have hlow : (pst g t N D s0 (D - k)).low = l := by rw [NX2.out]
          have HLOW := Lib.hid hlow
          clear hB hpb hpz hpc hlow ex
          by_cases hl : l < t
          · obtain rfl : b = true := by
              cases b with
              | true => rfl
              | false => exact absurd ⟨hl, rfl⟩ hc
            clear hc
            go_wp2_with fail
            have hne := B0.out.ne
            have hne2 := B0.out.ne.symm
            go_region
            all_goals
              go_wp2_with fail
              go_roundw
              case rel => exact ⟨k, m, by omega, by first | rfl | go_num, by first | exact HLOW.out.symm ▸ rfl | rw [HLOW.out], F4.out.step HG.out HPP.out (Below.refl _ _).drew⟩
              case measure => simp [intOf]
          · clear hc
            go_wp2_with fail
            have hne := B0.out.ne
            have hne2 := B0.out.ne.symm
            go_region
            all_goals
              go_wp2_with fail
              go_roundw
              case rel => exact ⟨k, m, by omega, by first | rfl | go_num, by first | exact HLOW.out.symm ▸ rfl | rw [HLOW.out], F4.out.step HG.out HPP.out (Below.refl _ _).drew⟩
              case measure => simp [intOf]
end Go.Proofs.Ytaddendclipkkaa
