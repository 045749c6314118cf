/-
  Layer 10: the code's code: a leaf coded up to a threshold, for any source or destination of bits.
-/
import Derived.Test.YtaddendclipkkaaTe
set_option maxRecDepth 100000
namespace Go.Proofs.Ytaddendclipkkaa
open Go.RowKit

/-- The nodes behind a walk: those on the way are new. -/
def upP (Q : Nat → Nat → Nat → Nd) (x y : Nat) (R : Nat → Nd) (m : Nat) : Nat → Nat → Nat → Nd := fun k X Y => if k < m ∧ X = x / 2 ^ k ∧ Y = y / 2 ^ k then R k else Q k X Y
theorem upP_zero (Q : Nat → Nat → Nat → Nd) (x y : Nat) (R : Nat → Nd) : upP Q x y R 0 = Q := by
  funext k X Y
  unfold upP
  rw [if_neg (fun e => by omega)]
theorem upP_next (Q : Nat → Nat → Nat → Nd) (x y : Nat) (R : Nat → Nd) (m : Nat) : upN (upP Q x y R m) m (x / 2 ^ m) (y / 2 ^ m) (R m) = upP Q x y R (m + 1) := by
  funext k X Y
  unfold upN upP
  by_cases hk : k = m
  · subst hk
    by_cases hxy : X = x / 2 ^ k ∧ Y = y / 2 ^ k
    · rw [if_pos ⟨rfl, hxy⟩, if_pos ⟨by omega, hxy⟩]
    · rw [if_neg (fun e => hxy e.2), if_neg (fun e => hxy e.2), if_neg (fun e => hxy e.2)]
  · rw [if_neg (fun e => hk e.1)]
    by_cases hm : k < m ∧ X = x / 2 ^ k ∧ Y = y / 2 ^ k
    · rw [if_pos hm, if_pos ⟨by omega, hm.2⟩]
    · rw [if_neg hm, if_neg (fun e => hm ⟨by omega, e.2⟩)]
theorem Tr.put3 {W : World} {B A L w h D : Nat} {nd : Nat → Nat} {u : Int} {Q : Nat → Nat → Nat → Nd} (H : Tr W B A L nd w h D u Q) {k X Y : Nat} (hk : k < D) (hX : X < dm w k) (hY : Y < dm h k) (n : Nd) (hb : 0 ≤ n.l ∧ n.l ≤ 65536) {o : Nat} (ho : o = (Y * dm w k + X) * 3) :
    Tr (((W.setCell ⟨nd k, o, none⟩ (.int .i64 n.v)).setCell ⟨nd k, o + 1, none⟩ (.int .i64 n.l)).setCell ⟨nd k, o + 2, none⟩ (.bool n.b)) B A L nd w h D u (upN Q k X Y n) := by
  have q0 := H.put hk hX hY 0 (by omega) ⟨n.v, (Q k X Y).l, (Q k X Y).b⟩ (fun c hc hn => by
    match c, hc with
    | 0, _ => exact absurd rfl hn
    | 1, _ => rfl
    | 2, _ => rfl) (H.qb k X Y) (o := o) (by omega)
  have e1 : upN Q k X Y ⟨n.v, (Q k X Y).l, (Q k X Y).b⟩ k X Y = ⟨n.v, (Q k X Y).l, (Q k X Y).b⟩ := by unfold upN; rw [if_pos ⟨rfl, rfl, rfl⟩]
  have q1 := q0.put hk hX hY 1 (by omega) ⟨n.v, n.l, (Q k X Y).b⟩ (fun c hc hn => by
    rw [e1]
    match c, hc with
    | 0, _ => rfl
    | 1, _ => exact absurd rfl hn
    | 2, _ => rfl) hb (o := o + 1) (by omega)
  have e2 : upN (upN Q k X Y ⟨n.v, (Q k X Y).l, (Q k X Y).b⟩) k X Y ⟨n.v, n.l, (Q k X Y).b⟩ k X Y = ⟨n.v, n.l, (Q k X Y).b⟩ := by unfold upN; rw [if_pos ⟨rfl, rfl, rfl⟩]
  have q2 := q1.put hk hX hY 2 (by omega) n (fun c hc hn => by
    rw [e2]
    match c, hc with
    | 0, _ => rfl
    | 1, _ => rfl
    | 2, _ => exact absurd rfl hn) hb (o := o + 2) (by omega)
  have e3 : upN (upN (upN Q k X Y ⟨n.v, (Q k X Y).l, (Q k X Y).b⟩) k X Y ⟨n.v, n.l, (Q k X Y).b⟩) k X Y n = upN Q k X Y n := by
    funext i a b
    unfold upN
    by_cases h : i = k ∧ a = X ∧ b = Y
    · rw [if_pos h, if_pos h]
    · rw [if_neg h, if_neg h, if_neg h, if_neg h]
  rw [e3] at q2
  exact q2
theorem Tr.setU {W : World} {B A L w h D : Nat} {nd : Nat → Nat} {u : Int} {Q : Nat → Nat → Nat → Nd} (H : Tr W B A L nd w h D u Q) (u' : Int) (hu : 0 ≤ u' ∧ u' ≤ 2) : Tr (W.setCell ⟨A, 2, none⟩ (.int .i64 u')) B A L nd w h D u' Q := by
  obtain ⟨m, ho⟩ := H.obj
  obtain ⟨cs, hl, hl2⟩ := H.lvs
  refine ⟨H.w1, H.h1, H.sz, H.ws, H.hs, H.d1, H.d2, H.top, hu, H.geA, H.geL, H.geN, H.inj, ⟨m, ho.set 2 _⟩, ⟨cs, hl.far (p := ⟨A, 2, none⟩) (ho.ne hl (by decide)).symm _, hl2⟩, fun k hk => ?_, H.qb⟩
  obtain ⟨ds, hn, hn2⟩ := H.nds k hk
  exact ⟨ds, hn.far (p := ⟨A, 2, none⟩) (hn.ne ho (by decide)) _, hn2⟩
set_option maxHeartbeats 8000000 in
theorem code_yes {σ : Type} (g : σ → Nd → Int × Int × σ) (P : Nat → σ → World → Prop) (PF : σ → World → Prop) (gf : Nat) (cv : Value) {W : World} {B A L w rh D : Nat} {nd : Nat → Nat} {u : Int} {Q : Nat → Nat → Nat → Nd} (u' t : Int) (ht : 0 ≤ t ∧ t ≤ 65536) (hu : u = 0 ∨ u = u') (hu' : 0 ≤ u' ∧ u' ≤ 2)
    (eg : ∀ args w, (callFunc gf args).run Try.prog w = .ok (.enter gf args) w)
    (hP : ∀ m s W1 W2, W.heap.size ≤ W1.heap.size → P m s W1 → Kw W.heap.size W1 W2 → P m s W2)
    (hC : ∀ m s W1 n, W.heap.size ≤ W1.heap.size → P (m + 1) s W1 → Calls Try.prog gf #[.agg #[.int .i64 n.v, .int .i64 n.l, .bool n.b], cv] W1 fun e W2 => e = .returned (.tuple #[.int .i64 (g s n).1, .int .i64 (g s n).2.1]) ∧ P m (g s n).2.2 W2 ∧ Kn W1 W2)
    (hF : ∀ m s W1, W.heap.size ≤ W1.heap.size → P m s W1 → PF s W1)
    (hF2 : ∀ s W1 W2 u1 Q1, W.heap.size ≤ W1.heap.size → Tr W1 B A L nd w rh D u1 Q1 → PF s W1 → Kf (Tf A L nd D) W1 W2 → PF s W2)
    (H : Tr W B A L nd w rh D u Q) (x y : Nat) (hx : x < w) (hy : y < rh) (m0 : Nat) (s0 : σ) (hm : D * FU ≤ m0) (h0 : P m0 s0 W) :
    Calls Try.prog 64 #[.pointer (some ⟨A, 0, none⟩), .int .i64 u', .int .i64 (x : Int), .int .i64 (y : Int), .int .i64 t, .func (.func gf) #[] #[cv]] W
      fun e w' => e = .returned (.int .i64 (pst g t (fun k => Q k (x / 2 ^ k) (y / 2 ^ k)) D s0 D).e) ∧ PF (pst g t (fun k => Q k (x / 2 ^ k) (y / 2 ^ k)) D s0 D).s w' ∧ W.heap.size ≤ w'.heap.size ∧
        Tr w' B A L nd w rh D (if (pst g t (fun k => Q k (x / 2 ^ k) (y / 2 ^ k)) D s0 D).e = 0 then u' else u) (if (pst g t (fun k => Q k (x / 2 ^ k) (y / 2 ^ k)) D s0 D).e = 0 then upP Q x y (pst g t (fun k => Q k (x / 2 ^ k) (y / 2 ^ k)) D s0 D).n D else Q) := by
  have wk := fun (X : World) (hX : Below W.heap.size W X) => walk_c g P gf cv t ht eg (W := X) (fun m s W1 W2 h1 h2 h3 => hP m s W1 W2 (Nat.le_trans hX.size h1) h2 ⟨h3.os, h3.tape, h3.output, h3.size, fun k hk ho => h3.block k hk (ho.imp (fun z => Nat.lt_of_lt_of_le z hX.size) id)⟩) (fun m s W1 n h1 h2 => hC m s W1 n (Nat.le_trans hX.size h1) h2) (H.below hX) x y hx hy m0 s0 hm (hP m0 s0 W X (Nat.le_refl _) h0 (Kw.of_below _ hX))
  have hc := has_c H (x : Int) (y : Int)
  rw [decide_eq_true (by unfold inT; omega)] at hc
  obtain ⟨c0, ⟨mc, c1⟩, c2⟩ := H.cells
  have hpb := pst_bd g t ht.2 (fun k => Q k (x / 2 ^ k) (y / 2 ^ k)) D s0 (fun k => H.qb _ _ _) D
  generalize hp : pst g t (fun k => Q k (x / 2 ^ k) (y / 2 ^ k)) D s0 D = p at *
  have HU := Lib.hid hu
  have HXY := Lib.hid (And.intro hx hy)
  have WK := Lib.hid wk
  have HT := Lib.hid H
  have HFF := Lib.hid hF
  have HF2 := Lib.hid hF2
  have HP := Lib.hid hp
  have PB := Lib.hid hpb
  have hd := H.d2
  obtain ⟨t0, t1⟩ := ht
  clear H hx hy hP hC hF hF2 hm h0 wk hu hp hpb
  have hug : u = 0 ∨ ((u != 0) = true ∧ (u != u') = false) := by
    rcases HU.out with h | h
    · exact .inl h
    · by_cases h' : u = 0
      · exact .inl h'
      · exact .inr ⟨by simpa using h', by simp [h]⟩
  have NDA := Lib.hid (fun k (hk : k < D) => (HT.out.foot (nd k) (.inr (.inr ⟨k, hk, rfl⟩))).2)
  have key : ∀ (a : Act) (w1 : World), True := fun _ _ => trivial
  clear key
  rcases hug with rfl | ⟨hg1, hg2⟩
  · go_enter Try.func64, Try.ntmps64
    go_wp2_with fail
    refine hc.mono ?_
    rintro e w1 ⟨rfl, hb1⟩
    have wk1 := WK.out w1 hb1
    have Z1 := Lib.hid hb1.size
    clear hb1 hc c0 c1 c2
    go_wp2_with fail
    refine wk1.mono ?_
    rintro e w2 ⟨m, pv, rfl, hp, hsz, htr, hpa⟩
    rw [HP.out] at hp hpa ⊢
    have P2 := Lib.hid hp
    have T2 := Lib.hid htr
    have S2 : Hid (W.heap.size ≤ w2.heap.size) := Lib.hid (Nat.le_trans Z1.out hsz)
    clear wk1 hp htr hsz
    by_cases he : p.e = 0
    · obtain ⟨G, rfl, hge, hPa⟩ := hpa he
      have HE := Lib.hid he
      have PA := Lib.hid hPa
      have GE : Hid (W.heap.size ≤ G) := Lib.hid (Nat.le_trans Z1.out hge)
      rw [he]
      clear hpa hge hPa he
      go_wp2_with fail
      go_loopw [59] (fun z wr => ∃ k : Nat, k ≤ D ∧ z = .int .i64 (k : Int) ∧ Hid (PF p.s wr ∧ W.heap.size ≤ wr.heap.size ∧ Tr wr B A L nd w rh D 0 (upP Q x y p.n k) ∧ Pa wr G D p.n D)) (fun z _ => D - (intOf z).toNat)
      case atStart => exact ⟨0, Nat.zero_le _, rfl, HFF.out m _ _ S2.out P2.out, S2.out, by rw [upP_zero]; exact T2.out, PA.out⟩
      case round =>
        obtain ⟨k, hk, rfl, hT⟩ := hrel
        by_cases hlt : k < D
        · obtain ⟨cs, hpb, hpz, hpc⟩ := hT.out.2.2.2
          obtain ⟨b0, b1, b2⟩ := hpc k (by omega) hlt
          have x0 : wr.cell? ⟨G, k * 3, none⟩ = some (.int .i64 (p.n k).v) := by rw [hpb.cell]; exact b0
          have x1 : wr.cell? ⟨G, k * 3 + 1, none⟩ = some (.int .i64 (p.n k).l) := by rw [hpb.cell]; exact b1
          have x2 : wr.cell? ⟨G, k * 3 + 2, none⟩ = some (.bool (p.n k).b) := by rw [hpb.cell]; exact b2
          obtain ⟨i, hi⟩ : ∃ i, i = y / 2 ^ k * dm w k + x / 2 ^ k := ⟨_, rfl⟩
          have HI := Lib.hid hi
          have T0 := Lib.hid hT.out
          obtain ⟨n, hn⟩ : ∃ n, n = p.n k := ⟨_, rfl⟩
          rw [← hn] at x0 x1 x2
          have HN := Lib.hid hn
          have NB : Hid (0 ≤ n.l ∧ n.l ≤ 65536) := by rw [hn]; exact Lib.hid (PB.out.2.1 k)
          obtain ⟨nv, nl, nb⟩ := n
          dsimp only at x0 x1 x2
          clear hpb hpz hpc b0 b1 b2 hi hT hn
          go_wp2_with fail
          have hA := below_alloc (Below.refl _ wr) (.cells #[.int .i64 nv, .int .i64 nl, .bool nb] 100)
          have BX := Lib.hid (Blk.new wr 100 #[.int .i64 nv, .int .i64 nl, .bool nb])
          have F3 : Hid (PF p.s (wr.alloc (.cells #[.int .i64 nv, .int .i64 nl, .bool nb] 100)) ∧ W.heap.size ≤ (wr.alloc (.cells #[.int .i64 nv, .int .i64 nl, .bool nb] 100)).heap.size ∧ Tr (wr.alloc (.cells #[.int .i64 nv, .int .i64 nl, .bool nb] 100)) B A L nd w rh D 0 (upP Q x y p.n k) ∧ Pa (wr.alloc (.cells #[.int .i64 nv, .int .i64 nl, .bool nb] 100)) G D p.n D) :=
            ⟨HF2.out _ _ _ _ _ T0.out.2.1 T0.out.2.2.1 T0.out.1 (Kf.of_below _ hA), by have := T0.out.2.1; simp; omega, T0.out.2.2.1.below hA, T0.out.2.2.2.below hA⟩
          have GBN : Hid (∀ j, j < D → nd j ≠ wr.heap.size) := Lib.hid (fun j hj => by have := NDA.out j hj; have := T0.out.2.1; omega)
          clear hA T0 x0 x1 x2
          generalize wr.heap.size = gb at *
          generalize wr.alloc (.cells #[.int .i64 nv, .int .i64 nl, .bool nb] 100) = w3 at *
          have q0 : w3.cell? ⟨gb, 0, none⟩ = some (.int .i64 nv) ∧ w3.cell? ⟨gb, 1, none⟩ = some (.int .i64 nl) ∧ w3.cell? ⟨gb, 2, none⟩ = some (.bool nb) := ⟨BX.out.cell 0, BX.out.cell 1, BX.out.cell 2⟩
          have BD : Hid (Blk w3.drew gb 100 #[.int .i64 nv, .int .i64 nl, .bool nb]) := BX.out
          have qD : w3.drew.cell? ⟨gb, 0, none⟩ = some (.int .i64 nv) ∧ w3.drew.cell? ⟨gb, 1, none⟩ = some (.int .i64 nl) ∧ w3.drew.cell? ⟨gb, 2, none⟩ = some (.bool nb) := ⟨BX.out.cell 0, BX.out.cell 1, BX.out.cell 2⟩
          have FD : Hid (PF p.s w3.drew ∧ W.heap.size ≤ w3.drew.heap.size ∧ Tr w3.drew B A L nd w rh D 0 (upP Q x y p.n k) ∧ Pa w3.drew G D p.n D) :=
            ⟨HF2.out _ _ _ _ _ F3.out.2.1 F3.out.2.2.1 F3.out.1 (Kf.of_below _ (Below.refl _ _).drew), F3.out.2.1, F3.out.2.2.1.below (Below.refl _ _).drew, F3.out.2.2.2.below (Below.refl _ _).drew⟩
          have hon := on_c FD.out.2.2.1 k x y hlt HXY.out.1 HXY.out.2 i HI.out
          go_region_held3 (fun w' => w'.cell? ⟨gb, 0, none⟩ = some (.int .i64 nv) ∧ w'.cell? ⟨gb, 1, none⟩ = some (.int .i64 nl) ∧ w'.cell? ⟨gb, 2, none⟩ = some (.bool nb))
            (first | (with_reducible exact qD) | (with_reducible exact q0) | (with_reducible exact q5) | (with_reducible exact q6) | fail)
            (first | (go_simp; go_at_call 61; (with_reducible refine hon.mono ?_); rintro e w5 ⟨rfl, hb⟩; have B5 := Lib.hid (BD.out.below hb); have q5 : w5.cell? ⟨gb, 0, none⟩ = some (.int .i64 nv) ∧ w5.cell? ⟨gb, 1, none⟩ = some (.int .i64 nl) ∧ w5.cell? ⟨gb, 2, none⟩ = some (.bool nb) := ⟨B5.out.cell 0, B5.out.cell 1, B5.out.cell 2⟩; have F5 : Hid (PF p.s w5 ∧ W.heap.size ≤ w5.heap.size ∧ Tr w5 B A L nd w rh D 0 (upP Q x y p.n k) ∧ Pa w5 G D p.n D) := ⟨HF2.out _ _ _ _ _ FD.out.2.1 FD.out.2.2.1 FD.out.1 (Kf.of_below _ hb), Nat.le_trans FD.out.2.1 hb.size, FD.out.2.2.1.below hb, FD.out.2.2.2.below hb⟩; have d0 := (F5.out.2.2.1.at hlt HXY.out.1 HXY.out.2 HI.out).1; have d1 := (F5.out.2.2.1.at hlt HXY.out.1 HXY.out.2 HI.out).2.1; have d2 := (F5.out.2.2.1.at hlt HXY.out.1 HXY.out.2 HI.out).2.2; have df := F5.out.2.2.1.free hlt; have B6 : Hid (Blk (((w5.setCell ⟨nd k, i * 3, none⟩ (.int .i64 nv)).setCell ⟨nd k, i * 3 + 1, none⟩ (.int .i64 nl)).setCell ⟨nd k, i * 3 + 2, none⟩ (.bool nb)) gb 100 #[.int .i64 nv, .int .i64 nl, .bool nb]) := ((B5.out.far (p := ⟨nd k, i * 3, none⟩) (GBN.out k hlt).symm _).far (p := ⟨nd k, i * 3 + 1, none⟩) (GBN.out k hlt).symm _).far (p := ⟨nd k, i * 3 + 2, none⟩) (GBN.out k hlt).symm _; have q6 : (((w5.setCell ⟨nd k, i * 3, none⟩ (.int .i64 nv)).setCell ⟨nd k, i * 3 + 1, none⟩ (.int .i64 nl)).setCell ⟨nd k, i * 3 + 2, none⟩ (.bool nb)).cell? ⟨gb, 0, none⟩ = some (.int .i64 nv) ∧ (((w5.setCell ⟨nd k, i * 3, none⟩ (.int .i64 nv)).setCell ⟨nd k, i * 3 + 1, none⟩ (.int .i64 nl)).setCell ⟨nd k, i * 3 + 2, none⟩ (.bool nb)).cell? ⟨gb, 1, none⟩ = some (.int .i64 nl) ∧ (((w5.setCell ⟨nd k, i * 3, none⟩ (.int .i64 nv)).setCell ⟨nd k, i * 3 + 1, none⟩ (.int .i64 nl)).setCell ⟨nd k, i * 3 + 2, none⟩ (.bool nb)).cell? ⟨gb, 2, none⟩ = some (.bool nb) := ⟨B6.out.cell 0, B6.out.cell 1, B6.out.cell 2⟩; clear hb) | fail)
          all_goals
            have hp3 := F5.out.2.2.1.put3 hlt (dm_at HXY.out.1 k) (dm_at HXY.out.2 k) ⟨nv, nl, nb⟩ NB.out (o := i * 3) (by rw [HI.out])
          have hq : upN (upP Q x y p.n k) k (x / 2 ^ k) (y / 2 ^ k) ⟨nv, nl, nb⟩ = upP Q x y p.n (k + 1) := by rw [HN.out]; exact upP_next _ _ _ _ _
          rw [hq] at hp3
          have hk3 : Kf (Tf A L nd D) w5 (((w5.setCell ⟨nd k, i * 3, none⟩ (.int .i64 nv)).setCell ⟨nd k, i * 3 + 1, none⟩ (.int .i64 nl)).setCell ⟨nd k, i * 3 + 2, none⟩ (.bool nb)) := ((Kf.set (nd k) (i * 3) (.int .i64 nv) (.inr (.inr ⟨k, hlt, rfl⟩)) w5).trans (Kf.set (nd k) (i * 3 + 1) (.int .i64 nl) (.inr (.inr ⟨k, hlt, rfl⟩)) _)).trans (Kf.set (nd k) (i * 3 + 2) (.bool nb) (.inr (.inr ⟨k, hlt, rfl⟩)) _)
          have F6 : Hid (PF p.s (((w5.setCell ⟨nd k, i * 3, none⟩ (.int .i64 nv)).setCell ⟨nd k, i * 3 + 1, none⟩ (.int .i64 nl)).setCell ⟨nd k, i * 3 + 2, none⟩ (.bool nb)) ∧ W.heap.size ≤ (((w5.setCell ⟨nd k, i * 3, none⟩ (.int .i64 nv)).setCell ⟨nd k, i * 3 + 1, none⟩ (.int .i64 nl)).setCell ⟨nd k, i * 3 + 2, none⟩ (.bool nb)).heap.size ∧ Tr (((w5.setCell ⟨nd k, i * 3, none⟩ (.int .i64 nv)).setCell ⟨nd k, i * 3 + 1, none⟩ (.int .i64 nl)).setCell ⟨nd k, i * 3 + 2, none⟩ (.bool nb)) B A L nd w rh D 0 (upP Q x y p.n (k + 1)) ∧ Pa (((w5.setCell ⟨nd k, i * 3, none⟩ (.int .i64 nv)).setCell ⟨nd k, i * 3 + 1, none⟩ (.int .i64 nl)).setCell ⟨nd k, i * 3 + 2, none⟩ (.bool nb)) G D p.n D) := by
            have hGk : G ≠ nd k := by have := NDA.out k hlt; have := GE.out; omega
            exact ⟨HF2.out _ _ _ _ _ F5.out.2.1 F5.out.2.2.1 F5.out.1 hk3, Nat.le_trans F5.out.2.1 hk3.size, hp3, ((F5.out.2.2.2.far hGk _ _).far hGk _ _).far hGk _ _⟩
          clear hp3 hk3 q0 qD q5 q6 hon
          go_wp2_with fail
          go_roundw
          case rel => exact ⟨k + 1, by omega, by go_num, F6⟩
          case measure => simp [intOf]; omega
        · obtain rfl : k = D := by omega
          have T0 := Lib.hid hT.out
          clear hT
          have cA := T0.out.2.2.1.cells
          obtain ⟨d0, d1, d2⟩ := cA
          have fA := T0.out.2.2.1.freeA
          have TU := Lib.hid (T0.out.2.2.1.setU u' hu')
          have F6 := Lib.hid (HF2.out _ _ _ _ _ T0.out.2.1 T0.out.2.2.1 T0.out.1 (Kf.set A 2 (.int .i64 u') (.inl rfl) wr))
          go_wp2_with fail
          go_ret
          exact ⟨rfl, F6.out, by simp [World.setCell]; exact T0.out.2.1, by first | exact TU.out | (rw [if_pos HE.out, if_pos HE.out]; exact TU.out)⟩
    · have he2 : (p.e != 0) = true := by simpa using he
      clear hpa
      go_wp2_with fail
      go_ret
      exact ⟨rfl, HFF.out m _ _ S2.out P2.out, S2.out, by first | exact T2.out | (rw [if_neg he, if_neg he]; exact T2.out)⟩
  · go_enter Try.func64, Try.ntmps64
    go_wp2_with fail
    refine hc.mono ?_
    rintro e w1 ⟨rfl, hb1⟩
    have wk1 := WK.out w1 hb1
    have Z1 := Lib.hid hb1.size
    clear hb1 hc c0 c1 c2
    go_wp2_with fail
    refine wk1.mono ?_
    rintro e w2 ⟨m, pv, rfl, hp, hsz, htr, hpa⟩
    rw [HP.out] at hp hpa ⊢
    have P2 := Lib.hid hp
    have T2 := Lib.hid htr
    have S2 : Hid (W.heap.size ≤ w2.heap.size) := Lib.hid (Nat.le_trans Z1.out hsz)
    clear wk1 hp htr hsz
    by_cases he : p.e = 0
    · obtain ⟨G, rfl, hge, hPa⟩ := hpa he
      have HE := Lib.hid he
      have PA := Lib.hid hPa
      have GE : Hid (W.heap.size ≤ G) := Lib.hid (Nat.le_trans Z1.out hge)
      rw [he]
      clear hpa hge hPa he
      go_wp2_with fail
      go_loopw [59] (fun z wr => ∃ k : Nat, k ≤ D ∧ z = .int .i64 (k : Int) ∧ Hid (PF p.s wr ∧ W.heap.size ≤ wr.heap.size ∧ Tr wr B A L nd w rh D u (upP Q x y p.n k) ∧ Pa wr G D p.n D)) (fun z _ => D - (intOf z).toNat)
      case atStart => exact ⟨0, Nat.zero_le _, rfl, HFF.out m _ _ S2.out P2.out, S2.out, by rw [upP_zero]; exact T2.out, PA.out⟩
      case round =>
        obtain ⟨k, hk, rfl, hT⟩ := hrel
        by_cases hlt : k < D
        · obtain ⟨cs, hpb, hpz, hpc⟩ := hT.out.2.2.2
          obtain ⟨b0, b1, b2⟩ := hpc k (by omega) hlt
          have x0 : wr.cell? ⟨G, k * 3, none⟩ = some (.int .i64 (p.n k).v) := by rw [hpb.cell]; exact b0
          have x1 : wr.cell? ⟨G, k * 3 + 1, none⟩ = some (.int .i64 (p.n k).l) := by rw [hpb.cell]; exact b1
          have x2 : wr.cell? ⟨G, k * 3 + 2, none⟩ = some (.bool (p.n k).b) := by rw [hpb.cell]; exact b2
          obtain ⟨i, hi⟩ : ∃ i, i = y / 2 ^ k * dm w k + x / 2 ^ k := ⟨_, rfl⟩
          have HI := Lib.hid hi
          have T0 := Lib.hid hT.out
          obtain ⟨n, hn⟩ : ∃ n, n = p.n k := ⟨_, rfl⟩
          rw [← hn] at x0 x1 x2
          have HN := Lib.hid hn
          have NB : Hid (0 ≤ n.l ∧ n.l ≤ 65536) := by rw [hn]; exact Lib.hid (PB.out.2.1 k)
          obtain ⟨nv, nl, nb⟩ := n
          dsimp only at x0 x1 x2
          clear hpb hpz hpc b0 b1 b2 hi hT hn
          go_wp2_with fail
          have hA := below_alloc (Below.refl _ wr) (.cells #[.int .i64 nv, .int .i64 nl, .bool nb] 100)
          have BX := Lib.hid (Blk.new wr 100 #[.int .i64 nv, .int .i64 nl, .bool nb])
          have F3 : Hid (PF p.s (wr.alloc (.cells #[.int .i64 nv, .int .i64 nl, .bool nb] 100)) ∧ W.heap.size ≤ (wr.alloc (.cells #[.int .i64 nv, .int .i64 nl, .bool nb] 100)).heap.size ∧ Tr (wr.alloc (.cells #[.int .i64 nv, .int .i64 nl, .bool nb] 100)) B A L nd w rh D u (upP Q x y p.n k) ∧ Pa (wr.alloc (.cells #[.int .i64 nv, .int .i64 nl, .bool nb] 100)) G D p.n D) :=
            ⟨HF2.out _ _ _ _ _ T0.out.2.1 T0.out.2.2.1 T0.out.1 (Kf.of_below _ hA), by have := T0.out.2.1; simp; omega, T0.out.2.2.1.below hA, T0.out.2.2.2.below hA⟩
          have GBN : Hid (∀ j, j < D → nd j ≠ wr.heap.size) := Lib.hid (fun j hj => by have := NDA.out j hj; have := T0.out.2.1; omega)
          clear hA T0 x0 x1 x2
          generalize wr.heap.size = gb at *
          generalize wr.alloc (.cells #[.int .i64 nv, .int .i64 nl, .bool nb] 100) = w3 at *
          have q0 : w3.cell? ⟨gb, 0, none⟩ = some (.int .i64 nv) ∧ w3.cell? ⟨gb, 1, none⟩ = some (.int .i64 nl) ∧ w3.cell? ⟨gb, 2, none⟩ = some (.bool nb) := ⟨BX.out.cell 0, BX.out.cell 1, BX.out.cell 2⟩
          have BD : Hid (Blk w3.drew gb 100 #[.int .i64 nv, .int .i64 nl, .bool nb]) := BX.out
          have qD : w3.drew.cell? ⟨gb, 0, none⟩ = some (.int .i64 nv) ∧ w3.drew.cell? ⟨gb, 1, none⟩ = some (.int .i64 nl) ∧ w3.drew.cell? ⟨gb, 2, none⟩ = some (.bool nb) := ⟨BX.out.cell 0, BX.out.cell 1, BX.out.cell 2⟩
          have FD : Hid (PF p.s w3.drew ∧ W.heap.size ≤ w3.drew.heap.size ∧ Tr w3.drew B A L nd w rh D u (upP Q x y p.n k) ∧ Pa w3.drew G D p.n D) :=
            ⟨HF2.out _ _ _ _ _ F3.out.2.1 F3.out.2.2.1 F3.out.1 (Kf.of_below _ (Below.refl _ _).drew), F3.out.2.1, F3.out.2.2.1.below (Below.refl _ _).drew, F3.out.2.2.2.below (Below.refl _ _).drew⟩
          have hon := on_c FD.out.2.2.1 k x y hlt HXY.out.1 HXY.out.2 i HI.out
          go_region_held3 (fun w' => w'.cell? ⟨gb, 0, none⟩ = some (.int .i64 nv) ∧ w'.cell? ⟨gb, 1, none⟩ = some (.int .i64 nl) ∧ w'.cell? ⟨gb, 2, none⟩ = some (.bool nb))
            (first | (with_reducible exact qD) | (with_reducible exact q0) | (with_reducible exact q5) | (with_reducible exact q6) | fail)
            (first | (go_simp; go_at_call 61; (with_reducible refine hon.mono ?_); rintro e w5 ⟨rfl, hb⟩; have B5 := Lib.hid (BD.out.below hb); have q5 : w5.cell? ⟨gb, 0, none⟩ = some (.int .i64 nv) ∧ w5.cell? ⟨gb, 1, none⟩ = some (.int .i64 nl) ∧ w5.cell? ⟨gb, 2, none⟩ = some (.bool nb) := ⟨B5.out.cell 0, B5.out.cell 1, B5.out.cell 2⟩; have F5 : Hid (PF p.s w5 ∧ W.heap.size ≤ w5.heap.size ∧ Tr w5 B A L nd w rh D u (upP Q x y p.n k) ∧ Pa w5 G D p.n D) := ⟨HF2.out _ _ _ _ _ FD.out.2.1 FD.out.2.2.1 FD.out.1 (Kf.of_below _ hb), Nat.le_trans FD.out.2.1 hb.size, FD.out.2.2.1.below hb, FD.out.2.2.2.below hb⟩; have d0 := (F5.out.2.2.1.at hlt HXY.out.1 HXY.out.2 HI.out).1; have d1 := (F5.out.2.2.1.at hlt HXY.out.1 HXY.out.2 HI.out).2.1; have d2 := (F5.out.2.2.1.at hlt HXY.out.1 HXY.out.2 HI.out).2.2; have df := F5.out.2.2.1.free hlt; have B6 : Hid (Blk (((w5.setCell ⟨nd k, i * 3, none⟩ (.int .i64 nv)).setCell ⟨nd k, i * 3 + 1, none⟩ (.int .i64 nl)).setCell ⟨nd k, i * 3 + 2, none⟩ (.bool nb)) gb 100 #[.int .i64 nv, .int .i64 nl, .bool nb]) := ((B5.out.far (p := ⟨nd k, i * 3, none⟩) (GBN.out k hlt).symm _).far (p := ⟨nd k, i * 3 + 1, none⟩) (GBN.out k hlt).symm _).far (p := ⟨nd k, i * 3 + 2, none⟩) (GBN.out k hlt).symm _; have q6 : (((w5.setCell ⟨nd k, i * 3, none⟩ (.int .i64 nv)).setCell ⟨nd k, i * 3 + 1, none⟩ (.int .i64 nl)).setCell ⟨nd k, i * 3 + 2, none⟩ (.bool nb)).cell? ⟨gb, 0, none⟩ = some (.int .i64 nv) ∧ (((w5.setCell ⟨nd k, i * 3, none⟩ (.int .i64 nv)).setCell ⟨nd k, i * 3 + 1, none⟩ (.int .i64 nl)).setCell ⟨nd k, i * 3 + 2, none⟩ (.bool nb)).cell? ⟨gb, 1, none⟩ = some (.int .i64 nl) ∧ (((w5.setCell ⟨nd k, i * 3, none⟩ (.int .i64 nv)).setCell ⟨nd k, i * 3 + 1, none⟩ (.int .i64 nl)).setCell ⟨nd k, i * 3 + 2, none⟩ (.bool nb)).cell? ⟨gb, 2, none⟩ = some (.bool nb) := ⟨B6.out.cell 0, B6.out.cell 1, B6.out.cell 2⟩; clear hb) | fail)
          all_goals
            have hp3 := F5.out.2.2.1.put3 hlt (dm_at HXY.out.1 k) (dm_at HXY.out.2 k) ⟨nv, nl, nb⟩ NB.out (o := i * 3) (by rw [HI.out])
          have hq : upN (upP Q x y p.n k) k (x / 2 ^ k) (y / 2 ^ k) ⟨nv, nl, nb⟩ = upP Q x y p.n (k + 1) := by rw [HN.out]; exact upP_next _ _ _ _ _
          rw [hq] at hp3
          have hk3 : Kf (Tf A L nd D) w5 (((w5.setCell ⟨nd k, i * 3, none⟩ (.int .i64 nv)).setCell ⟨nd k, i * 3 + 1, none⟩ (.int .i64 nl)).setCell ⟨nd k, i * 3 + 2, none⟩ (.bool nb)) := ((Kf.set (nd k) (i * 3) (.int .i64 nv) (.inr (.inr ⟨k, hlt, rfl⟩)) w5).trans (Kf.set (nd k) (i * 3 + 1) (.int .i64 nl) (.inr (.inr ⟨k, hlt, rfl⟩)) _)).trans (Kf.set (nd k) (i * 3 + 2) (.bool nb) (.inr (.inr ⟨k, hlt, rfl⟩)) _)
          have F6 : Hid (PF p.s (((w5.setCell ⟨nd k, i * 3, none⟩ (.int .i64 nv)).setCell ⟨nd k, i * 3 + 1, none⟩ (.int .i64 nl)).setCell ⟨nd k, i * 3 + 2, none⟩ (.bool nb)) ∧ W.heap.size ≤ (((w5.setCell ⟨nd k, i * 3, none⟩ (.int .i64 nv)).setCell ⟨nd k, i * 3 + 1, none⟩ (.int .i64 nl)).setCell ⟨nd k, i * 3 + 2, none⟩ (.bool nb)).heap.size ∧ Tr (((w5.setCell ⟨nd k, i * 3, none⟩ (.int .i64 nv)).setCell ⟨nd k, i * 3 + 1, none⟩ (.int .i64 nl)).setCell ⟨nd k, i * 3 + 2, none⟩ (.bool nb)) B A L nd w rh D u (upP Q x y p.n (k + 1)) ∧ Pa (((w5.setCell ⟨nd k, i * 3, none⟩ (.int .i64 nv)).setCell ⟨nd k, i * 3 + 1, none⟩ (.int .i64 nl)).setCell ⟨nd k, i * 3 + 2, none⟩ (.bool nb)) G D p.n D) := by
            have hGk : G ≠ nd k := by have := NDA.out k hlt; have := GE.out; omega
            exact ⟨HF2.out _ _ _ _ _ F5.out.2.1 F5.out.2.2.1 F5.out.1 hk3, Nat.le_trans F5.out.2.1 hk3.size, hp3, ((F5.out.2.2.2.far hGk _ _).far hGk _ _).far hGk _ _⟩
          clear hp3 hk3 q0 qD q5 q6 hon
          go_wp2_with fail
          go_roundw
          case rel => exact ⟨k + 1, by omega, by go_num, F6⟩
          case measure => simp [intOf]; omega
        · obtain rfl : k = D := by omega
          have T0 := Lib.hid hT.out
          clear hT
          have cA := T0.out.2.2.1.cells
          obtain ⟨d0, d1, d2⟩ := cA
          have fA := T0.out.2.2.1.freeA
          have TU := Lib.hid (T0.out.2.2.1.setU u' hu')
          have F6 := Lib.hid (HF2.out _ _ _ _ _ T0.out.2.1 T0.out.2.2.1 T0.out.1 (Kf.set A 2 (.int .i64 u') (.inl rfl) wr))
          go_wp2_with fail
          go_ret
          exact ⟨rfl, F6.out, by simp [World.setCell]; exact T0.out.2.1, by first | exact TU.out | (rw [if_pos HE.out, if_pos HE.out]; exact TU.out)⟩
    · have he2 : (p.e != 0) = true := by simpa using he
      clear hpa
      go_wp2_with fail
      go_ret
      exact ⟨rfl, HFF.out m _ _ S2.out P2.out, S2.out, by first | exact T2.out | (rw [if_neg he, if_neg he]; exact T2.out)⟩
theorem code_st {W : World} {B A L w rh D : Nat} {nd : Nat → Nat} {u : Int} {Q : Nat → Nat → Nat → Nd} (u' t x y : Int) (fv : Value) (h0 : u ≠ 0) (h1 : u ≠ u') (H : Tr W B A L nd w rh D u Q) :
    Calls Try.prog 64 #[.pointer (some ⟨A, 0, none⟩), .int .i64 u', .int .i64 x, .int .i64 y, .int .i64 t, fv] W fun e w' => e = .returned (.int .i64 6) ∧ Below W.heap.size W w' := by
  obtain ⟨c0, ⟨mc, c1⟩, c2⟩ := H.cells
  have g1 : (u != 0) = true := by simpa using h0
  have g2 : (u != u') = true := by simpa using h1
  clear H h0 h1
  go_enter Try.func64, Try.ntmps64
  go_wp2_with fail
  go_ret
  exact ⟨rfl, Below.refl _ _⟩
theorem code_rg {W : World} {B A L w rh D : Nat} {nd : Nat → Nat} {u : Int} {Q : Nat → Nat → Nat → Nd} (u' t x y : Int) (fv : Value) (hu : u = 0 ∨ u = u') (hok : ¬ okT w rh x y t 65536) (H : Tr W B A L nd w rh D u Q) :
    Calls Try.prog 64 #[.pointer (some ⟨A, 0, none⟩), .int .i64 u', .int .i64 x, .int .i64 y, .int .i64 t, fv] W fun e w' => e = .returned (.int .i64 2) ∧ Below W.heap.size W w' := by
  have hc := has_c H x y
  obtain ⟨c0, ⟨mc, c1⟩, c2⟩ := H.cells
  have hug : u = 0 ∨ ((u != 0) = true ∧ (u != u') = false) := by
    rcases hu with h | h
    · exact .inl h
    · by_cases h' : u = 0
      · exact .inl h'
      · exact .inr ⟨by simpa using h', by simp [h]⟩
  have hcs : decide (inT w rh x y) = false ∨ (decide (inT w rh x y) = true ∧ t < 0) ∨ (decide (inT w rh x y) = true ∧ 0 ≤ t ∧ 65536 < t) := by
    by_cases hin : inT w rh x y
    · rw [decide_eq_true hin]
      by_cases p : t < 0
      · exact .inr (.inl ⟨rfl, p⟩)
      · by_cases q : 65536 < t
        · exact .inr (.inr ⟨rfl, by omega, q⟩)
        · exact absurd ⟨hin, by omega, by omega⟩ hok
    · exact .inl (decide_eq_false hin)
  clear H hok hu
  rcases hcs with h1 | ⟨h1, h2⟩ | ⟨h1, h2, h3⟩ <;> rw [h1] at hc <;> clear h1 <;> rcases hug with rfl | ⟨g1, g2⟩ <;>
   (go_enter Try.func64, Try.ntmps64
    go_wp2_with fail
    refine hc.mono ?_
    rintro e w1 ⟨rfl, hb⟩
    have HB := Lib.hid hb
    clear hb hc c0 c1 c2
    go_wp2_with fail
    go_ret
    exact ⟨rfl, HB.out⟩)
end Go.Proofs.Ytaddendclipkkaa
