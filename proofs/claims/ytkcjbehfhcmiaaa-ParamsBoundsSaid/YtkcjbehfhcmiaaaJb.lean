/-
  Layer 23: what valid headers and parameters have (mathematics): their tiles, their components' areas, their planes.
-/
import Derived.Test.YtkcjbehfhcmiaaaJp
import Derived.Test.YtkcjbehfhcmiaaaTile
set_option maxRecDepth 100000
namespace Go.Proofs.Ytkcjbehfhcmiaaa
open Go.RowKit

/-- The tiles of a valid header. -/
structure TilesOK (h : Hp.Hd) (L : List Pl.R) : Prop where
  lo : 1 ≤ L.length
  hi : L.length ≤ 1024
  one : ∀ t (_ : t < L.length), Pl.emptyB L[t].x0 L[t].y0 L[t].x1 L[t].y1 = false ∧ Pl.contB h.a h.b h.c h.d L[t].x0 L[t].y0 L[t].x1 L[t].y1 = true
  sum : Pl.sumA L = Pl.areaI h.a h.b h.c h.d
theorem tiles_ok {h : Hp.Hd} (hz : Hp.headM h = 0) : TilesOK h (Pl.cellsL h.a h.b h.c h.d h.tw h.th) := by
  obtain ⟨z1, z2, _⟩ := head_zero hz
  obtain ⟨hv, he', ⟨t1, t2⟩, ⟨t3, t4⟩, _, _⟩ := hdB_facts z1
  obtain ⟨v1, v2, v3, v4, v5, v6⟩ := Pl.valid_iff.1 hv
  obtain ⟨e1, e2⟩ := Pl.empty_not.1 he'
  have g : Pl.Grid h.a h.b h.c h.d h.tw h.th := ⟨Pl.axis t1 v1 e1 v3, Pl.axis t3 v4 e2 v6, e1, e2, t1, t3⟩
  have x1 := Pl.nX_eq g.ax
  have x2 := Pl.nX_eq g.ay
  have l1 := g.ax.lt
  have l2 := g.ay.lt
  have p1 : Hp.cellsI h.a h.c h.tw = (Pl.nX h.a h.c h.tw : Int) := by
    unfold Hp.cellsI
    rw [if_neg (by omega)]
    omega
  have p2 : Hp.cellsI h.b h.d h.th = (Pl.nX h.b h.d h.th : Int) := by
    unfold Hp.cellsI
    rw [if_neg (by omega)]
    omega
  have hm : ((Pl.nX h.a h.c h.tw * Pl.nX h.b h.d h.th : Nat) : Int) ≤ 1024 := by
    unfold Hp.manyB at z2
    have := of_decide_eq_false z2
    rw [p1, p2] at this
    rw [Int.natCast_mul]
    omega
  have hmn : Pl.nX h.a h.c h.tw * Pl.nX h.b h.d h.th ≤ 1024 := by omega
  have q1 : 1 ≤ Pl.nX h.a h.c h.tw := by omega
  have q2 : 1 ≤ Pl.nX h.b h.d h.th := by omega
  have e : Pl.cellsL h.a h.b h.c h.d h.tw h.th = Pl.partsN h.a h.b h.c h.d h.tw h.th (Pl.nX h.a h.c h.tw) (Pl.nX h.b h.d h.th * Pl.nX h.a h.c h.tw) := by unfold Pl.cellsL; rw [if_pos ⟨hv, he', t1, t3, by omega⟩]
  have hlen : (Pl.partsN h.a h.b h.c h.d h.tw h.th (Pl.nX h.a h.c h.tw) (Pl.nX h.b h.d h.th * Pl.nX h.a h.c h.tw)).length = Pl.nX h.b h.d h.th * Pl.nX h.a h.c h.tw := Pl.partsN_length ..
  have hget : ∀ t (ht : t < (Pl.partsN h.a h.b h.c h.d h.tw h.th (Pl.nX h.a h.c h.tw) (Pl.nX h.b h.d h.th * Pl.nX h.a h.c h.tw)).length), (Pl.partsN h.a h.b h.c h.d h.tw h.th (Pl.nX h.a h.c h.tw) (Pl.nX h.b h.d h.th * Pl.nX h.a h.c h.tw))[t] = Pl.partN h.a h.b h.c h.d h.tw h.th (Pl.nX h.a h.c h.tw) t := fun t ht => by simp [Pl.partsN]
  rw [e]
  refine ⟨by rw [hlen]; exact Nat.mul_le_mul q2 q1, by rw [hlen, Nat.mul_comm]; exact hmn, fun t ht => ?_, g.sum hv⟩
  have := g.one (by rw [← hlen]; exact ht) (hget t ht)
  rw [Pl.empty_not, Pl.cont_iff]
  omega
/-- A component's samples in a valid header. -/
theorem comp_ok {h : Hp.Hd} (hz : Hp.headM h = 0) {c : Hp.Cm} (hc : c ∈ h.cs) : 1 ≤ Hp.arR (Hp.smp (Hp.hR h) c) ∧ Hp.arR (Hp.smp (Hp.hR h) c) ≤ 1048576 := by
  obtain ⟨z1, _, z3⟩ := head_zero hz
  obtain ⟨hv, _, _, _, _, _⟩ := hdB_facts z1
  have hcm := z3 c hc
  unfold Hp.cmB at hcm
  simp only [Bool.and_eq_true, Hp.in_iff, Bool.not_eq_true'] at hcm
  obtain ⟨_, ⟨⟨dx1, dx2⟩, dy1, dy2⟩, hem⟩ := hcm
  have hx : Pl.divB c.dx = true := Pl.div_iff.2 (by omega)
  have hy : Pl.divB c.dy = true := Pl.div_iff.2 (by omega)
  have er : Hp.smp (Hp.hR h) c = ⟨Pl.cd h.a c.dx, Pl.cd h.b c.dy, Pl.cd h.c c.dx, Pl.cd h.d c.dy⟩ := Pl.redR_pos hv hx hy
  have rv := Pl.red_valid hv hx hy
  have hw : Hp.wideB (Hp.hR h) c = false := by
    have hz' := hz
    unfold Hp.headM at hz'
    by_cases h1 : Hp.sndB h = false
    · rw [if_pos h1] at hz'; exact absurd hz' (by decide)
    · rw [if_neg h1] at hz'
      by_cases h2 : Hp.bigB h = true
      · rw [if_pos h2] at hz'; exact absurd hz' (by decide)
      · have b : Hp.bigB h = false := by simpa using h2
        unfold Hp.bigB at b
        have := (Bool.or_eq_false_iff.1 b).2
        rw [List.any_eq_false] at this
        simpa using this c hc
  unfold Hp.wideB at hw
  have hw' := of_decide_eq_false hw
  refine ⟨?_, by omega⟩
  rw [er] at hem ⊢
  obtain ⟨k1, k2⟩ := Pl.empty_not.1 hem
  dsimp only at k1 k2
  show 1 ≤ Pl.areaI _ _ _ _
  rw [Pl.areaI, if_pos rv]
  have := Int.mul_le_mul_of_nonneg_right (show 1 ≤ Pl.cd h.c c.dx - Pl.cd h.a c.dx by omega) (show 0 ≤ Pl.cd h.d c.dy - Pl.cd h.b c.dy by omega)
  rw [Int.one_mul] at this
  exact Int.le_trans (by omega) this
/-- The planes of a subband for valid parameters. -/
theorem plane_ok {h : Hp.Hd} {p : Hp.Ps} (hz : Hp.chkM h p = 0) {k : Nat} (hk : k < p.steps.length) : 1 ≤ planeM p k ∧ planeM p k ≤ 60 := by
  have hn : Hp.numB p = true := by
    cases q : Hp.numB p with
    | true => rfl
    | false =>
      unfold Hp.chkM at hz
      rw [q] at hz
      by_cases h0 : Hp.headM h ≠ 0
      · rw [if_pos h0] at hz; exact absurd hz h0
      · rw [if_neg h0] at hz
        by_cases h1 : Hp.knB p = false
        · rw [if_pos h1] at hz; exact absurd hz (by decide)
        · rw [if_neg h1, if_pos (by rfl)] at hz; exact absurd hz (by decide)
  unfold Hp.numB at hn
  simp only [Bool.and_eq_true, Hp.in_iff] at hn
  obtain ⟨_, _, _, _, hst, ⟨d1, d2⟩, s1, s2⟩ := hn
  have hs := Hp.in_iff.1 ((List.all_eq_true.1 hst) p.steps[k] (List.getElem_mem hk))
  unfold planeM
  rw [if_neg (by rw [Hp.in_iff.2 (by omega)]; decide)]
  have he : p.steps.getD ((k : Int)).toNat 0 = p.steps[k] := by rw [List.getD_eq_getElem?_getD]; simp [hk]
  rw [he]
  generalize p.steps[k] = S at *
  have hv : Qu.vB S p.dead = true := Qu.v_iff.2 (by omega)
  rw [if_neg (by rw [hv]; decide), if_neg (by rw [Hp.in_iff.2 (by omega)]; decide)]
  have hb := Qu.sd_bd hv
  have ht : 1 ≤ Qu.thr S p.dead ∧ Qu.thr S p.dead ≤ 131072 := by
    unfold Qu.thr
    rw [if_pos hv]
    omega
  have hq : 1 ≤ Qu.qI 268435455 S p.dead ∧ Qu.qI 268435455 S p.dead ≤ 268435456 := by
    unfold Qu.qI
    rw [if_pos hv]
    have ea : min (Qu.absI 268435455) 281474976710656 = 268435455 := by decide
    rw [ea]
    unfold Qu.sgn
    rw [if_neg (by decide)]
    unfold Qu.qn
    rw [if_neg (by omega)]
    have g1 : 0 ≤ (268435455 - Qu.thr S p.dead) / S := Int.ediv_nonneg (by omega) (by omega)
    have g2 : (268435455 - Qu.thr S p.dead) / S ≤ 268435455 - Qu.thr S p.dead := Int.ediv_le_self _ (by omega)
    omega
  have hp : 1 ≤ plN 268435455 S p.dead ∧ plN 268435455 S p.dead ≤ 29 := by
    unfold plN
    rw [if_neg (by decide)]
    have u := bit_le (x := (Qu.qI 268435455 S p.dead).toNat) 29 (by omega)
    have l := bit_lt (x := (Qu.qI 268435455 S p.dead).toNat) (by omega)
    have l' : Lib.bitLen (Qu.qI 268435455 S p.dead).toNat ≠ 0 := by
      intro e0
      rw [e0] at l
      omega
    omega
  omega
end Go.Proofs.Ytkcjbehfhcmiaaa
