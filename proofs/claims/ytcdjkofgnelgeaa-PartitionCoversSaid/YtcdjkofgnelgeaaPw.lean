/-
  Layer 22: what the laws on covers need: a small rectangle's grid, lists of parts, how often they hold a point.
-/
import Derived.Test.YtcdjkofgnelgeaaPv
set_option maxRecDepth 100000
namespace Go.Proofs.Ytcdjkofgnelgeaa
open Go.RowKit

def lstF (f : Nat → Pl.R) (n : Nat) : List Pl.R := (List.range n).map f
theorem lstF_len (f : Nat → Pl.R) (n : Nat) : (lstF f n).length = n := by simp [lstF]
theorem lstF_succ (f : Nat → Pl.R) (n : Nat) : lstF f (n + 1) = lstF f n ++ [f n] := by simp [lstF, List.range_succ]
theorem lstF_at (f : Nat → Pl.R) (n k : Nat) (h : k < (lstF f n).length) : (lstF f n)[k] = f k := by simp [lstF]
theorem cov_facts {a b c d ea eb : Int} (hv : Pl.validB a b c d = true) (he : Pl.emptyB a b c d = false) (har : Pl.areaI a b c d ≤ 400) (h0 : 0 ≤ ea) (h1 : ea ≤ 12) (h2 : 0 ≤ eb) (h3 : eb ≤ 12) :
    Pl.gridOk a b c d ea eb 12 ∧ 1 ≤ Pl.nX a c (Pl.pw ea) ∧ 1 ≤ Pl.nX b d (Pl.pw eb) ∧ Pl.nX a c (Pl.pw ea) * Pl.nX b d (Pl.pw eb) ≤ 400 := by
  obtain ⟨v1, v2, v3, v4, v5, v6⟩ := Pl.valid_iff.1 hv
  obtain ⟨e1, e2⟩ := Pl.empty_not.1 he
  have ax := Pl.axis (Pl.pw_pos ea) v1 e1 v3
  have ay := Pl.axis (Pl.pw_pos eb) v4 e2 v6
  have fx := Pl.axis_few ax e1 (Pl.pw_pos ea)
  have fy := Pl.axis_few ay e2 (Pl.pw_pos eb)
  have g : Pl.Grid a b c d (Pl.pw ea) (Pl.pw eb) := ⟨ax, ay, e1, e2, Pl.pw_pos _, Pl.pw_pos _⟩
  have p := g.pos
  have nx := Pl.nX_eq ax
  have ny := Pl.nX_eq ay
  have ar : Pl.areaI a b c d = (c - a) * (d - b) := by rw [Pl.areaI, if_pos hv]
  rw [ar] at har
  have hm : (Pl.nX a c (Pl.pw ea) : Int) * (Pl.nX b d (Pl.pw eb) : Int) ≤ (c - a) * (d - b) := Int.mul_le_mul (by omega) (by omega) (by omega) (by omega)
  rw [← Int.natCast_mul] at hm
  have hn : Pl.nX a c (Pl.pw ea) * Pl.nX b d (Pl.pw eb) ≤ 400 := by omega
  exact ⟨⟨hv, he, h0, h1, h2, h3, by omega⟩, p.1, p.2.1, hn⟩
theorem fits400 {nx ny : Nat} (h1 : 1 ≤ nx) (h2 : 1 ≤ ny) (h : nx * ny ≤ 400) : nx ≤ 400 ∧ ny ≤ 400 ∧ IntKind.i64.wrap ((nx : Int) * (ny : Int)) = ((nx * ny : Nat) : Int) := by
  have a1 : nx * 1 ≤ nx * ny := Nat.mul_le_mul_left nx h2
  have a2 : 1 * ny ≤ nx * ny := Nat.mul_le_mul_right ny h1
  refine ⟨by omega, by omega, ?_⟩
  rw [← Int.natCast_mul, IntWalk.i64_left]
  unfold wrap64
  omega
theorem cov_exact {r : Pl.R} {X0 Y0 w h : Int} {nx ny : Nat} {f : Nat → Pl.R} (hf : ∀ k, k < nx * ny → f k = Pl.cellN r X0 Y0 w h nx k) (hw : 1 ≤ w) (hh : 1 ≤ h)
    (hb : ∀ x y, Pl.hasR x y r = true → (X0 ≤ x / w ∧ x / w < X0 + (nx : Int)) ∧ (Y0 ≤ y / h ∧ y / h < Y0 + (ny : Int))) :
    (∀ x y, Pl.hasB r.x0 r.y0 r.x1 r.y1 x y = true → (lstF f (nx * ny)).countP (Pl.hasR x y) = 1) ∧ (∀ k (hk : k < (lstF f (nx * ny)).length), (lstF f (nx * ny))[k].x0 < (lstF f (nx * ny))[k].x1 → (lstF f (nx * ny))[k].y0 < (lstF f (nx * ny))[k].y1 → r.x0 ≤ (lstF f (nx * ny))[k].x0 ∧ (lstF f (nx * ny))[k].x1 ≤ r.x1 ∧ r.y0 ≤ (lstF f (nx * ny))[k].y0 ∧ (lstF f (nx * ny))[k].y1 ≤ r.y1) := by
  have e : lstF f (nx * ny) = (List.range (nx * ny)).map (Pl.cellN r X0 Y0 w h nx) := by
    unfold lstF
    exact List.map_congr_left fun k hk => hf k (by simpa using hk)
  constructor
  · intro x y hp
    rw [e]
    obtain ⟨h1, h2⟩ := hb x y hp
    exact Pl.hold_one hw hh hp h1 h2
  · intro k hk h1 h2
    rw [lstF_len] at hk
    rw [lstF_at, hf k hk] at *
    exact Pl.cellN_in r X0 Y0 w h nx k h1 h2
/-- The precincts of a grid, as a list. -/
theorem prec_exact {a b c d ea eb : Int} (hg : Pl.gridOk a b c d ea eb 12) :
    let L := lstF (fun k => precR a b c d ea eb (k : Int)) (Pl.nX a c (Pl.pw ea) * Pl.nX b d (Pl.pw eb))
    (∀ x y, Pl.hasB a b c d x y = true → L.countP (Pl.hasR x y) = 1) ∧ (∀ k (hk : k < L.length), L[k].x0 < L[k].x1 → L[k].y0 < L[k].y1 → a ≤ L[k].x0 ∧ L[k].x1 ≤ c ∧ b ≤ L[k].y0 ∧ L[k].y1 ≤ d) := by
  have hf : ∀ k, k < Pl.nX a c (Pl.pw ea) * Pl.nX b d (Pl.pw eb) → precR a b c d ea eb (k : Int) = Pl.cellN ⟨a, b, c, d⟩ (Pl.fd a (Pl.pw ea)) (Pl.fd b (Pl.pw eb)) (Pl.pw ea) (Pl.pw eb) (Pl.nX a c (Pl.pw ea)) k := by
    intro k hk
    unfold precR
    rw [if_pos ⟨hg, by omega, by omega⟩]
    rfl
  exact cov_exact (r := ⟨a, b, c, d⟩) hf (Pl.pw_pos _) (Pl.pw_pos _) (fun x y hp => hg.grid.holds hp)
theorem prec_some {a b c d ea eb : Int} {k : Nat} (hg : Pl.gridOk a b c d ea eb 12) (hk : k < Pl.nX a c (Pl.pw ea) * Pl.nX b d (Pl.pw eb)) : (precR a b c d ea eb (k : Int)).x0 < (precR a b c d ea eb (k : Int)).x1 ∧ (precR a b c d ea eb (k : Int)).y0 < (precR a b c d ea eb (k : Int)).y1 := by
  have h : precR a b c d ea eb (k : Int) = Pl.partN a b c d (Pl.pw ea) (Pl.pw eb) (Pl.nX a c (Pl.pw ea)) k := by
    unfold precR
    rw [if_pos ⟨hg, by omega, by omega⟩]
    rfl
  have := hg.grid.one (t := k) (by rw [Nat.mul_comm]; exact hk) h
  exact ⟨this.1, this.2.1⟩
theorem blocks_list {a b c d ea eb : Int} (hg : Pl.gridOk a b c d ea eb 12) (h1 : ea ≤ 6) (h2 : eb ≤ 6) : blocksL a b c d ea eb = lstF (fun k => precR a b c d ea eb (k : Int)) (Pl.nX a c (Pl.pw ea) * Pl.nX b d (Pl.pw eb)) := by
  unfold blocksL
  rw [if_pos ((ok6 _ _ _ _ _ _).2 ⟨⟨hg.2.2.1, h1, hg.2.2.2.2.1, h2⟩, hg⟩), Nat.mul_comm]
  unfold Pl.partsN lstF
  refine List.map_congr_left fun k hk => ?_
  have hk' : k < Pl.nX a c (Pl.pw ea) * Pl.nX b d (Pl.pw eb) := by simpa using hk
  show _ = precR a b c d ea eb (k : Int)
  unfold precR
  rw [if_pos ⟨hg, by omega, by omega⟩]
  rfl
/-- The parts of a subband, as a list. -/
theorem band_exact {a b c d o ea eb : Int} {hu vu : Bool} (hg : Pl.gridOk a b c d ea eb 12) (h1 : 1 ≤ ea) (h2 : 1 ≤ eb) (o1 : 1 ≤ o) (o2 : o ≤ 3) :
    let r : Pl.R := ⟨Pl.halfI hu a, Pl.halfI vu b, Pl.halfI hu c, Pl.halfI vu d⟩
    let L := lstF (fun k => bandR a b c d r o ea eb (k : Int)) (Pl.nX a c (Pl.pw ea) * Pl.nX b d (Pl.pw eb))
    Pl.validB r.x0 r.y0 r.x1 r.y1 = true ∧ (∀ k : Nat, k < Pl.nX a c (Pl.pw ea) * Pl.nX b d (Pl.pw eb) → bOk a b c d r o ea eb (k : Int)) ∧
    (∀ x y, Pl.hasB r.x0 r.y0 r.x1 r.y1 x y = true → L.countP (Pl.hasR x y) = 1) ∧ (∀ k (hk : k < L.length), L[k].x0 < L[k].x1 → L[k].y0 < L[k].y1 → r.x0 ≤ L[k].x0 ∧ L[k].x1 ≤ r.x1 ∧ r.y0 ≤ L[k].y0 ∧ L[k].y1 ≤ r.y1) := by
  obtain ⟨v1, v2, v3, v4, v5, v6⟩ := Pl.valid_iff.1 hg.1
  have g := hg.grid
  have hh : ∀ (u : Bool) (x y : Int), 0 ≤ x → x ≤ y → y ≤ 4096 → 0 ≤ Pl.halfI u x ∧ Pl.halfI u x ≤ Pl.halfI u y ∧ Pl.halfI u y ≤ 4096 := by
    intro u x y q1 q2 q3
    unfold Pl.halfI
    cases u
    · simp only [Bool.false_eq_true, if_false]
      rw [Int.tdiv_eq_ediv_of_nonneg (by omega), Int.tdiv_eq_ediv_of_nonneg (by omega)]
      omega
    · simp only [if_true]
      rw [Int.tdiv_eq_ediv_of_nonneg (by omega), Int.tdiv_eq_ediv_of_nonneg (by omega)]
      omega
  have hx := hh hu a c v1 v2 v3
  have hy := hh vu b d v4 v5 v6
  have hv : Pl.validB (Pl.halfI hu a) (Pl.halfI vu b) (Pl.halfI hu c) (Pl.halfI vu d) = true := Pl.valid_iff.2 ⟨hx.1, hx.2.1, hx.2.2, hy.1, hy.2.1, hy.2.2⟩
  have hok : ∀ k : Nat, k < Pl.nX a c (Pl.pw ea) * Pl.nX b d (Pl.pw eb) → bOk a b c d ⟨Pl.halfI hu a, Pl.halfI vu b, Pl.halfI hu c, Pl.halfI vu d⟩ o ea eb (k : Int) := fun k hk => ⟨⟨hg, by omega, by omega⟩, hv, by omega, o2, .inr ⟨h1, h2⟩⟩
  refine ⟨hv, hok, ?_⟩
  refine cov_exact (r := ⟨Pl.halfI hu a, Pl.halfI vu b, Pl.halfI hu c, Pl.halfI vu d⟩) (X0 := Pl.fd a (Pl.pw ea)) (Y0 := Pl.fd b (Pl.pw eb)) (w := Pl.pw (ea - 1)) (h := Pl.pw (eb - 1)) (fun k hk => ?_) (Pl.pw_pos _) (Pl.pw_pos _) (fun x y hp => ?_)
  · unfold bandR
    rw [if_pos (hok k hk), show oE o ea = ea - 1 from if_neg (by omega), show oE o eb = eb - 1 from if_neg (by omega)]
    rfl
  · obtain ⟨p1, p2, p3, p4⟩ := Pl.has_iff.1 hp
    exact ⟨Pl.half_holds h1 v1 g.ax g.hac p1 p2, Pl.half_holds h2 v4 g.ay g.hbd p3 p4⟩
end Go.Proofs.Ytcdjkofgnelgeaa
