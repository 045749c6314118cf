/-
  What DwtBounds asks for: within of the laws; the bounds of the subbands.
-/
import Derived.Test.YtnfnidgabgdphaaLawB5
import Derived.Test.YtnfnidgabgdphaaLiftC
set_option maxRecDepth 100000
namespace Go.Proofs.Ytnfnidgabgdphaa
open Go.RowKit

set_option maxHeartbeats 4000000 in
theorem wth5_c (a b c d : Int) (s : Option Addr) (n m : Nat) (l : List Int) (B : Int) (w : World) (hn : n = l.length) (hl : n ≤ 140737488351232) (hB0 : 0 ≤ B) (hB1 : B ≤ 4611686018427387904) (hw : Ex.within B l) (hH : HoldsI w s l) : Calls Try.prog 34 #[.agg #[.int .i64 a, .int .i64 b, .int .i64 c, .int .i64 d, .slice s n m], .int .i64 B] w fun e w' => e = .returned (.bool true) ∧ Below w.heap.size w w' := by
  have wB : IntKind.i64.wrap (-B) = -B := IntWalk.i64_in _ (by omega)
  have x0 := QBox.fresh w a b c d s n m 30
  have B0 := below_alloc (Below.refl _ w) (.cells #[.int .i64 a, .int .i64 b, .int .i64 c, .int .i64 d, .slice s n m] 30)
  have H0 := hH.alloc (.cells #[.int .i64 a, .int .i64 b, .int .i64 c, .int .i64 d, .slice s n m] 30)
  have HN : Hid _ := hn
  clear hn
  go_enter Try.func34, Try.ntmps34
  obtain ⟨y0, y1, y2, y3, y4⟩ := x0.open
  go_upto_region 2 with fail
  clear y0 y1 y2 y3 y4 x0
  go_loopw [10] (fun i wr => ∃ j : Nat, j ≤ n ∧ i = .int .i64 j ∧ HoldsI wr s l ∧ Below w.heap.size w wr) (fun i _ => n - (intOf i).toNat)
  case atStart => exact ⟨0, Nat.zero_le _, rfl, H0, B0⟩
  case round =>
    obtain ⟨j, hj, rfl, h1, hB⟩ := hrel
    clear H0 B0 hH
    by_cases hlt : j < n
    · have hjl : j < l.length := by rw [← HN.out]; exact hlt
      have h2 := h1
      rcases h2 with rfl | ⟨bb, off, rfl, hr⟩
      · simp at hjl
      have e0 := hr j hjl
      have hi : (j : Int) < (n : Int) := by omega
      obtain ⟨q1, q2⟩ := hw _ (List.getElem_mem hjl)
      have HH : Hid _ := h1
      have HB : Hid _ := hB
      clear hr h1 hB hw
      generalize l[j] = V at *
      have w2 : IntKind.i64.wrap ((j : Int) + 1) = (j : Int) + 1 := IntWalk.i64_in _ (by omega)
      have g1 : ¬ B < V := by omega
      have g2 : ¬ V < -B := by omega
      go_wp2
      go_roundw
      case rel => exact ⟨j + 1, by omega, by go_num, HH.out, HB.out⟩
      case measure => simp [intOf]; omega
    · obtain rfl : j = n := by omega
      clear hw h1
      go_wp2
      go_ret
      exact ⟨rfl, hB⟩

theorem lohi_bd {b s kn : Int} {x : List Int} (hk : kB kn = true) (hb : 0 ≤ b) (hw : Ex.within b x) : Ex.within (Ex.lbI b kn) (Ex.loF s kn x) ∧ Ex.within (Ex.hbI b kn) (Ex.hiF s kn x) := by
  have hkk := k_iff.1 hk
  refine ⟨fun v hv => ?_, fun v hv => ?_⟩
  · obtain ⟨j, hj, hp, rfl⟩ := Ex.splitE_mem hv
    have hj' := hj
    rw [Ex.fwd_len] at hj'
    have := (Ex.fwd_bd (s := s) hkk hb hw (i := s + (j : Int)) (by omega) (by omega)).1 hp
    rw [Ex.sg_at hj] at this
    omega
  · obtain ⟨j, hj, hp, rfl⟩ := Ex.splitO_mem hv
    have hj' := hj
    rw [Ex.fwd_len] at hj'
    have := (Ex.fwd_bd (s := s) hkk hb hw (i := s + (j : Int)) (by omega) (by omega)).2 hp
    rw [Ex.sg_at hj] at this
    omega
theorem rows_bd {b s kn : Int} {P : List (List Int)} (hk : kB kn = true) (hb : 0 ≤ b) (hw : Ex.within b P.flatten) : Ex.within (Ex.lbI b kn) (Ex.lowR s kn P).flatten ∧ Ex.within (Ex.hbI b kn) (Ex.highR s kn P).flatten := by
  have hr : ∀ r ∈ P, Ex.within b r := fun r hr v hv => hw v (List.mem_flatten.2 ⟨r, hr, hv⟩)
  refine ⟨fun v hv => ?_, fun v hv => ?_⟩
  · obtain ⟨q, hq, hv⟩ := List.mem_flatten.1 hv
    obtain ⟨r, hr', rfl⟩ := List.mem_map.1 hq
    exact (lohi_bd (s := s) hk hb (hr r hr')).1 v hv
  · obtain ⟨q, hq, hv⟩ := List.mem_flatten.1 hv
    obtain ⟨r, hr', rfl⟩ := List.mem_map.1 hq
    exact (lohi_bd (s := s) hk hb (hr r hr')).2 v hv
theorem bd_pos {kn b : Int} (hb : 0 ≤ b) : 0 ≤ Ex.lbI b kn ∧ 0 ≤ Ex.hbI b kn := by
  unfold Ex.lbI Ex.hbI
  constructor <;> repeat' split
  all_goals omega
/-- The bound of a subband. -/
def bdO (bd kn : Int) (o : Nat) : Int := let x := if orH o then Ex.hbI bd kn else Ex.lbI bd kn; if orV o then Ex.hbI x kn else Ex.lbI x kn
theorem band_bd {a b kn bd : Int} {n : Nat} {P : List (List Int)} (hk : kB kn = true) (hb : 0 ≤ bd) (hw : Ex.within bd P.flatten) (o : Nat) (ho : o < 4) : Ex.within (bdO bd kn o) (bandQ a b kn n P o).flatten := by
  obtain ⟨h1, h2⟩ := rows_bd (s := a) hk hb hw
  obtain ⟨p1, p2⟩ := bd_pos (kn := kn) hb
  obtain ⟨p3, p4⟩ := bd_pos (kn := kn) p1
  obtain ⟨p5, p6⟩ := bd_pos (kn := kn) p2
  rcases lt4 ho with rfl | rfl | rfl | rfl
  · exact trn_within p3 (rows_bd (s := b) hk p1 (trn_within (n := _) p1 h1)).1
  · exact trn_within p5 (rows_bd (s := b) hk p2 (trn_within (n := _) p2 h2)).1
  · exact trn_within p4 (rows_bd (s := b) hk p1 (trn_within (n := _) p1 h1)).2
  · exact trn_within p6 (rows_bd (s := b) hk p2 (trn_within (n := _) p2 h2)).2
end Go.Proofs.Ytnfnidgabgdphaa
