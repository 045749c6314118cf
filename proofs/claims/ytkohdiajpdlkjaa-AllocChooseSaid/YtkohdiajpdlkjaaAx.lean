/-
  Layer 21: contracts of last and within.
-/
import Derived.Test.YtkohdiajpdlkjaaAw
set_option maxRecDepth 100000
namespace Go.Proofs.Ytkohdiajpdlkjaa
open Go.RowKit

def cI (l : List Int) : Array Value := (l.map (Value.int .i64)).toArray
theorem cI_get {l : List Int} {k : Nat} (h : k < l.length) : (cI l)[k]? = some (.int .i64 (l.getD k 0)) := by
  simp [cI, h, List.getD_eq_getElem?_getD]
theorem cI_set (l : List Int) (k : Nat) (x : Int) : (cI l).setIfInBounds k (.int .i64 x) = cI (l.set k x) := by
  simp [cI, List.map_set]
theorem madeI (n : Nat) : madeCells (Value.int .i64 0).cells (n * 1) = cI (List.replicate n 0) := by
  rw [Nat.mul_one]
  refine Array.ext (by simp [madeCells, cI]) fun i h1 h2 => ?_
  simp [madeCells, cI, Value.cells, Nat.mod_one]
/-- A new list of ints is handed back. -/
def GivesL (l : List Int) (W : World) (e : Ending) (w' : World) : Prop := ∃ g, e = .returned (.slice (some ⟨g, 0, none⟩) l.length l.length) ∧ Blk w' g 3 (cI l) ∧ W.heap.size ≤ g ∧ Below W.heap.size W w'
theorem blk_holds {w : World} {g : Nat} {l : List Int} (h : Blk w g 3 (cI l)) : HoldsI w (some ⟨g, 0, none⟩) l := by
  refine .inr ⟨g, 0, rfl, fun j hj => ?_⟩
  rw [Nat.zero_add, h.cell j, cI_get hj, List.getD_eq_getElem?_getD, List.getElem?_eq_getElem hj]
  rfl
def lastIn (cs : List Cv) (k : Nat) : List Int := (List.range cs.length).map fun j => if j < k then ((cs.getD j ([], [])).1.length : Int) - 1 else 0
/-- The last point of every curve. -/
def lastL (cs : List Cv) : List Int := cs.map fun C => (C.1.length : Int) - 1
theorem lastIn_len (cs : List Cv) (k : Nat) : (lastIn cs k).length = cs.length := by simp [lastIn]
theorem lastIn_zero (cs : List Cv) : lastIn cs 0 = List.replicate cs.length 0 := by
  refine List.ext_getElem (by simp [lastIn]) fun j h1 h2 => ?_
  simp [lastIn]
theorem lastIn_all (cs : List Cv) : lastIn cs cs.length = lastL cs := by
  refine List.ext_getElem (by simp [lastIn, lastL]) fun j h1 h2 => ?_
  have hj : j < cs.length := by simpa [lastIn] using h1
  simp [lastIn, lastL, hj, List.getD_eq_getElem?_getD]
theorem lastIn_step (cs : List Cv) (k : Nat) : (lastIn cs k).set k (((cs.getD k ([], [])).1.length : Int) - 1) = lastIn cs (k + 1) := by
  refine List.ext_getElem (by simp [lastIn]) fun j h1 h2 => ?_
  rw [List.getElem_set]
  have hj : j < cs.length := by simpa [lastIn] using h2
  by_cases e : k = j
  · subst e
    rw [if_pos rfl]
    simp [lastIn]
  · rw [if_neg e]
    simp only [lastIn, List.getElem_map, List.getElem_range]
    by_cases h3 : j < k
    · rw [if_pos h3, if_pos (by omega)]
    · rw [if_neg h3, if_neg (by omega)]
set_option maxHeartbeats 1000000 in
theorem last_c (a : Option Addr) (m n : Nat) (cs : List Cv) (W : World) (hC : HoldsCv W a cs) (hn : n = cs.length) (hok : okC cs) :
    Calls Try.prog 22 #[.slice a n m] W (GivesL (lastL cs) W) := by
  obtain ⟨i0, hi, hz0, hz1, hz2⟩ := info_i
  have hn2 : n ≤ 65536 := by have := hok.1; omega
  have hmk := run_make (P := Try.prog) (w := W) (25) 3 i0 (.int .i64 0) Try.underlying25 hi hz0 .i64 .i64 (n : Int) (n : Int) (by omega) (by omega) (by rw [hz2]; omega) (by omega)
  rw [hz1, Int.toNat_natCast, madeI] at hmk
  have HC := Lib.hid hC
  have HN := Lib.hid hn
  have HOK := Lib.hid hok
  have HN2 := Lib.hid hn2
  clear hC hn hok hn2 hi hz0 hz1 hz2
  go_enter Try.func22, Try.ntmps22
  go_wp2_with fail
  clear hmk
  go_loopw [11] (fun i wr => ∃ k : Nat, k ≤ n ∧ i = .int .i64 (k : Int) ∧ Hid (Blk wr W.heap.size 3 (cI (lastIn cs k))) ∧ Hid (Below W.heap.size W wr)) (fun i _ => n - (intOf i).toNat)
  case atStart => exact ⟨0, Nat.zero_le _, rfl, by rw [lastIn_zero, ← HN.out]; exact Lib.hid (Blk.new _ _ _), below_alloc (Below.refl _ _) _⟩
  case round =>
    obtain ⟨k, hk, rfl, hL, hB⟩ := hrel
    obtain ⟨w0, rfl⟩ : ∃ w0 : World, w0 = wr := ⟨_, rfl⟩
    have hn9 := HN2.out
    by_cases hlt : k < n
    · have hkc : k < cs.length := by have := HN.out; omega
      obtain ⟨b, off, sr, sd, mr, md, rfl, c0, c1, -, -⟩ := HC.out.at hkc
      have hblt := cell_lt' c0
      replace c0 := (hB.out.cell (p := ⟨b, off + k * 2, none⟩) hblt).trans c0
      replace c1 := (hB.out.cell (p := ⟨b, off + k * 2 + 1, none⟩) hblt).trans c1
      have hv := HOK.out.2 k hkc
      obtain ⟨R, D, hRD⟩ : ∃ R D, cs.getD k ([], []) = (R, D) := ⟨_, _, rfl⟩
      rw [hRD] at c0 c1 hv
      dsimp only at c0 c1 hv
      have h1 := hv.1
      have h2 := hv.2.1
      have h3 := hv.2.2.1
      obtain ⟨r, hr⟩ : ∃ r, r = R.length := ⟨_, rfl⟩
      obtain ⟨d, hd⟩ : ∃ d, d = D.length := ⟨_, rfl⟩
      rw [← hr] at c0
      rw [← hd] at c1
      have hw : IntKind.i64.wrap ((r : Int) - 1) = (r : Int) - 1 := by rw [IntWalk.i64_left]; unfold wrap64; omega
      have hA := hL.out.alloc (.cells #[.slice sr r mr, .slice sd d md] 37)
      have d0 := hA.cell k
      rw [cI_get (by rw [lastIn_len]; exact hkc)] at d0
      have d1 := hA.free k
      have HA := Lib.hid (show Blk ((w0.alloc (.cells #[.slice sr r mr, .slice sd d md] 37)).setCell ⟨W.heap.size, k, none⟩ (.int .i64 ((r : Int) - 1))) W.heap.size 3 (cI (lastIn cs (k + 1))) by
        have h := hA.set k (.int .i64 ((r : Int) - 1))
        rw [cI_set] at h
        rw [← lastIn_step, hRD]
        rw [hr]
        rw [hr] at h
        exact h)
      have HB := Lib.hid (show Below W.heap.size W ((w0.alloc (.cells #[.slice sr r mr, .slice sd d md] 37)).setCell ⟨W.heap.size, k, none⟩ (.int .i64 ((r : Int) - 1))) from (below_alloc hB.out _).setCell (Nat.le_refl _) _)
      have z0 : (0 : Int) ≤ (k : Int) := by omega
      have z1 : (k : Int) < (n : Int) := by omega
      clear hA hRD hr hd h1 h2 h3 hv hblt hkc
      generalize (lastIn cs k).getD k 0 = old at d0
      go_wp2_with fail
      go_roundw
      case rel => exact ⟨k + 1, by omega, by go_num, HA, HB⟩
      case measure => simp [intOf]; omega
    · obtain rfl : k = n := by omega
      go_wp2_with fail
      go_ret
      refine ⟨W.heap.size, ?_, ?_, Nat.le_refl _, hB.out⟩
      · have e : (lastL cs).length = k := by rw [HN.out]; simp [lastL]
        rw [e]; rfl
      · rw [← lastIn_all, ← HN.out]; exact hL.out
/-- The steps' bounds. -/
def okL (n : Nat) (S : List Stp) : Prop := S.length ≤ 100000000 ∧ ∀ s ∈ S, s.c < n ∧ okR s.r
theorem wth_at {b : Int} {S : List Stp} {k : Nat} (hk : k < S.length) (rate : Int) (ch : List Int) : wth b rate (S.drop k) ch = if b < rate + (S.getD k default).r then ch else wth b (rate + (S.getD k default).r) (S.drop (k + 1)) (ch.set (S.getD k default).c ((S.getD k default).p : Int)) := by
  rw [List.drop_eq_getElem_cons hk, List.getD_eq_getElem?_getD, List.getElem?_eq_getElem hk]
  rfl
set_option maxHeartbeats 1000000 in
theorem within_c (bud : Int) (a : Option Addr) (m n q : Nat) (S : List Stp) (W : World) (hS : HoldsE encA W a S) (hn : n ≤ 65536) (hq : q = S.length) (hok : okL n S) :
    Calls Try.prog 23 #[.int .i64 bud, .slice a q m, .int .i64 (n : Int)] W (GivesL (wth bud 0 S (List.replicate n 0)) W) := by
  obtain ⟨i0, hi, hz0, hz1, hz2⟩ := info_i
  have hmk := run_make (P := Try.prog) (w := W) (25) 3 i0 (.int .i64 0) Try.underlying25 hi hz0 .i64 .i64 (n : Int) (n : Int) (by omega) (by omega) (by rw [hz2]; omega) (by omega)
  rw [hz1, Int.toNat_natCast, madeI] at hmk
  have HS := Lib.hid hS
  have HQ := Lib.hid hq
  have HOK := Lib.hid hok
  have HN2 := Lib.hid hn
  clear hS hn hok hq hi hz0 hz1 hz2
  go_enter Try.func23, Try.ntmps23
  go_wp2_with fail
  clear hmk
  go_loopw [8, 15] (fun rt i wr => ∃ k : Nat, ∃ rate : Int, ∃ ch : List Int, k ≤ q ∧ rt = .int .i64 rate ∧ i = .int .i64 (k : Int) ∧ Hid (ch.length = n ∧ 0 ≤ rate ∧ rate ≤ k * 65535 ∧ wth bud rate (S.drop k) ch = wth bud 0 S (List.replicate n 0)) ∧ Hid (Blk wr W.heap.size 3 (cI ch)) ∧ Hid (Below W.heap.size W wr)) (fun _ i _ => q - (intOf i).toNat)
  case atStart => exact ⟨0, 0, List.replicate n 0, Nat.zero_le _, rfl, rfl, Lib.hid ⟨by simp, by omega, by simp, by rw [List.drop_zero]⟩, Lib.hid (Blk.new _ _ _), below_alloc (Below.refl _ _) _⟩
  case round =>
    obtain ⟨k, rate, ch, hk, rfl, rfl, hI, hL, hB⟩ := hrel
    obtain ⟨w0, rfl⟩ : ∃ w0 : World, w0 = wr := ⟨_, rfl⟩
    have hn9 := HN2.out
    have hq9 : q ≤ 100000000 := by have h1 := HQ.out; have h2 := HOK.out.1; omega
    by_cases hlt : k < q
    · have hkc : k < S.length := by have := HQ.out; omega
      obtain ⟨b, off, rfl⟩ := HS.out.some (by omega)
      obtain ⟨c0, c1, c2, c3⟩ := HS.out.atA hkc
      have hblt := cell_lt' c0
      replace c0 := (hB.out.cell (p := ⟨b, off + k * 4, none⟩) hblt).trans c0
      replace c1 := (hB.out.cell (p := ⟨b, off + k * 4 + 1, none⟩) hblt).trans c1
      replace c2 := (hB.out.cell (p := ⟨b, off + k * 4 + 2, none⟩) hblt).trans c2
      replace c3 := (hB.out.cell (p := ⟨b, off + k * 4 + 3, none⟩) hblt).trans c3
      have hW := wth_at (b := bud) hkc rate ch
      have hs := HOK.out.2 _ (getD_mem hkc)
      obtain ⟨sc, sp, sd, sr, hst⟩ : ∃ sc sp sd sr, S.getD k default = ⟨sc, sp, sd, sr⟩ := ⟨_, _, _, _, rfl⟩
      rw [hst] at c0 c1 c2 c3 hW hs
      dsimp only at c0 c1 c2 c3 hW hs
      have HW := Lib.hid hW
      obtain ⟨i1, i2, i3, i4⟩ := hI.out
      obtain ⟨s1, s2, s3⟩ := hs
      have hw : IntKind.i64.wrap (rate + sr) = rate + sr := by rw [IntWalk.i64_left]; unfold wrap64; omega
      have j0 : 0 ≤ rate + sr := by omega
      have j1 : rate + sr ≤ ((k + 1 : Nat) : Int) * 65535 := by rw [Int.natCast_add, Int.add_mul]; omega
      have J := Lib.hid (show 0 ≤ rate + sr ∧ rate + sr ≤ ((k + 1 : Nat) : Int) * 65535 from ⟨j0, j1⟩)
      have hA := hL.out.alloc (.cells #[.int .i64 (sc : Int), .int .i64 (sp : Int), .int .i64 sd, .int .i64 sr] 55)
      have d0 := hA.cell sc
      rw [cI_get (by omega)] at d0
      have d1 := hA.free sc
      have HA := Lib.hid (show Blk ((w0.alloc (.cells #[.int .i64 (sc : Int), .int .i64 (sp : Int), .int .i64 sd, .int .i64 sr] 55)).setCell ⟨W.heap.size, sc, none⟩ (.int .i64 (sp : Int))) W.heap.size 3 (cI (ch.set sc (sp : Int))) by
        have h := hA.set sc (.int .i64 (sp : Int))
        rw [cI_set] at h
        exact h)
      have HX := Lib.hid hA
      have HB0 := Lib.hid (below_alloc hB.out (.cells #[.int .i64 (sc : Int), .int .i64 (sp : Int), .int .i64 sd, .int .i64 sr] 55))
      have HB := Lib.hid (show Below W.heap.size W ((w0.alloc (.cells #[.int .i64 (sc : Int), .int .i64 (sp : Int), .int .i64 sd, .int .i64 sr] 55)).setCell ⟨W.heap.size, sc, none⟩ (.int .i64 (sp : Int))) from (below_alloc hB.out _).setCell (Nat.le_refl _) _)
      have z0 : (0 : Int) ≤ (sc : Int) := by omega
      have z1 : (sc : Int) < (n : Int) := by omega
      have I1 := Lib.hid i1
      clear hA hst hW hblt hkc s1 s2 s3 j0 j1 i1 i2 i3 i4
      generalize ch.getD sc 0 = old at d0
      by_cases hgt : bud < rate + sr
      · have hch : ch = wth bud 0 S (List.replicate n 0) := by rw [← hI.out.2.2.2, HW.out, if_pos hgt]
        have HCH := Lib.hid hch
        clear hch
        go_wp2_with fail
        go_ret
        refine ⟨W.heap.size, ?_, ?_, Nat.le_refl _, HB0.out⟩
        · rw [← HCH.out, I1.out]; rfl
        · rw [← HCH.out]; exact HX.out
      · have hch : wth bud (rate + sr) (S.drop (k + 1)) (ch.set sc (sp : Int)) = wth bud 0 S (List.replicate n 0) := by rw [← hI.out.2.2.2, HW.out, if_neg hgt]
        have HCH := Lib.hid hch
        clear hch
        go_wp2_with fail
        go_roundw
        case rel => exact ⟨k + 1, rate + sr, _, by omega, rfl, by go_num, Lib.hid ⟨by rw [List.length_set]; exact I1.out, J.out.1, J.out.2, HCH.out⟩, HA, HB⟩
        case measure => simp [intOf]; omega
    · obtain rfl : k = q := by omega
      have hd : S.drop k = [] := List.drop_eq_nil_of_le (by have := HQ.out; omega)
      have hch : ch = wth bud 0 S (List.replicate n 0) := by rw [← hI.out.2.2.2, hd]; rfl
      have hlen := hI.out.1
      have HCH := Lib.hid hch
      have I1 := Lib.hid hlen
      clear hch hlen hd
      go_wp2_with fail
      go_ret
      refine ⟨W.heap.size, ?_, ?_, Nat.le_refl _, hB.out⟩
      · rw [← HCH.out, I1.out]; rfl
      · rw [← HCH.out]; exact hL.out
end Go.Proofs.Ytkohdiajpdlkjaa
