/-
  Layer 11, the reference's encoder: begin, NewEncoder, Reset, Probability, Size.
-/
import Derived.Test.YtdnfnekfcndnhaaDoorRe
set_option maxRecDepth 100000
namespace Go.Proofs.YtdnfnekfcndnhaaDoor
open Go.RowKit

theorem drewN_below (w : World) (n : Nat) : Below w.heap.size w (w.drewN n) := by
  induction n with
  | zero => exact Below.refl _ _
  | succ n ih => exact ih.drew
/-- The reference's encoder at a state. -/
def Ve (w : World) (B a : Nat) (x : Am.X) : Prop := ∃ pv lv bg, VeC w B a pv lv x.1 (Am.dig (x.2.n + 4) x.2.lo) x.2.rg bg ∧ (bg = true ↔ x.2.rg ≠ 4294967295)
def VeGives (B a : Nat) (x : Am.X) (c : Int) (w : World) (e : Ending) (w' : World) : Prop := e = .returned (.int .i64 c) ∧ Ve w' B a x ∧ Kp a w w'
theorem dig0 : Am.dig 4 0 = [0, 0, 0, 0] := by decide
theorem own_four (w : World) : (w.alloc (.cells #[.int .i64 0, .int .i64 0, .int .i64 0, .int .i64 0] 3)).ownsRow w.heap.size 3 1 (.slice (some ⟨w.heap.size, 0, none⟩) 4 4) 4 [.int .i64 0, .int .i64 0, .int .i64 0, .int .i64 0] :=
  ⟨rfl, .inr ⟨w.heap.size, 4, _, rfl, Nat.le_refl _, Array.getElem?_push_size, Nat.le_refl _, by decide, rfl, rfl⟩⟩
theorem vbegin_c (w : World) (B a : Nat) (pv lv : Value) (P L : List Int) (rg : Int) (bg : Bool) (h : VeC w B a pv lv P L rg bg) :
    Calls Tryd.prog 26 #[.pointer (some ⟨a, 0, none⟩)] w fun e w' => e = .returned (.tuple #[]) ∧ Ve w' B a (P, Am.St.init) ∧ Kp a w w' := by
  obtain ⟨c0, c1, c2, c3⟩ := h.cells
  have f := h.core.blk.free
  have lt := h.core.lt
  have H := Lib.hid h
  have hA := Lib.hid ((Below.refl w.heap.size w).alloc (Nat.le_refl _) (.cells #[.int .i64 0, .int .i64 0, .int .i64 0, .int .i64 0] 3))
  have ho := Lib.hid (own_four w)
  clear h c0
  go_enter Tryd.func26, Tryd.ntmps26
  go_wp2_with fail
  go_end0
  have N1 := H.out.newL hA.out (Q := [0, 0, 0, 0]) ho.out
  have N2 := N1.1.setRg 4294967295
  have N3 := N2.1.setBg false
  have R : Ve _ B a (P, Am.St.init) ∧ Kp a w _ := ⟨⟨pv, _, false, by show VeC _ _ _ _ _ P (Am.dig 4 0) 4294967295 _; rw [dig0]; exact N3.1, by simp [Am.St.init]⟩, (N1.2.trans N2.2).trans N3.2⟩
  rw [World.setCell_alloc_past _ _ _ _ lt, World.setCell_alloc_past _ _ _ _ (by simpa [World.setCell] using lt), World.setCell_alloc_past _ _ _ _ (by simpa [World.setCell] using lt)] at R
  exact ⟨rfl, R⟩
theorem core_newV {w : World} {B a : Nat} {pv x y : Value} {n : Nat} {xs : List Value} (hB : B ≤ a) (hb : Blk w a 58 #[pv, .slice none 0 0, x, y]) (hp : w.ownsRow B 3 1 pv n xs) (hx : x.ownBlock = none) (hy : y.ownBlock = none) : Core w B a 58 #[pv, .slice none 0 0, x, y] := by
  have key : ∀ (i : Nat) (v : Value) (k : Nat), (#[pv, .slice none 0 0, x, y] : Array Value)[i]? = some v → v.ownBlock = some k → i = 0 ∧ v = pv := by
    intro i v k hv hk
    match i, hv with
    | 0, h => simp at h; exact ⟨rfl, h.symm⟩
    | 1, h => simp at h; subst h; simp [Value.ownBlock] at hk
    | 2, h => simp at h; subst h; rw [hx] at hk; simp at hk
    | 3, h => simp at h; subst h; rw [hy] at hk; simp at hk
    | i + 4, h => simp at h
  refine ⟨hB, hb, fun i v k hv hk => ?_, fun i j v v' k hne hv hv2 hk hk' => ?_⟩
  · obtain ⟨_, rfl⟩ := key i v k hv hk
    obtain ⟨e1, ds, e2⟩ := own_foot hp hk
    exact ⟨e1, _, ds, e2, by decide⟩
  · exact hne ((key i v k hv hk).1.trans (key j v' k hv2 hk').1.symm)
theorem vnew_y (n : Nat) (w : World) (h1 : 1 ≤ n) (h2 : n ≤ 64) : Calls Tryd.prog 7 #[.int .i64 (n : Int)] w fun e w' => ∃ a, e = .returned (.tuple #[.pointer (some ⟨a, 0, none⟩), .int .i64 0]) ∧ Ve w' w.heap.size a (x0 n) ∧ Below w.heap.size w w' := by
  have hm := initial_c n w h2
  go_enter Tryd.func7, Tryd.ntmps7
  go_wp2_with fail
  refine hm.mono ?_
  rintro e w1 ⟨v, rfl, ⟨s, m, rfl⟩, ho, hb⟩
  have HO := Lib.hid ho
  have HB := Lib.hid hb
  clear hm ho hb
  have hA3 := (Below.refl w1.heap.size w1).alloc (Nat.le_refl _) (.cells #[.slice s n m, .slice none 0 0, .int .i64 0, .bool false] 58)
  have b3 := Blk.new w1 58 #[.slice s n m, .slice none 0 0, .int .i64 0, .bool false]
  have ho3 := own_below HO.out hA3
  have hV : VeC (w1.alloc (.cells #[.slice s n m, .slice none 0 0, .int .i64 0, .bool false] 58)) w.heap.size w1.heap.size (.slice s n m) (.slice none 0 0) (List.replicate n 2048) [] 0 false :=
    ⟨core_newV HB.out.size b3 ho3 rfl rfl, by rw [List.length_replicate]; exact ho3, World.ownsRow_nil _ _ 3 1⟩
  have HV := Lib.hid hV
  have HB3 := Lib.hid (below_call HB.out hA3)
  have hbg := vbegin_c _ _ _ _ _ _ _ _ _ hV
  clear hA3 b3 ho3 hV
  go_wp2_with (first | (go_at_call 26; (with_reducible refine hbg.mono ?_); rintro e w2 ⟨rfl, hv, hk⟩; have HV2 := Lib.hid hv; have HK := Lib.hid hk; clear hv hk))
  go_ret2
  exact ⟨_, rfl, HV2.out, HB3.out.trans (HV.out.core.out HK.out)⟩
theorem vnew_n (c : Int) (w : World) (h : ¬ (1 ≤ c ∧ c ≤ 64)) : Calls Tryd.prog 7 #[.int .i64 c] w fun e w' => e = .returned (.tuple #[.pointer none, .int .i64 2]) ∧ w = w' := by
  by_cases h0 : c < 1
  · clear h
    go_enter Tryd.func7, Tryd.ntmps7
    go_wp2_with fail
    go_ret2
    exact ⟨rfl, rfl⟩
  · have h1 : 64 < c := by omega
    clear h
    go_enter Tryd.func7, Tryd.ntmps7
    go_wp2_with fail
    go_ret2
    exact ⟨rfl, rfl⟩
theorem vreset_c (w : World) (B a : Nat) (x : Am.X) (h : Ve w B a x) (hl : x.1.length ≤ 64) :
    Calls Tryd.prog 12 #[.pointer (some ⟨a, 0, none⟩)] w fun e w' => e = .returned (.tuple #[]) ∧ Ve w' B a (List.replicate x.1.length 2048, x.2) ∧ Kp a w w' := by
  obtain ⟨pv, lv, bg, h, hbg⟩ := h
  obtain ⟨c0, c1, c2, c3⟩ := h.cells
  have f := h.core.blk.free
  obtain ⟨s, m, rfl⟩ := own_slice h.ps
  have hm := initial_c x.1.length w hl
  have H := Lib.hid h
  have HG := Lib.hid hbg
  have hp := fun W => ptrVn W ⟨a, 0, none⟩
  clear h c1 c2 c3 hbg
  go_enter Tryd.func12, Tryd.ntmps12
  go_wp2_with fail
  refine hm.mono ?_
  rintro e w1 ⟨v1, rfl, ⟨s1, m1, rfl⟩, ho, hb⟩
  have H1 := Lib.hid (H.out.below hb)
  have d0 := H1.out.cells.1
  have df := H1.out.core.blk.free
  have HO := Lib.hid ho
  have HB := Lib.hid hb
  clear hm ho hb c0 f
  go_wp2_with fail
  go_end0
  have N := H.out.newP HB.out (Q := List.replicate x.1.length 2048) (by rw [List.length_replicate]; exact HO.out)
  exact ⟨rfl, ⟨_, lv, bg, N.1, HG.out⟩, N.2⟩
theorem vprob_c (w : World) (B a : Nat) (x : Am.X) (c : Int) (h : Ve w B a x) (_hl : x.1.length ≤ 64) :
    Calls Tryd.prog 18 #[.pointer (some ⟨a, 0, none⟩), .int .i64 c] w fun e w' => e = .returned (.int .i64 (if 0 ≤ c ∧ c < x.1.length then Am.pr x c else 0)) ∧ w = w' := by
  obtain ⟨pv, lv, bg, h, hbg⟩ := h
  obtain ⟨c0, c1, c2, c3⟩ := h.cells
  obtain ⟨s, m, rfl⟩ := own_slice h.ps
  have hpn := fun W => ptrVn W ⟨a, 0, none⟩
  by_cases hc : 0 ≤ c ∧ c < x.1.length
  · rw [if_pos hc]
    obtain ⟨k, rfl⟩ : ∃ k : Nat, c = k := ⟨c.toNat, by omega⟩
    have hk : k < x.1.length := by omega
    obtain ⟨g, rfl, hg, _, _, _⟩ := own_at h.ps k hk
    have hp : Hid (Am.pr x (k : Int) = x.1[k]) := by show _ = _; simp [Am.pr, List.getD_eq_getElem?_getD, hk]
    have hg2 : w.cell? ⟨g, k, none⟩ = some (.int .i64 x.1[k]) := by rw [hg]; simp [hk]
    have hk2 : (k : Int) < (x.1.length : Int) := by omega
    clear h hg hc hbg
    generalize x.1[k] = p at *
    go_enter Tryd.func18, Tryd.ntmps18
    go_wp2_with fail
    go_ret
    exact ⟨by rw [hp.out]; rfl, rfl⟩
  · rw [if_neg hc]
    by_cases h0 : c < 0
    · clear h hc hbg
      go_enter Tryd.func18, Tryd.ntmps18
      go_wp2_with fail
      go_ret
      exact ⟨rfl, rfl⟩
    · have h1 : (x.1.length : Int) ≤ c := by omega
      clear h hc hbg
      go_enter Tryd.func18, Tryd.ntmps18
      go_wp2_with fail
      go_ret
      exact ⟨rfl, rfl⟩
theorem vsize_c (w : World) (B a : Nat) (x : Am.X) (h : Ve w B a x) (h1 : 1 ≤ x.1.length) (hl : x.1.length ≤ 64) (_hn : x.2.n ≤ 1000000000) :
    Calls Tryd.prog 16 #[.pointer (some ⟨a, 0, none⟩)] w fun e w' => e = .returned (.int .i64 (szF x.2)) ∧ w = w' := by
  obtain ⟨pv, lv, bg, h, hbg⟩ := h
  obtain ⟨c0, c1, c2, c3⟩ := h.cells
  obtain ⟨s, m, rfl⟩ := own_slice h.ps
  have hlw := h.lw
  rw [Am.dig_len] at hlw
  obtain ⟨s2, m2, rfl⟩ := own_slice hlw
  have hpn := fun W => ptrVn W ⟨a, 0, none⟩
  have hne : ¬ (x.1.length : Int) = 0 := by omega
  unfold szF
  cases bg with
  | false =>
    have hr : x.2.rg = 4294967295 := by simpa using hbg
    rw [if_pos hr]
    clear h hr hbg hlw
    generalize x.1.length = n at *
    go_enter Tryd.func16, Tryd.ntmps16
    go_wp2_with fail
    go_ret
    exact ⟨rfl, rfl⟩
  | true =>
    have hr : ¬ x.2.rg = 4294967295 := by simpa using hbg
    rw [if_neg hr]
    clear h hr hbg hlw
    generalize x.1.length = n at *
    go_enter Tryd.func16, Tryd.ntmps16
    go_wp2_with fail
    go_ret
    exact ⟨rfl, rfl⟩
end Go.Proofs.YtdnfnekfcndnhaaDoor
