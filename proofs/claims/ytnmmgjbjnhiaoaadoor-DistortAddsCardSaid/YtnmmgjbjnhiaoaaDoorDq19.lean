/-
  Layer 19: the statement DistortAdds on empty lists.
-/
import Derived.Test.YtnmmgjbjnhiaoaaDoorDn19
import Derived.Deep.RegionHeld3
set_option maxRecDepth 100000
namespace Go.Proofs.YtnmmgjbjnhiaoaaDoor
open Go.RowKit

set_option maxHeartbeats 16000000 in
theorem adds_0 (sa sb sc : Option Addr) (ma mb mc : Nat) (s d at8 : Int) (W : World) (hv : Qu.vB s d = true) (h8 : 0 ≤ at8 ∧ at8 ≤ 255) :
    Calls Tryd.prog 6 #[.agg #[.slice sa 0 ma, .slice sb 0 mb, .slice sc 0 mc], .agg #[.int .i64 s, .int .i64 d], .int .u8 at8] W fun e w' => e = .returned (.bool true) ∧ Below W.heap.size W w' := by
  obtain ⟨M, hM⟩ : ∃ x, x = (W.alloc (.cells #[.slice sa 0 ma, .slice sb 0 mb, .slice sc 0 mc] 30)).alloc (.cells #[.int .i64 s, .int .i64 d] 25) := ⟨_, rfl⟩
  have hMB : Below W.heap.size W M := by rw [hM]; exact below_alloc (below_alloc (Below.refl _ W) _) _
  have g1 : Blk M W.heap.size 30 #[.slice sa 0 ma, .slice sb 0 mb, .slice sc 0 mc] := by rw [hM]; exact (Blk.new W _ _).alloc _
  have g2 : Blk M (W.heap.size + 1) 25 #[.int .i64 s, .int .i64 d] := by
    have := Blk.new (W.alloc (.cells #[.slice sa 0 ma, .slice sb 0 mb, .slice sc 0 mc] 30)) 25 #[.int .i64 s, .int .i64 d]
    rw [hM]; simpa using this
  have gM : W.heap.size + 1 + 1 = M.heap.size := by rw [hM]; simp
  have ce : ∀ w1 : World, Below M.heap.size M w1 → w1.cell? ⟨W.heap.size, 0, none⟩ = some (.slice sa 0 ma) ∧ w1.cell? ⟨W.heap.size, 1, none⟩ = some (.slice sb 0 mb) ∧ w1.cell? ⟨W.heap.size, 2, none⟩ = some (.slice sc 0 mc) ∧ w1.cell? ⟨W.heap.size + 1, 0, none⟩ = some (.int .i64 s) ∧ w1.cell? ⟨W.heap.size + 1, 1, none⟩ = some (.int .i64 d) := fun w1 hb => ⟨(g1.below hb).cell 0, (g1.below hb).cell 1, (g1.below hb).cell 2, (g2.below hb).cell 0, (g2.below hb).cell 1⟩
  have y0 := (ce M (Below.refl _ _)).1
  have y1 := (ce M (Below.refl _ _)).2.1
  have y2 := (ce M (Below.refl _ _)).2.2.1
  have y3 := (ce M (Below.refl _ _)).2.2.2.1
  have y4 := (ce M (Below.refl _ _)).2.2.2.2
  have hT : ∀ (q1 q2 q3 : Option Addr) (r1 r2 r3 : Nat) (wt : Int), 0 ≤ wt ∧ wt ≤ 16 → ∀ w1 : World, Calls Tryd.prog 14 #[.slice q1 0 r1, .slice q2 0 r2, .slice q3 0 r3, .int .i64 s, .int .i64 d, .int .i64 wt] w1 fun e w' => e = .returned (.tuple #[.int .i64 0, .int .i64 0]) ∧ Below w1.heap.size w1 w' := fun q1 q2 q3 r1 r2 r3 wt hw w1 => by
    have k := dtotal_c [] [] [] q1 q2 q3 0 0 0 r1 r2 r3 s d wt w1 (.inl rfl) (.inl rfl) (.inl rfl) rfl rfl rfl (by simp)
    obtain ⟨t1, t2⟩ := to_ok (A := []) (B := []) (C := []) (s := s) (d := d) (w := wt) rfl rfl (by decide) hv hw (fun j hj => by simp at hj)
    rw [t1, t2, show wt * suE [] [] [] s d ([] : List Int).length = 0 from by show wt * 0 = 0; simp] at k
    exact k
  have HB := Lib.hid hMB
  have HM := Lib.hid hM
  have GM := Lib.hid gM
  have CE := Lib.hid ce
  have KT := Lib.hid hT
  have H8 := Lib.hid h8
  have kv := vd_r s d
  rw [hv] at kv
  have KE := Lib.hid ex19_c
  rw [hM] at y0 y1 y2 y3 y4
  clear hMB hM g1 g2 gM ce hT h8 hv
  go_enter Tryd.func6, Tryd.ntmps6
  go_wp2_with (first | (go_at_call 16; (with_reducible refine (kv _).mono ?_); rintro e wn ⟨rfl, rfl⟩) | fail)
  rw [← HM.out]
  have A0 := Lib.hid (A3.new M GM.out)
  clear y0 y1 y2 y3 y4 kv
  generalize M.alloc (.cells #[.slice none 0 0, .slice none 0 0, .slice none 0 0] 30) = wc at *
  go_loopw [9, 10] (fun u k wr => u = .int .i64 0 ∧ k = .int .i64 0 ∧ wr = wc) (fun _ _ _ => 0)
  case atStart => exact ⟨rfl, rfl, rfl⟩
  case round =>
    obtain ⟨rfl, rfl, rfl⟩ := hrel
    obtain ⟨y0, y1, y2, y3, y4⟩ := CE.out _ A0.out.be
    have w8 : IntKind.i64.wrap at8 = at8 := by have := H8.out; rw [IntWalk.i64_left]; unfold wrap64; omega
    have t1 : at8.tmod 1 = 0 := by
      have h8 := H8.out
      have e1 := Int.tmod_eq_emod_of_nonneg (a := at8) (b := 1) h8.1
      omega
    have k1 := KT.out sa sb sc ma mb mc 1 (by decide) wr
    have k2 := KT.out none none none 0 0 0 1 (by decide)
    go_wp2_with (first
      | (go_at_call 14; (with_reducible refine k1.mono ?_); rintro e w1 ⟨rfl, hb⟩; have B1 := Lib.hid hb; obtain ⟨y0, y1, y2, y3, y4⟩ := CE.out _ (below_call A0.out.be hb); have c0 := (A0.out.bx.below hb).cell 0; have c1 := (A0.out.bx.below hb).cell 1; have c2 := (A0.out.bx.below hb).cell 2; clear hb)
      | (go_at_call 14; (with_reducible refine (k2 _).mono ?_); rintro e w2 ⟨rfl, hb⟩; have B2 := Lib.hid (below_call (below_call A0.out.be B1.out) hb); obtain ⟨y0, y1, y2, y3, y4⟩ := CE.out _ B2.out; clear hb)
      | fail)
    clear c0 c1 c2 y0 y1 y2 y3 y4 k1 k2
    have z0 := CE.out w2.drew (below_call B2.out (Below.refl _ _).drew)
    go_region_held3 (fun w' => w'.cell? ⟨W.heap.size, 0, none⟩ = some (.slice sa 0 ma) ∧ w'.cell? ⟨W.heap.size, 1, none⟩ = some (.slice sb 0 mb) ∧ w'.cell? ⟨W.heap.size, 2, none⟩ = some (.slice sc 0 mc) ∧ w'.cell? ⟨W.heap.size + 1, 0, none⟩ = some (.int .i64 s) ∧ w'.cell? ⟨W.heap.size + 1, 1, none⟩ = some (.int .i64 d))
      (first | (with_reducible exact z0) | (with_reducible exact z1) | fail)
      (first | (go_simp; go_at_call 14; (with_reducible refine (KT.out _ _ _ _ _ _ 1 (by decide) _).mono ?_); rintro e w3 ⟨rfl, hb3⟩; have B3 := Lib.hid (below_call (below_call B2.out (Below.refl _ _).drew) hb3); have z1 := CE.out _ B3.out; clear hb3) | fail)
    clear z0 z1
    go_wp2_with fail
    have z2 := CE.out w3.drew (below_call B3.out (Below.refl _ _).drew)
    go_region_held3 (fun w' => w'.cell? ⟨W.heap.size, 0, none⟩ = some (.slice sa 0 ma) ∧ w'.cell? ⟨W.heap.size, 1, none⟩ = some (.slice sb 0 mb) ∧ w'.cell? ⟨W.heap.size, 2, none⟩ = some (.slice sc 0 mc) ∧ w'.cell? ⟨W.heap.size + 1, 0, none⟩ = some (.int .i64 s) ∧ w'.cell? ⟨W.heap.size + 1, 1, none⟩ = some (.int .i64 d))
      (first | (with_reducible exact z2) | (with_reducible exact z3) | fail)
      (first | (go_simp; go_at_call 14; (with_reducible refine (KT.out _ _ _ _ _ _ 1 (by decide) _).mono ?_); rintro e w4 ⟨rfl, hb4⟩; have B4 := Lib.hid (below_call (below_call B3.out (Below.refl _ _).drew) hb4); have z3 := CE.out _ B4.out; clear hb4) | fail)
    obtain ⟨y0, y1, y2, y3, y4⟩ := z3
    obtain ⟨ww, hww, hw2⟩ : ∃ ww : Int, at8.tmod 17 = ww ∧ 0 ≤ ww ∧ ww ≤ 16 := by
      have h8 := H8.out
      have e1 := Int.tmod_eq_emod_of_nonneg (a := at8) (b := 17) h8.1
      exact ⟨_, e1, by omega, by omega⟩
    have kw := KT.out sa sb sc ma mb mc ww hw2 w4
    have www : IntKind.i64.wrap ww = ww := by rw [IntWalk.i64_left]; unfold wrap64; omega
    clear z2 hw2
    go_wp2_with (first
      | (go_at_call 14; (with_reducible refine kw.mono ?_); rintro e w5 ⟨rfl, hb5⟩; have B5 := Lib.hid (below_call B4.out hb5); clear hb5)
      | (go_at_call 11; (with_reducible refine (KE.out _).mono ?_); rintro e w9 ⟨rfl, hb9⟩; have B9 := Lib.hid (below_call HB.out (below_call B5.out hb9)); clear hb9)
      | fail)
    go_ret
    exact ⟨rfl, B9.out⟩
end Go.Proofs.YtnmmgjbjnhiaoaaDoor
