/-
  Layer 28: contract of the code's Read.
-/
import Derived.Test.YtagfmmkhgggfmaaMj
import Derived.Laws.ResultCell
set_option maxRecDepth 100000
namespace Go.Proofs.Ytagfmmkhgggfmaa
open Go.RowKit

theorem Blk.two {w : World} {g : Nat} {t : TypeId} {a b : Value} (h : Blk w g t #[a, b]) : w.cell? ⟨g, 0, none⟩ = some a ∧ w.cell? ⟨g, 1, none⟩ = some b := ⟨h.cell 0, h.cell 1⟩
theorem Blk.set2 {w : World} {g : Nat} {t : TypeId} {a b : Value} (h : Blk w g t #[a, b]) (x y : Value) : Blk ((w.setCell ⟨g, 0, none⟩ x).setCell ⟨g, 1, none⟩ y) g t #[x, y] := (h.set 0 x).set 1 y
theorem load_seg {W : World} {g : Nat} {a b : Value} (B : Blk W g 26 #[a, b]) : (loadVar 26 ⟨g, 0, none⟩).run Try.prog W = .ok (.agg #[a, b]) W := by
  obtain ⟨c0, c1⟩ := B.two
  simp [loadVar, go_sem, c0, c1]
theorem results_stt {fn : Func} {p u v : Tmp} (h : fn.results = #[.cell p 26, .tmp u, .tmp v]) (tmps : Array Value) {W : World} {g : Nat} {a b x y : Value} (hp : tmps.getD p undef = .pointer (some ⟨g, 0, none⟩)) (hu : tmps.getD u undef = x) (hv : tmps.getD v undef = y) (B : Blk W g 26 #[a, b]) :
    (results fn tmps).run Try.prog W = .ok (.tuple #[.agg #[a, b], x, y]) W := by
  have e : (asAddr (.pointer (some ⟨g, 0, none⟩))).run Try.prog W = .ok (⟨g, 0, none⟩ : Addr) W := rfl
  have k : (results fn tmps).run Try.prog W = (((asAddr (tmps.getD p undef)).run Try.prog W).andThen fun a w₁ => (loadVar 26 a).run Try.prog w₁).andThen fun q w₁ => .ok (.tuple #[q, tmps.getD u undef, tmps.getD v undef]) w₁ := by
    simp only [results, h]
    simp [Sem.run_bind, Result.andThen]
    try (repeat' split) <;> simp_all
  rw [k, hp, e, hu, hv]
  simp only [Result.andThen]
  rw [load_seg B]
/-- A segment, the offset behind it, an error. -/
def GivesSeg (r : Mk.Rs) (w : World) (e : Ending) (w' : World) : Prop := ∃ v, e = .returned (.tuple #[.agg #[.int .i64 r.c, v], .int .i64 r.n, .int .i64 r.e]) ∧ w'.ownsRow w.heap.size 5 1 v r.p.length (r.p.map (Value.int .u8)) ∧ Below w.heap.size w w'
theorem rs_cases (bs : List Int) (a : Int) : (Mk.rdE bs a 2 ≠ 0 ∧ Mk.rs bs a = ⟨0, [], 0, Mk.rdE bs a 2⟩) ∨
    (Mk.rdE bs a 2 = 0 ∧ Mk.known (Mk.rdV bs a 2) = false ∧ Mk.rs bs a = ⟨0, [], 0, 11⟩) ∨
    (Mk.rdE bs a 2 = 0 ∧ Mk.known (Mk.rdV bs a 2) = true ∧ Mk.bare (Mk.rdV bs a 2) = true ∧ Mk.rs bs a = ⟨Mk.rdV bs a 2, [], a + 2, 0⟩) ∨
    (Mk.rdE bs a 2 = 0 ∧ Mk.known (Mk.rdV bs a 2) = true ∧ Mk.bare (Mk.rdV bs a 2) = false ∧ Mk.rdE bs (a + 2) 2 ≠ 0 ∧ Mk.rs bs a = ⟨0, [], 0, Mk.rdE bs (a + 2) 2⟩) ∨
    (Mk.rdE bs a 2 = 0 ∧ Mk.known (Mk.rdV bs a 2) = true ∧ Mk.bare (Mk.rdV bs a 2) = false ∧ Mk.rdE bs (a + 2) 2 = 0 ∧ Mk.rdV bs (a + 2) 2 < 2 ∧ Mk.rs bs a = ⟨0, [], 0, 4⟩) ∨
    (Mk.rdE bs a 2 = 0 ∧ Mk.known (Mk.rdV bs a 2) = true ∧ Mk.bare (Mk.rdV bs a 2) = false ∧ Mk.rdE bs (a + 2) 2 = 0 ∧ 2 ≤ Mk.rdV bs (a + 2) 2 ∧ Mk.rdV bs (a + 2) 2 > bs.length - (a + 2) ∧ Mk.rs bs a = ⟨0, [], 0, 7⟩) ∨
    (Mk.rdE bs a 2 = 0 ∧ Mk.known (Mk.rdV bs a 2) = true ∧ Mk.bare (Mk.rdV bs a 2) = false ∧ Mk.rdE bs (a + 2) 2 = 0 ∧ 2 ≤ Mk.rdV bs (a + 2) 2 ∧ Mk.rdV bs (a + 2) 2 ≤ bs.length - (a + 2) ∧
      Mk.rs bs a = ⟨Mk.rdV bs a 2, (bs.drop (a.toNat + 4)).take ((Mk.rdV bs (a + 2) 2).toNat - 2), a + 2 + Mk.rdV bs (a + 2) 2, 0⟩) := by
  unfold Mk.rs
  by_cases h0 : Mk.rdE bs a 2 = 0
  · rw [if_neg (by simp [h0])]
    right
    cases h1 : Mk.known (Mk.rdV bs a 2)
    · left; rw [if_pos rfl]; exact ⟨h0, rfl, rfl⟩
    · right
      rw [if_neg (by simp)]
      cases h2 : Mk.bare (Mk.rdV bs a 2)
      · right
        rw [if_neg (by simp)]
        by_cases h3 : Mk.rdE bs (a + 2) 2 = 0
        · right
          rw [if_neg (by simp [h3])]
          by_cases h4 : Mk.rdV bs (a + 2) 2 < 2
          · left; rw [if_pos h4]; exact ⟨h0, rfl, rfl, h3, h4, rfl⟩
          · right
            rw [if_neg h4]
            by_cases h5 : Mk.rdV bs (a + 2) 2 > bs.length - (a + 2)
            · left; rw [if_pos h5]; exact ⟨h0, rfl, rfl, h3, by omega, h5, rfl⟩
            · right; rw [if_neg h5]; exact ⟨h0, rfl, rfl, h3, by omega, by omega, rfl⟩
        · left; rw [if_pos h3]; exact ⟨h0, rfl, rfl, h3, rfl⟩
      · left; rw [if_pos rfl]; exact ⟨h0, rfl, rfl, rfl⟩
  · left; rw [if_pos h0]; exact ⟨h0, rfl⟩
theorem HoldsB.part {w : World} {b off : Nat} {bs : List Int} (h : HoldsB w (some ⟨b, off, none⟩) bs) (k n : Nat) : HoldsB w (some ⟨b, off + k, none⟩) ((bs.drop k).take n) := by
  rcases h with rfl | ⟨b', off', e, hr⟩
  · exact .inl (by simp)
  · simp at e
    obtain ⟨rfl, rfl⟩ := e
    refine .inr ⟨b, off + k, rfl, fun j hj => ?_⟩
    simp at hj
    rw [Nat.add_assoc, hr (k + j) (by omega)]
    simp
theorem holdsB_none {w : World} {bs : List Int} (h : HoldsB w none bs) : bs = [] := by
  rcases h with h | ⟨b, off, e, _⟩
  · exact h
  · simp at e
set_option maxHeartbeats 1000000 in
theorem read_c (bs : List Int) (s : Option Addr) (m : Nat) (a : Int) (w : World) (hH : HoldsB w s bs) (hB : Mk.bytes bs) (hm : bs.length ≤ m) (hl : bs.length ≤ 1000000) (hl2 : m ≤ maxLen) :
    Calls Try.prog 17 #[.slice s bs.length m, .int .i64 a] w (GivesSeg (Mk.rs bs a) w) := by
  obtain ⟨W0, hW0⟩ : ∃ W0, W0 = w.alloc (.cells #[.int .i64 0, .slice none 0 0] 26) := ⟨_, rfl⟩
  have HB := Lib.hid (show Below w.heap.size w W0 by rw [hW0]; exact (Below.refl _ _).alloc (Nat.le_refl _) _)
  have HK := Lib.hid (show Blk W0 w.heap.size 26 #[.int .i64 0, .slice none 0 0] by rw [hW0]; exact Blk.new _ _ _)
  have HW0 := Lib.hid hW0
  have HH := Lib.hid (hH.call HB.out)
  have k1 := readUint_c bs s m a 2 W0 HH.out hB hm hl2
  have k2 := readUint_c bs s m (a + 2) 2 W0 HH.out hB hm hl2
  have kn := known_c (Mk.rdV bs a 2) W0
  have kb := bare_c (Mk.rdV bs a 2) W0
  obtain ⟨c0, c1⟩ := HK.out.two
  have f0 := HK.out.free 0
  have f1 := HK.out.free 1
  clear hH hW0
  rcases rs_cases bs a with ⟨h, e⟩ | ⟨h, h1, e⟩ | ⟨h, h1, h2, e⟩ | ⟨h, h1, h2, h3, e⟩ | ⟨h, h1, h2, h3, h4, e⟩ | ⟨h, h1, h2, h3, h4, h5, e⟩ | ⟨h, h1, h2, h3, h4, h5, e⟩
  · rw [e]; clear e k2 kn kb hB
    generalize Mk.rdE bs a 2 = E at *
    generalize Mk.rdV bs a 2 = C at *
    have b1 : (E == 0) = false := by simpa using h
    have b2 : (E != 0) = true := by simpa using h
    clear h
    go_enter Try.func17, Try.ntmps17
    go_upto_region 1 with fail
    rw [← HW0.out]
    go_wp2_with (first | (go_at_call 25; (with_reducible refine k1.mono ?_); rintro e wn ⟨rfl, rfl⟩) | fail)
    refine bodyPost_ret (results_stt rfl _ rfl rfl rfl (HK.out.set2 _ _)) rfl ?_
    exact ⟨_, rfl, World.ownsRow_nil _ _ _ _, (HB.out.setCell (Nat.le_refl _) _).setCell (Nat.le_refl _) _⟩
  · rw [e]; clear e k2 kb hB
    rw [h] at k1; rw [h1] at kn
    generalize Mk.rdV bs a 2 = C at *
    clear h h1
    go_enter Try.func17, Try.ntmps17
    go_upto_region 1 with fail
    rw [← HW0.out]
    go_wp2_with (first | (go_at_call 25; (with_reducible refine k1.mono ?_); rintro e wn ⟨rfl, rfl⟩) | (go_at_call 10; (with_reducible refine kn.mono ?_); rintro e wn ⟨rfl, rfl⟩) | fail)
    refine bodyPost_ret (results_stt rfl _ rfl rfl rfl (HK.out.set2 _ _)) rfl ?_
    exact ⟨_, rfl, World.ownsRow_nil _ _ _ _, (HB.out.setCell (Nat.le_refl _) _).setCell (Nat.le_refl _) _⟩
  · have ha := Mk.rdE_ok h
    rw [e]; clear e k2 hB
    rw [h] at k1; rw [h1] at kn; rw [h2] at kb
    generalize Mk.rdV bs a 2 = C at *
    clear h h1 h2
    have q1 : IntKind.i64.wrap (a + 2) = a + 2 := IntWalk.i64_in _ (by omega)
    go_enter Try.func17, Try.ntmps17
    go_upto_region 1 with fail
    rw [← HW0.out]
    go_wp2_with (first | (go_at_call 25; (with_reducible refine k1.mono ?_); rintro e wn ⟨rfl, rfl⟩) | (go_at_call 10; (with_reducible refine kn.mono ?_); rintro e wn ⟨rfl, rfl⟩) | (go_at_call 12; (with_reducible refine kb.mono ?_); rintro e wn ⟨rfl, rfl⟩) | fail)
    refine bodyPost_ret (results_stt rfl _ rfl rfl rfl (HK.out.set2 _ _)) rfl ?_
    exact ⟨_, rfl, World.ownsRow_nil _ _ _ _, (HB.out.setCell (Nat.le_refl _) _).setCell (Nat.le_refl _) _⟩
  · have ha := Mk.rdE_ok h
    rw [e]; clear e hB
    rw [h] at k1; rw [h1] at kn; rw [h2] at kb
    generalize Mk.rdV bs a 2 = C at *
    generalize Mk.rdE bs (a + 2) 2 = E at *
    generalize Mk.rdV bs (a + 2) 2 = N at *
    have b1 : (E == 0) = false := by simpa using h3
    have b2 : (E != 0) = true := by simpa using h3
    clear h h1 h2 h3
    have q1 : IntKind.i64.wrap (a + 2) = a + 2 := IntWalk.i64_in _ (by omega)
    go_enter Try.func17, Try.ntmps17
    go_upto_region 1 with fail
    rw [← HW0.out]
    go_wp2_with (first | (go_at_call 25; (with_reducible refine k1.mono ?_); rintro e wn ⟨rfl, rfl⟩) | (go_at_call 25; (with_reducible refine k2.mono ?_); rintro e wn ⟨rfl, rfl⟩) | (go_at_call 10; (with_reducible refine kn.mono ?_); rintro e wn ⟨rfl, rfl⟩) | (go_at_call 12; (with_reducible refine kb.mono ?_); rintro e wn ⟨rfl, rfl⟩) | fail)
    refine bodyPost_ret (results_stt rfl _ rfl rfl rfl (HK.out.set2 _ _)) rfl ?_
    exact ⟨_, rfl, World.ownsRow_nil _ _ _ _, (HB.out.setCell (Nat.le_refl _) _).setCell (Nat.le_refl _) _⟩
  · have ha := Mk.rdE_ok h
    rw [e]; clear e hB
    rw [h] at k1; rw [h1] at kn; rw [h2] at kb; rw [h3] at k2
    generalize Mk.rdV bs a 2 = C at *
    generalize Mk.rdV bs (a + 2) 2 = N at *
    clear h h1 h2 h3
    have q1 : IntKind.i64.wrap (a + 2) = a + 2 := IntWalk.i64_in _ (by omega)
    have b1 : decide (N < 2) = true := decide_eq_true h4
    go_enter Try.func17, Try.ntmps17
    go_upto_region 1 with fail
    rw [← HW0.out]
    go_wp2_with (first | (go_at_call 25; (with_reducible refine k1.mono ?_); rintro e wn ⟨rfl, rfl⟩) | (go_at_call 25; (with_reducible refine k2.mono ?_); rintro e wn ⟨rfl, rfl⟩) | (go_at_call 10; (with_reducible refine kn.mono ?_); rintro e wn ⟨rfl, rfl⟩) | (go_at_call 12; (with_reducible refine kb.mono ?_); rintro e wn ⟨rfl, rfl⟩) | fail)
    refine bodyPost_ret (results_stt rfl _ rfl rfl rfl (HK.out.set2 _ _)) rfl ?_
    exact ⟨_, rfl, World.ownsRow_nil _ _ _ _, (HB.out.setCell (Nat.le_refl _) _).setCell (Nat.le_refl _) _⟩
  · have ha := Mk.rdE_ok h
    rw [e]; clear e hB
    rw [h] at k1; rw [h1] at kn; rw [h2] at kb; rw [h3] at k2
    generalize Mk.rdV bs a 2 = C at *
    generalize Mk.rdV bs (a + 2) 2 = N at *
    clear h h1 h2 h3
    have q1 : IntKind.i64.wrap (a + 2) = a + 2 := IntWalk.i64_in _ (by omega)
    have b1 : decide (N < 2) = false := decide_eq_false (by omega)
    have b2 : decide ((bs.length : Int) - (a + 2) < N) = true := decide_eq_true h5
    go_enter Try.func17, Try.ntmps17
    go_upto_region 1 with fail
    rw [← HW0.out]
    go_wp2_with (first | (go_at_call 25; (with_reducible refine k1.mono ?_); rintro e wn ⟨rfl, rfl⟩) | (go_at_call 25; (with_reducible refine k2.mono ?_); rintro e wn ⟨rfl, rfl⟩) | (go_at_call 10; (with_reducible refine kn.mono ?_); rintro e wn ⟨rfl, rfl⟩) | (go_at_call 12; (with_reducible refine kb.mono ?_); rintro e wn ⟨rfl, rfl⟩) | fail)
    refine bodyPost_ret (results_stt rfl _ rfl rfl rfl (HK.out.set2 _ _)) rfl ?_
    exact ⟨_, rfl, World.ownsRow_nil _ _ _ _, (HB.out.setCell (Nat.le_refl _) _).setCell (Nat.le_refl _) _⟩
  · have ha := Mk.rdE_ok h
    rw [e]; clear e hB
    rw [h] at k1; rw [h1] at kn; rw [h2] at kb; rw [h3] at k2
    generalize Mk.rdV bs a 2 = C at *
    generalize Mk.rdV bs (a + 2) 2 = N at *
    clear h h1 h2 h3
    obtain ⟨A, rfl⟩ : ∃ A : Nat, a = A := ⟨a.toNat, by omega⟩
    obtain ⟨n, rfl⟩ : ∃ n : Nat, N = ((n + 2 : Nat) : Int) := ⟨(N - 2).toNat, by omega⟩
    have q1 : IntKind.i64.wrap ((A : Int) + 2) = (A : Int) + 2 := IntWalk.i64_in _ (by omega)
    have b1 : decide (((n + 2 : Nat) : Int) < 2) = false := decide_eq_false (by omega)
    have b2 : decide ((bs.length : Int) - ((A : Int) + 2) < ((n + 2 : Nat) : Int)) = false := decide_eq_false (by omega)
    obtain ⟨P, hP⟩ : ∃ P, P = (bs.drop (A + 4)).take n := ⟨_, rfl⟩
    have hPl : P.length = n := by rw [hP]; simp; omega
    have hPP : List.take ((((n + 2 : Nat) : Int)).toNat - 2) (List.drop (((A : Int)).toNat + 4) bs) = P := by rw [hP, Int.toNat_natCast, Int.toNat_natCast, Nat.add_sub_cancel]
    rw [hPP]
    obtain ⟨sq, hsq⟩ : ∃ x, (if A + 2 + (n + 2) = A + 2 + 2 then s else Option.map (fun x => x.add (A + 2 + 2)) s) = x := ⟨_, rfl⟩
    have hq : HoldsB W0 sq P ∧ (sq = none → P = [] ∧ n = 0) := by
      rw [← hsq]
      cases s with
      | none => have := holdsB_none HH.out; subst this; simp at ha; omega
      | some ad =>
        by_cases hn : n = 0
        · have : P = [] := List.length_eq_zero_iff.1 (by omega)
          exact ⟨.inl this, fun _ => ⟨this, hn⟩⟩
        · rw [if_neg (by omega)]
          refine ⟨?_, fun h => by simp at h⟩
          rcases HH.out with h0 | ⟨b, off, e, hr⟩
          · subst h0; simp at ha; omega
          · injection e with e
            subst e
            have hh := HoldsB.part (.inr ⟨b, off, rfl, hr⟩ : HoldsB W0 (some ⟨b, off, none⟩) bs) (A + 4) n
            rw [hP]
            have e2 : Option.map (fun x : Addr => x.add (A + 2 + 2)) (some ⟨b, off, none⟩) = some ⟨b, off + (A + 4), none⟩ := by
              simp only [Option.map_some, Go.WideShapes.add_plain]
            rw [e2]
            exact hh
    have kc := clone_c W0 P sq n hq.1 hq.2 (by omega)
    rw [hPl] at kc
    have hlen : A + 2 + (n + 2) - (A + 2 + 2) = n := by omega
    have HPL := Lib.hid hPl
    have HQ := Lib.hid hq
    clear hP hPl hPP hq
    go_enter Try.func17, Try.ntmps17
    go_upto_region 1 with fail
    rw [← HW0.out]
    go_upto_region 18 with (first | (go_at_call 25; (with_reducible refine k1.mono ?_); rintro e wn ⟨rfl, rfl⟩) | (go_at_call 25; (with_reducible refine k2.mono ?_); rintro e wn ⟨rfl, rfl⟩) | (go_at_call 10; (with_reducible refine kn.mono ?_); rintro e wn ⟨rfl, rfl⟩) | (go_at_call 12; (with_reducible refine kb.mono ?_); rintro e wn ⟨rfl, rfl⟩) | fail)
    rw [hsq, hlen]
    clear hsq hlen
    go_wp2_with (first | (go_at_call 29; (with_reducible refine kc.mono ?_); rintro e w1 ⟨v1, rfl, ho, hb⟩; obtain ⟨_, s1, m1, rfl, _, _, _⟩ := HoldsB.of_own ho; have HO := Lib.hid ho; have HB1 := Lib.hid hb; have HK1 := Lib.hid (HK.out.below hb); have g0 := HK1.out.cell 0; have g1 := HK1.out.cell 1; have h0 := HK1.out.free 0; have h1 := HK1.out.free 1; clear ho hb c0 c1 f0 f1 kc) | fail)
    refine bodyPost_ret (results_stt rfl _ rfl rfl rfl (HK1.out.set2 _ _)) rfl ?_
    exact ⟨_, rfl, own_up (own_set (own_set HO.out _ _ (Blk.lt HK.out)) _ _ (Blk.lt HK.out)) HB.out.size, ((HB.out.trans (HB1.out.mono HB.out.size)).setCell (Nat.le_refl _) _).setCell (Nat.le_refl _) _⟩
end Go.Proofs.Ytagfmmkhgggfmaa
