/-
  Layer 21: contracts of the reference's Choose, over the reference's steps.
-/
import Derived.Test.YtkohdiajpdlkjaaAy
import Derived.Test.YtkohdiajpdlkjaaBa
set_option maxRecDepth 100000
namespace Go.Proofs.Ytkohdiajpdlkjaa
open Go.RowKit

/-- What the reference's steps answers. -/
def StepsOk : Prop := ∀ (a : Option Addr) (m n : Nat) (cs : List Cv) (W : World), HoldsCv W a cs → n = cs.length → okC cs →
    Calls Try.prog 18 #[.slice a n m] W fun e w' => ∃ v, e = .returned v ∧ w'.ownsRow W.heap.size 45 4 v (insA cs cs.length).length (flatE encB (insA cs cs.length)) ∧ Below W.heap.size W w'
theorem rchoose_bad (a : Option Addr) (n m : Nat) (b : Int) (cs : List Cv) (W : World) (hC : HoldsCv W a cs) (hn : n = cs.length) (hn2 : n ≤ 65536) (hok : ¬ okC cs) : Calls Try.prog 9 #[.slice a n m, .int .i64 b] W fun e w' => e = .returned (.tuple #[.slice none 0 0, .int .i64 1]) ∧ Below W.heap.size W w' := by
  have kv := vcurves_c a m n cs W hC hn hn2 1 ⟨fun q => absurd q hok, fun _ => rfl⟩
  clear hC hn hn2 hok
  go_enter Try.func9, Try.ntmps9
  go_wp2_with (first | (go_at_call 17; (with_reducible refine kv.mono ?_); rintro e w1 ⟨rfl, hb⟩; have HB := Lib.hid hb; clear hb) | fail)
  go_ret2
  exact ⟨rfl, HB.out⟩
theorem rchoose_range (a : Option Addr) (n m : Nat) (b : Int) (cs : List Cv) (W : World) (hC : HoldsCv W a cs) (hn : n = cs.length) (hok : okC cs) (hb : b < -1) : Calls Try.prog 9 #[.slice a n m, .int .i64 b] W fun e w' => e = .returned (.tuple #[.slice none 0 0, .int .i64 2]) ∧ Below W.heap.size W w' := by
  have kv := vcurves_c a m n cs W hC hn (by have := hok.1; omega) 0 ⟨fun _ => rfl, fun q => absurd hok q⟩
  clear hC hn hok
  go_enter Try.func9, Try.ntmps9
  go_wp2_with (first | (go_at_call 17; (with_reducible refine kv.mono ?_); rintro e w1 ⟨rfl, hb⟩; have HB := Lib.hid hb; clear hb) | fail)
  go_ret2
  exact ⟨rfl, HB.out⟩
set_option maxHeartbeats 1000000 in
theorem rchoose_last (a : Option Addr) (n m : Nat) (cs : List Cv) (W : World) (hC : HoldsCv W a cs) (hn : n = cs.length) (hok : okC cs) :
    Calls Try.prog 9 #[.slice a n m, .int .i64 (-1)] W fun e w' => ∃ g, e = .returned (.tuple #[.slice (some ⟨g, 0, none⟩) n n, .int .i64 0]) ∧ Blk w' g 3 (cI (lastL cs)) ∧ Below W.heap.size W w' := by
  have hn2 : n ≤ 65536 := by have := hok.1; omega
  have kv := vcurves_c a m n cs W hC hn hn2 0 ⟨fun _ => rfl, fun q => absurd hok q⟩
  obtain ⟨i0, hi, hz0, hz1, hz2⟩ := info_i
  have km := fun w : World => run_make (P := Try.prog) (w := w) (25) 3 i0 (.int .i64 0) Try.underlying25 hi hz0 .i64 .i64 (n : Int) (n : Int) (by omega) (by omega) (by rw [hz2]; omega) (by omega)
  simp only [hz1, Int.toNat_natCast, madeI] at km
  have KM := Lib.hid km
  have HC := Lib.hid hC
  have HN := Lib.hid hn
  have HOK := Lib.hid hok
  have HN2 := Lib.hid hn2
  clear hC hn hok hn2 hi hz0 hz1 hz2 km
  go_enter Try.func9, Try.ntmps9
  go_wp2_with (first | (go_at_call 17; (with_reducible refine kv.mono ?_); rintro e w1 ⟨rfl, hb⟩; have BW := Lib.hid hb; have hmk := KM.out w1; clear hb kv) | fail)
  clear hmk
  go_loopw [27] (fun i wr => ∃ k : Nat, k ≤ n ∧ i = .int .i64 (k : Int) ∧ Hid (Blk wr w1.heap.size 3 (cI (lastIn cs k))) ∧ Hid (Below w1.heap.size w1 wr)) (fun i _ => n - (intOf i).toNat)
  case atStart => exact ⟨0, Nat.zero_le _, rfl, by rw [lastIn_zero, ← HN.out]; exact Lib.hid (Blk.new _ _ _), below_alloc (Below.refl _ _) _⟩
  case round =>
    obtain ⟨k, hk, rfl, hL, hB⟩ := hrel
    obtain ⟨w0, rfl⟩ : ∃ w0 : World, w0 = wr := ⟨_, rfl⟩
    have hn9 := HN2.out
    have BB := BW.out.trans (hB.out.mono BW.out.size)
    by_cases hlt : k < n
    · have hkc : k < cs.length := by have := HN.out; omega
      obtain ⟨b, off, sr, sd, mr, md, rfl, c0, c1, -, -⟩ := (HC.out.below BB (Nat.le_refl _)).at hkc
      have hv := HOK.out.2 k hkc
      obtain ⟨R, D, hRD⟩ : ∃ R D, cs.getD k ([], []) = (R, D) := ⟨_, _, rfl⟩
      rw [hRD] at c0 c1 hv
      dsimp only at c0 c1 hv
      have h1 := hv.1
      have h2 := hv.2.1
      have h3 := hv.2.2.1
      obtain ⟨r, hr⟩ : ∃ r, r = R.length := ⟨_, rfl⟩
      obtain ⟨d, hd⟩ : ∃ d, d = D.length := ⟨_, rfl⟩
      rw [← hr] at c0
      rw [← hd] at c1
      have hw : IntKind.i64.wrap ((r : Int) - 1) = (r : Int) - 1 := by rw [IntWalk.i64_left]; unfold wrap64; omega
      have hA := hL.out.alloc (.cells #[.slice sr r mr, .slice sd d md] 37)
      have d0 := hA.cell k
      rw [cI_get (by rw [lastIn_len]; exact hkc)] at d0
      have d1 := hA.free k
      have HA := Lib.hid (show Blk ((w0.alloc (.cells #[.slice sr r mr, .slice sd d md] 37)).setCell ⟨w1.heap.size, k, none⟩ (.int .i64 ((r : Int) - 1))) w1.heap.size 3 (cI (lastIn cs (k + 1))) by
        have h := hA.set k (.int .i64 ((r : Int) - 1))
        rw [cI_set] at h
        rw [← lastIn_step, hRD]
        rw [hr]
        rw [hr] at h
        exact h)
      have HB := Lib.hid (show Below w1.heap.size w1 ((w0.alloc (.cells #[.slice sr r mr, .slice sd d md] 37)).setCell ⟨w1.heap.size, k, none⟩ (.int .i64 ((r : Int) - 1))) from (below_alloc hB.out _).setCell (Nat.le_refl _) _)
      have z0 : (0 : Int) ≤ (k : Int) := by omega
      have z1 : (k : Int) < (n : Int) := by omega
      clear hA hRD hr hd h1 h2 h3 hv hkc BB
      generalize (lastIn cs k).getD k 0 = old at d0
      go_wp2_with fail
      go_roundw
      case rel => exact ⟨k + 1, by omega, by go_num, HA, HB⟩
      case measure => simp [intOf]; omega
    · obtain rfl : k = n := by omega
      have HBB := Lib.hid BB
      clear BB
      go_wp2_with fail
      go_ret2
      exact ⟨w1.heap.size, rfl, by rw [← lastIn_all, ← HN.out]; exact hL.out, HBB.out⟩
theorem own_ne {w w1 : World} {s : Option Addr} {n m : Nat} {xs : List Value} {X : Obj} (h : w.ownsRow (w1.alloc X).heap.size 45 4 (.slice s n m) n xs) : ∀ b off, s = some ⟨b, off, none⟩ → b ≠ w1.heap.size := fun b off e q => by
  subst e
  have := (own4_lt h b rfl).1
  simp at this
  omega
theorem holdsE_far {w : World} {s : Option Addr} {l : List Stp} {g : Nat} (h : HoldsE encB w s l) (hs : ∀ b off, s = some ⟨b, off, none⟩ → b ≠ g) (i : Nat) (u : Value) : HoldsE encB (w.setCell ⟨g, i, none⟩ u) s l := by
  rcases h with h | ⟨b, off, e, hc⟩
  · exact .inl h
  · refine .inr ⟨b, off, e, fun k hk c hc4 => ?_⟩
    rw [World.cell?_setCell_far _ _ _ _ (fun q => hs b off e q.symm)]
    exact hc k hk c hc4
set_option maxHeartbeats 2000000 in
theorem rchoose_wth (KS : StepsOk) (a : Option Addr) (n m : Nat) (bud : Int) (cs : List Cv) (W : World) (hC : HoldsCv W a cs) (hn : n = cs.length) (hok : okC cs) (hbud : 0 ≤ bud) :
    Calls Try.prog 9 #[.slice a n m, .int .i64 bud] W fun e w' => ∃ g, e = .returned (.tuple #[.slice (some ⟨g, 0, none⟩) n n, .int .i64 0]) ∧ Blk w' g 3 (cI (wth bud 0 (insA cs cs.length) (List.replicate n 0))) ∧ Below W.heap.size W w' := by
  have hn2 : n ≤ 65536 := by have := hok.1; omega
  have kv := vcurves_c a m n cs W hC hn hn2 0 ⟨fun _ => rfl, fun q => absurd hok q⟩
  have ks := fun (W1 : World) (h : Below W.heap.size W W1) => KS a m n cs W1 (hC.below h (Nat.le_refl _)) hn hok
  obtain ⟨i0, hi, hz0, hz1, hz2⟩ := info_i
  have km := fun w : World => run_make (P := Try.prog) (w := w) (25) 3 i0 (.int .i64 0) Try.underlying25 hi hz0 .i64 .i64 (n : Int) (n : Int) (by omega) (by omega) (by rw [hz2]; omega) (by omega)
  simp only [hz1, Int.toNat_natCast, madeI] at km
  have hOL : okL n (insA cs cs.length) := by rw [hn]; exact okL_of hok (insA_is hok)
  obtain ⟨S, hS⟩ : ∃ S, S = insA cs cs.length := ⟨_, rfl⟩
  simp only [← hS] at ks hOL ⊢
  have KM := Lib.hid km
  have HOK := Lib.hid hOL
  have HN2 := Lib.hid hn2
  have KST := Lib.hid ks
  have b1 : ¬ bud < -1 := by omega
  have b2 : ¬ bud = -1 := by omega
  clear hC hn hok hn2 hi hz0 hz1 hz2 km hOL hS ks hbud
  go_enter Try.func9, Try.ntmps9
  go_wp2_with (first | (go_at_call 17; (with_reducible refine kv.mono ?_); rintro e w1 ⟨rfl, hb⟩; have BW := Lib.hid hb; have hmk := KM.out w1; have k2 := KST.out _ (hb.trans ((below_alloc (Below.refl w1.heap.size w1) (.cells (cI (List.replicate n 0)) 3)).mono hb.size)); have HG0 := Lib.hid (Blk.new w1 3 (cI (List.replicate n 0))); clear hb kv) | (go_at_call 18; (with_reducible refine k2.mono ?_); rintro e w2 ⟨v, rfl, ho, hb⟩; obtain ⟨s, ms, rfl, hH⟩ := ownE_holds ho rfl; have HNE := Lib.hid (own_ne ho); have HH := Lib.hid hH; have HG := Lib.hid (HG0.out.below hb); have B2 := Lib.hid ((below_alloc (Below.refl w1.heap.size w1) (.cells (cI (List.replicate n 0)) 3)).trans (hb.mono (below_alloc (Below.refl w1.heap.size w1) (.cells (cI (List.replicate n 0)) 3)).size)); clear hb ho hH k2) | fail)
  clear hmk
  obtain ⟨q, hq⟩ : ∃ x, x = S.length := ⟨_, rfl⟩
  rw [← hq]
  have HQ := Lib.hid hq
  clear hq
  go_loopw [10, 44] (fun rt i wr => ∃ k : Nat, ∃ rate : Int, ∃ ch : List Int, k ≤ q ∧ rt = .int .i64 rate ∧ i = .int .i64 (k : Int) ∧ Hid (ch.length = n ∧ 0 ≤ rate ∧ rate ≤ k * 65535 ∧ wth bud rate (S.drop k) ch = wth bud 0 S (List.replicate n 0)) ∧ Hid (Blk wr w1.heap.size 3 (cI ch)) ∧ Hid (Below w1.heap.size w1 wr) ∧ Hid (HoldsE encB wr s S)) (fun _ i _ => q - (intOf i).toNat)
  case atStart => exact ⟨0, 0, List.replicate n 0, Nat.zero_le _, rfl, rfl, Lib.hid ⟨by simp, by omega, by simp, by rw [List.drop_zero]⟩, HG, B2, HH⟩
  case round =>
    obtain ⟨k, rate, ch, hk, rfl, rfl, hI, hL, hB, hE⟩ := hrel
    obtain ⟨w0, rfl⟩ : ∃ w0 : World, w0 = wr := ⟨_, rfl⟩
    have hn9 := HN2.out
    have hq9 : q ≤ 100000000 := by have h1 := HQ.out; have h2 := HOK.out.1; omega
    by_cases hlt : k < q
    · have hkc : k < S.length := by have := HQ.out; omega
      obtain ⟨b, off, rfl⟩ := hE.out.some (by omega)
      obtain ⟨c0, c1, c2, c3⟩ := hE.out.atB hkc
      have hW := wth_at (b := bud) hkc rate ch
      have hs := HOK.out.2 _ (getD_mem hkc)
      obtain ⟨sc, sp, sd, sr, hst⟩ : ∃ sc sp sd sr, S.getD k default = ⟨sc, sp, sd, sr⟩ := ⟨_, _, _, _, rfl⟩
      rw [hst] at c0 c1 c2 c3 hW hs
      dsimp only at c0 c1 c2 c3 hW hs
      have HW := Lib.hid hW
      obtain ⟨i1, i2, i3, i4⟩ := hI.out
      obtain ⟨s1, s2, s3⟩ := hs
      have hw : IntKind.i64.wrap (rate + sr) = rate + sr := by rw [IntWalk.i64_left]; unfold wrap64; omega
      have j0 : 0 ≤ rate + sr := by omega
      have j1 : rate + sr ≤ ((k + 1 : Nat) : Int) * 65535 := by rw [Int.natCast_add, Int.add_mul]; omega
      have J := Lib.hid (show 0 ≤ rate + sr ∧ rate + sr ≤ ((k + 1 : Nat) : Int) * 65535 from ⟨j0, j1⟩)
      have hA := hL.out.alloc (.cells #[.int .i64 sd, .int .i64 sr, .int .i64 (sc : Int), .int .i64 (sp : Int)] 45)
      have d0 := hA.cell sc
      rw [cI_get (by omega)] at d0
      have d1 := hA.free sc
      have HA := Lib.hid (show Blk ((w0.alloc (.cells #[.int .i64 sd, .int .i64 sr, .int .i64 (sc : Int), .int .i64 (sp : Int)] 45)).setCell ⟨w1.heap.size, sc, none⟩ (.int .i64 (sp : Int))) w1.heap.size 3 (cI (ch.set sc (sp : Int))) by
        have h := hA.set sc (.int .i64 (sp : Int))
        rw [cI_set] at h
        exact h)
      have HX := Lib.hid hA
      have HB0 := Lib.hid (below_alloc hB.out (.cells #[.int .i64 sd, .int .i64 sr, .int .i64 (sc : Int), .int .i64 (sp : Int)] 45))
      have HB := Lib.hid (show Below w1.heap.size w1 ((w0.alloc (.cells #[.int .i64 sd, .int .i64 sr, .int .i64 (sc : Int), .int .i64 (sp : Int)] 45)).setCell ⟨w1.heap.size, sc, none⟩ (.int .i64 (sp : Int))) from (below_alloc hB.out _).setCell (Nat.le_refl _) _)
      have HE2 := Lib.hid (holdsE_far (hE.out.below (below_alloc (Below.refl w0.heap.size w0) (.cells #[.int .i64 sd, .int .i64 sr, .int .i64 (sc : Int), .int .i64 (sp : Int)] 45)) (Nat.le_refl _)) HNE.out sc (.int .i64 (sp : Int)))
      have z0 : (0 : Int) ≤ (sc : Int) := by omega
      have z1 : (sc : Int) < (n : Int) := by omega
      have I1 := Lib.hid i1
      clear hA hst hW hkc s1 s2 s3 j0 j1 i1 i2 i3 i4
      generalize ch.getD sc 0 = old at d0
      by_cases hgt : bud < rate + sr
      · have hch : ch = wth bud 0 S (List.replicate n 0) := by rw [← hI.out.2.2.2, HW.out, if_pos hgt]
        have HCH := Lib.hid hch
        clear hch
        go_wp2_with fail
        go_ret2
        exact ⟨w1.heap.size, rfl, by rw [← HCH.out]; exact HX.out, BW.out.trans (HB0.out.mono BW.out.size)⟩
      · have hch : wth bud (rate + sr) (S.drop (k + 1)) (ch.set sc (sp : Int)) = wth bud 0 S (List.replicate n 0) := by rw [← hI.out.2.2.2, HW.out, if_neg hgt]
        have HCH := Lib.hid hch
        clear hch
        go_wp2_with fail
        go_roundw
        case rel => exact ⟨k + 1, rate + sr, _, by omega, rfl, by go_num, Lib.hid ⟨by rw [List.length_set]; exact I1.out, J.out.1, J.out.2, HCH.out⟩, HA, HB, HE2⟩
        case measure => simp [intOf]; omega
    · obtain rfl : k = q := by omega
      have hd : S.drop k = [] := List.drop_eq_nil_of_le (by have := HQ.out; omega)
      have hch : ch = wth bud 0 S (List.replicate n 0) := by rw [← hI.out.2.2.2, hd]; rfl
      have HCH := Lib.hid hch
      clear hch hd
      go_wp2_with fail
      go_ret2
      exact ⟨w1.heap.size, rfl, by rw [← HCH.out]; exact hL.out, BW.out.trans (hB.out.mono BW.out.size)⟩
theorem rchoose_y (KS : StepsOk) (a : Option Addr) (n m : Nat) (b : Int) (cs : List Cv) (W : World) (hC : HoldsCv W a cs) (hn : n = cs.length) (hok : okC cs) (hb : -1 ≤ b) :
    Calls Try.prog 9 #[.slice a n m, .int .i64 b] W fun e w' => ∃ g, e = .returned (.tuple #[.slice (some ⟨g, 0, none⟩) n n, .int .i64 0]) ∧ Blk w' g 3 (cI (chs cs b)) ∧ Below W.heap.size W w' := by
  by_cases h : b = -1
  · subst h
    rw [show chs cs (-1) = lastL cs from if_pos rfl]
    exact rchoose_last a n m cs W hC hn hok
  · rw [show chs cs b = wth b 0 (insA cs cs.length) (List.replicate n 0) by rw [hn]; exact if_neg h]
    exact rchoose_wth KS a n m b cs W hC hn hok (by omega)
end Go.Proofs.Ytkohdiajpdlkjaa
