/-
  Layer 27: contracts of rest, code and reference.
-/
import Derived.Test.YtpnnmibdboelpaaCm
import Derived.Test.YtpnnmibdboelpaaCc
set_option maxRecDepth 100000
namespace Go.Proofs.Ytpnnmibdboelpaa
open Go.RowKit

theorem Blk.two' {w : World} {g : Nat} {t : TypeId} {a b : Value} (h : Blk w g t #[a, b]) : w.cell? ⟨g, 0, none⟩ = some a ∧ w.cell? ⟨g, 1, none⟩ = some b := ⟨h.cell 0, h.cell 1⟩
theorem load_span {W : World} {g : Nat} {a b : Value} (B : Blk W g 36 #[a, b]) : (loadVar 36 ⟨g, 0, none⟩).run Try.prog W = .ok (.agg #[a, b]) W := by
  obtain ⟨c0, c1⟩ := B.two'
  simp [loadVar, go_sem, c0, c1]
theorem results_st {fn : Func} {p u : Tmp} (h : fn.results = #[.cell p 36, .tmp u]) (tmps : Array Value) {W : World} {g : Nat} {a b x : Value} (hp : tmps.getD p undef = .pointer (some ⟨g, 0, none⟩)) (hu : tmps.getD u undef = x) (B : Blk W g 36 #[a, b]) :
    (results fn tmps).run Try.prog W = .ok (.tuple #[.agg #[a, b], x]) W := by
  rw [results_cell_tmp h, hp, hu]
  have e : (asAddr (.pointer (some ⟨g, 0, none⟩))).run Try.prog W = .ok (⟨g, 0, none⟩ : Addr) W := rfl
  rw [e]
  simp only [Result.andThen]
  rw [load_span B]
structure Rt where
  f : Int
  t : Int
  e : Int
def rt (bs : List Int) (A : Nat) (n c : Int) : Rt :=
  if n > (bs.length : Int) - ((A : Int) + 11) then ⟨0, 0, 7⟩ else if Ck.crc (sub bs A 11 n.toNat) ≠ c then ⟨0, 0, 17⟩ else ⟨(A : Int) + 11, (A : Int) + 11 + n, 0⟩
theorem rt_cases (bs : List Int) (A : Nat) (n c : Int) (h0 : 0 ≤ n) : (((bs.length : Int) - ((A : Int) + 11) < n) ∧ rt bs A n c = ⟨0, 0, 7⟩) ∨
    (∃ N : Nat, n = N ∧ A + 11 + N ≤ bs.length ∧ ((Ck.crc (sub bs A 11 N) ≠ c ∧ rt bs A n c = ⟨0, 0, 17⟩) ∨ (Ck.crc (sub bs A 11 N) = c ∧ rt bs A n c = ⟨(A : Int) + 11, (A : Int) + 11 + n, 0⟩))) := by
  unfold rt
  by_cases h1 : n > (bs.length : Int) - ((A : Int) + 11)
  · left; exact ⟨h1, by rw [if_pos h1]⟩
  · right
    rw [if_neg h1]
    refine ⟨n.toNat, by omega, by omega, ?_⟩
    by_cases h2 : Ck.crc (sub bs A 11 n.toNat) = c
    · right; exact ⟨h2, by rw [if_neg (fun h => h h2)]⟩
    · left; exact ⟨h2, by rw [if_pos h2]⟩
def GivesRt (r : Rt) (w : World) (e : Ending) (w' : World) : Prop := e = .returned (.tuple #[.agg #[.int .i64 r.f, .int .i64 r.t], .int .i64 r.e]) ∧ Below w.heap.size w w'
/-- The part that is checked, as a slice. -/
theorem part_p {w : World} {b off : Nat} {bs : List Int} (h : HoldsB w (some ⟨b, off, none⟩) bs) (A N m : Nat) (p : Option Addr) (hp : p = if m = A + 11 then some ⟨b, off, none⟩ else some ⟨b, off + (A + 11), none⟩) (hN : A + 11 + N ≤ bs.length) (hm : bs.length ≤ m) : HoldsB w p (sub bs A 11 N) := by
  by_cases h1 : m = A + 11
  · have : N = 0 := by omega
    subst this
    exact .inl (by simp [sub])
  · rw [hp, if_neg h1]
    exact sub_holds h A 11 N
set_option maxHeartbeats 2000000 in
theorem rest_c (bs : List Int) (s : Option Addr) (m A : Nat) (q n c : Int) (w : World) (hH : HoldsB w s bs) (hB : Mk.bytes bs) (hm : bs.length ≤ m) (hl : bs.length ≤ 1000000) (hA : A + 11 ≤ bs.length) (hn : 0 ≤ n ∧ n < 4294967296) :
    Calls Try.prog 25 #[.agg #[.int .i64 q, .int .i64 n, .int .i64 c], .slice s bs.length m, .int .i64 (A : Int)] w (GivesRt (rt bs A n c) w) := by
  obtain ⟨W0, hW0⟩ : ∃ W0, W0 = (w.alloc (.cells #[.int .i64 q, .int .i64 n, .int .i64 c] 62)).alloc (.cells #[.int .i64 0, .int .i64 0] 36) := ⟨_, rfl⟩
  have HB := Lib.hid (show Below w.heap.size w W0 by rw [hW0]; exact ((Below.refl _ _).alloc (Nat.le_refl _) _).alloc (by simp) _)
  have HM := Lib.hid (show Blk W0 w.heap.size 62 #[.int .i64 q, .int .i64 n, .int .i64 c] by rw [hW0]; exact (Blk.new _ _ _).alloc _)
  have HK := Lib.hid (show Blk W0 (w.heap.size + 1) 36 #[.int .i64 0, .int .i64 0] by
    rw [hW0]
    have := Blk.new (w.alloc (.cells #[.int .i64 q, .int .i64 n, .int .i64 c] 62)) 36 #[.int .i64 0, .int .i64 0]
    simpa using this)
  have HW0 := Lib.hid hW0
  have HH := Lib.hid (hH.call HB.out)
  obtain ⟨c0, c1, c2⟩ := HM.out.three
  obtain ⟨s0, s1⟩ := HK.out.two'
  have f0 := HK.out.free 0
  have f1 := HK.out.free 1
  clear hH hW0
  have w1 : IntKind.i64.wrap ((A : Int) + 11) = (A : Int) + 11 := IntWalk.i64_in _ (by omega)
  rcases rt_cases bs A n c hn.1 with ⟨h, e⟩ | ⟨N, rfl, hN, hc⟩
  · rw [e]; clear e
    have d1 : decide ((bs.length : Int) - ((A : Int) + 11) < n) = true := decide_eq_true h
    go_enter Try.func25, Try.ntmps25
    go_upto_region 1 with fail
    rw [← HW0.out]
    go_wp2_with fail
    refine bodyPost_ret (results_st rfl _ rfl rfl (HK.out.set2 _ _)) rfl ?_
    exact ⟨rfl, (HB.out.setCell (by simp) _).setCell (by simp) _⟩
  · have d1 : decide ((bs.length : Int) - ((A : Int) + 11) < (N : Int)) = false := decide_eq_false (by omega)
    obtain ⟨b, off, rfl, hr⟩ : ∃ b off, s = some ⟨b, off, none⟩ ∧ HoldsB W0 (some ⟨b, off, none⟩) bs := by
      rcases HH.out with h | ⟨b, off, e, hr⟩
      · exfalso; rw [h] at hA; simp at hA
      · exact ⟨b, off, e, .inr ⟨b, off, rfl, hr⟩⟩
    obtain ⟨p, hp⟩ : ∃ p, (if m = A + 11 then some (⟨b, off, none⟩ : Addr) else some ⟨b, off + (A + 11), none⟩) = p := ⟨_, rfl⟩
    have kc : ∀ k, Calls Try.prog 9 #[.slice p N (m - (A + 11))] (W0.drewN k) (fun e w' => e = .returned (.int .i64 (Ck.crc (sub bs A 11 N))) ∧ w' = W0.drewN k) := fun k => by
      have h0 := checksum_c (sub bs A 11 N) p (m - (A + 11)) (W0.drewN k) ((part_p hr A N m p hp.symm hN hm).call (drewN_below'' W0 k)) (sub_bytes hB _ _ _) (by rw [sub_len (by omega)]; omega)
      rw [sub_len (by omega)] at h0
      exact h0.mono fun e w' z => ⟨z.1, z.2.symm⟩
    have w2 : IntKind.i64.wrap ((A : Int) + 11 + (N : Int)) = (A : Int) + 11 + N := IntWalk.i64_in _ (by omega)
    have a1 : (A : Int) + 11 ≤ (A : Int) + 11 + N := by omega
    have a2 : (A : Int) + 11 + N ≤ (m : Int) := by omega
    have a3 : (0 : Int) ≤ (A : Int) + 11 := by omega
    have a4 : ((A : Int) + 11).toNat = A + 11 := by omega
    have a5 : ((A : Int) + 11 + (N : Int)).toNat = A + 11 + N := by omega
    have a6 : A + 11 + N - (A + 11) = N := by omega
    have a7 : (0 : Int) ≤ (A : Int) + 11 + N := by omega
    have a8 : A + 11 + N ≤ m := by omega
    have a9 : A + 11 ≤ m := by omega
    clear hr
    rcases hc with ⟨h, e⟩ | ⟨h, e⟩
    · rw [e]; clear e
      generalize Ck.crc (sub bs A 11 N) = X at *
      have b1 : (X == c) = false := by simpa using h
      have b2 : (X != c) = true := by simpa using h
      clear h
      go_enter Try.func25, Try.ntmps25
      go_upto_region 1 with fail
      rw [← HW0.out]
      go_upto_region 4 with fail
      go_quiet ((go_at_call 9; with_reducible exact Calls.quiet_of_same (kc _)))
      go_wp2_with fail
      have HK2 := Lib.hid (HK.out.below (drewN_below'' W0 nq))
      refine bodyPost_ret (results_st rfl _ rfl rfl (HK2.out.set2 _ _)) rfl ?_
      exact ⟨rfl, ((HB.out.trans ((drewN_below'' W0 nq).mono HB.out.size)).setCell (by simp) _).setCell (by simp) _⟩
    · rw [e]; clear e
      rw [h] at kc
      have b1 : (c == c) = true := by simp
      have b2 : (c != c) = false := by simp
      clear h
      go_enter Try.func25, Try.ntmps25
      go_upto_region 1 with fail
      rw [← HW0.out]
      go_upto_region 4 with fail
      go_quiet ((go_at_call 9; with_reducible exact Calls.quiet_of_same (kc _)))
      go_wp2_with fail
      have HK2 := Lib.hid (HK.out.below (drewN_below'' W0 nq))
      refine bodyPost_ret (results_st rfl _ rfl rfl (HK2.out.set2 _ _)) rfl ?_
      exact ⟨rfl, ((HB.out.trans ((drewN_below'' W0 nq).mono HB.out.size)).setCell (by simp) _).setCell (by simp) _⟩
set_option maxHeartbeats 2000000 in
theorem rrest_c (bs : List Int) (s : Option Addr) (m A : Nat) (n c : Int) (w : World) (hH : HoldsB w s bs) (hB : Mk.bytes bs) (hm : bs.length ≤ m) (hl : bs.length ≤ 1000000) (hA : A + 11 ≤ bs.length) (hn : 0 ≤ n ∧ n < 4294967296) :
    Calls Try.prog 27 #[.slice s bs.length m, .int .i64 (A : Int), .int .i64 n, .int .i64 c] w (GivesRt (rt bs A n c) w) := by
  obtain ⟨W0, hW0⟩ : ∃ W0, W0 = w.alloc (.cells #[.int .i64 0, .int .i64 0] 36) := ⟨_, rfl⟩
  have HB := Lib.hid (show Below w.heap.size w W0 by rw [hW0]; exact (Below.refl _ _).alloc (Nat.le_refl _) _)
  have HK := Lib.hid (show Blk W0 w.heap.size 36 #[.int .i64 0, .int .i64 0] by rw [hW0]; exact Blk.new _ _ _)
  have HW0 := Lib.hid hW0
  have HH := Lib.hid (hH.call HB.out)
  obtain ⟨s0, s1⟩ := HK.out.two'
  have f0 := HK.out.free 0
  have f1 := HK.out.free 1
  clear hH hW0
  have w1 : IntKind.i64.wrap ((A : Int) + 11) = (A : Int) + 11 := IntWalk.i64_in _ (by omega)
  rcases rt_cases bs A n c hn.1 with ⟨h, e⟩ | ⟨N, rfl, hN, hc⟩
  · rw [e]; clear e
    have d1 : decide ((bs.length : Int) - (A : Int) - 11 < n) = true := decide_eq_true (by omega)
    go_enter Try.func27, Try.ntmps27
    go_upto_region 1 with fail
    rw [← HW0.out]
    go_wp2_with fail
    refine bodyPost_ret (results_st rfl _ rfl rfl (HK.out.set2 _ _)) rfl ?_
    exact ⟨rfl, (HB.out.setCell (Nat.le_refl _) _).setCell (Nat.le_refl _) _⟩
  · have d1 : decide ((bs.length : Int) - (A : Int) - 11 < (N : Int)) = false := decide_eq_false (by omega)
    obtain ⟨b, off, rfl, hr⟩ : ∃ b off, s = some ⟨b, off, none⟩ ∧ HoldsB W0 (some ⟨b, off, none⟩) bs := by
      rcases HH.out with h | ⟨b, off, e, hr⟩
      · exfalso; rw [h] at hA; simp at hA
      · exact ⟨b, off, e, .inr ⟨b, off, rfl, hr⟩⟩
    obtain ⟨p, hp⟩ : ∃ p, (if m = A + 11 then some (⟨b, off, none⟩ : Addr) else some ⟨b, off + (A + 11), none⟩) = p := ⟨_, rfl⟩
    have kc : Calls Try.prog 10 #[.slice p N (m - (A + 11))] W0 (fun e w' => e = .returned (.int .i64 (Ck.crc (sub bs A 11 N))) ∧ W0 = w') := by
      have h0 := rchecksum_c (sub bs A 11 N) p (m - (A + 11)) W0 (part_p hr A N m p hp.symm hN hm) (sub_bytes hB _ _ _) (by rw [sub_len (by omega)]; omega)
      rwa [sub_len (by omega)] at h0
    have w2 : IntKind.i64.wrap ((A : Int) + 11 + (N : Int)) = (A : Int) + 11 + N := IntWalk.i64_in _ (by omega)
    have a1 : (A : Int) + 11 ≤ (A : Int) + 11 + N := by omega
    have a2 : (A : Int) + 11 + N ≤ (m : Int) := by omega
    have a3 : (0 : Int) ≤ (A : Int) + 11 := by omega
    have a4 : ((A : Int) + 11).toNat = A + 11 := by omega
    have a5 : ((A : Int) + 11 + (N : Int)).toNat = A + 11 + N := by omega
    have a6 : A + 11 + N - (A + 11) = N := by omega
    have a7 : (0 : Int) ≤ (A : Int) + 11 + N := by omega
    have a8 : A + 11 + N ≤ m := by omega
    have a9 : A + 11 ≤ m := by omega
    clear hr
    rcases hc with ⟨h, e⟩ | ⟨h, e⟩
    · rw [e]; clear e
      generalize Ck.crc (sub bs A 11 N) = X at *
      have b1 : (X == c) = false := by simpa using h
      have b2 : (X != c) = true := by simpa using h
      clear h
      go_enter Try.func27, Try.ntmps27
      go_upto_region 1 with fail
      rw [← HW0.out]
      go_wp2_with (first | (go_at_call 10; (with_reducible refine kc.mono ?_); rintro e wn ⟨rfl, rfl⟩) | fail)
      refine bodyPost_ret (results_st rfl _ rfl rfl (HK.out.set2 _ _)) rfl ?_
      exact ⟨rfl, (HB.out.setCell (Nat.le_refl _) _).setCell (Nat.le_refl _) _⟩
    · rw [e]; clear e
      rw [h] at kc
      have b1 : (c == c) = true := by simp
      have b2 : (c != c) = false := by simp
      clear h
      go_enter Try.func27, Try.ntmps27
      go_upto_region 1 with fail
      rw [← HW0.out]
      go_wp2_with (first | (go_at_call 10; (with_reducible refine kc.mono ?_); rintro e wn ⟨rfl, rfl⟩) | fail)
      refine bodyPost_ret (results_st rfl _ rfl rfl (HK.out.set2 _ _)) rfl ?_
      exact ⟨rfl, (HB.out.setCell (Nat.le_refl _) _).setCell (Nat.le_refl _) _⟩
end Go.Proofs.Ytpnnmibdboelpaa
