/-
  Layers 1 to 5, the base: ExtC, LiftC of one piece.
-/
import Derived.Test.YtoplgnckdmkaoaaBsE
import Derived.Test.YtoplgnckdmkaoaaBsF
import Derived.Shelf.Abstract
import Derived.Lib.SliceRun
set_option maxRecDepth 100000
namespace Go.Proofs.Ytoplgnckdmkaoaa
open Go.RowKit

set_option maxHeartbeats 1000000 in
theorem vm_q (i : Int) (w : World) : Calls Try.prog 178 #[.int .i64 i] w fun e w' => e = .returned (.bool (viB i)) ∧ w = w' := by
  go_enter Try.func178, Try.ntmps178
  go_wp2
  all_goals
    go_ret
    exact ⟨ret_bool (by simp [viB]; try omega), rfl⟩
def ogB (n : Int) : Bool := decide (0 ≤ n ∧ n ≤ 4096)
theorem og_iff {n : Int} : ogB n = true ↔ (0 ≤ n ∧ n ≤ 4096) := by simp [ogB]
set_option maxHeartbeats 1000000 in
theorem og_q (n : Int) (w : World) : Calls Try.prog 151 #[.int .i64 n] w fun e w' => e = .returned (.bool (ogB n)) ∧ w = w' := by
  go_enter Try.func151, Try.ntmps151
  go_wp2
  all_goals
    go_ret
    exact ⟨ret_bool (by simp [ogB]; try omega), rfl⟩
def evB (n : Int) : Bool := decide (n % 2 = 0)
theorem ev_q (n : Int) (h0 : 0 ≤ n) (w : World) : Calls Try.prog 153 #[.int .i64 n] w fun e w' => e = .returned (.bool (evB n)) ∧ w = w' := by
  have t1 : n.tmod 2 = n % 2 := Int.tmod_eq_emod_of_nonneg h0
  go_enter Try.func153, Try.ntmps153
  go_wp2
  go_ret
  exact ⟨ret_bool (by simp [evB]), rfl⟩
theorem eb_q (n : Int) (h0 : 0 ≤ n) (h1 : n ≤ 1000000) (w : World) : Calls Try.prog 173 #[.int .i64 n] w fun e w' => e = .returned (.int .i64 ((n + 1) / 2)) ∧ w = w' := by
  have w1 : IntKind.i64.wrap (n + 1) = n + 1 := IntWalk.i64_in _ (by omega)
  have t1 : (n + 1).tdiv 2 = (n + 1) / 2 := Int.tdiv_eq_ediv_of_nonneg (by omega)
  have w2 : IntKind.i64.wrap ((n + 1) / 2) = (n + 1) / 2 := IntWalk.i64_in _ (by omega)
  go_enter Try.func173, Try.ntmps173
  go_wp2
  go_ret
  exact ⟨rfl, rfl⟩
set_option maxRecDepth 100000 in
set_option maxHeartbeats 1000000 in
theorem mir_q (i lo hi : Int) (w : World) : Calls Try.prog 175 #[.int .i64 i, .int .i64 lo, .int .i64 hi] w fun e w' => e = .returned (.int .i64 (mirV i lo hi)) ∧ w = w' := by
  by_cases h0 : lo < hi
  · have h0' : ¬ hi ≤ lo := by omega
    by_cases hi0 : viB i = true
    · by_cases hl0 : viB lo = true
      · by_cases hh0 : viB hi = true
        · have e : mirV i lo hi = Ex.mirI i lo hi := if_pos ⟨h0, hi0, hl0, hh0⟩
          have b1 := vi_iff.1 hi0
          have b2 := vi_iff.1 hl0
          have b3 := vi_iff.1 hh0
          have w1 : IntKind.i64.wrap (hi - lo) = hi - lo := IntWalk.i64_in _ (by omega)
          by_cases hone : hi - lo = 1
          · go_enter Try.func175, Try.ntmps175
            go_wp2_with (go_at_call 178; refine (vm_q _ _).mono ?_; rintro e wn ⟨rfl, rfl⟩)
            go_ret
            exact ⟨ret_int (by rw [e, Ex.mirI, if_pos hone]), rfl⟩
          · obtain ⟨N, hN⟩ : ∃ N, hi - lo = N := ⟨_, rfl⟩
            obtain ⟨Q, hQ⟩ : ∃ Q, 2 * (N - 1) = Q := ⟨_, rfl⟩
            obtain ⟨D, hD⟩ : ∃ D, i - lo = D := ⟨_, rfl⟩
            have hQ0 : 0 < Q := by omega
            have key : mirV i lo hi = if D % Q < N then lo + D % Q else lo + Q - D % Q := by rw [e, Ex.mirI, if_neg hone, hN, hQ, hD]
            obtain ⟨T, hT⟩ : ∃ T, D.tmod Q = T := ⟨_, rfl⟩
            have q0 := Int.emod_nonneg D (show Q ≠ 0 by omega)
            have q1 := Int.emod_lt_of_pos D hQ0
            have ht := tmod_is (a := D) hQ0
            rw [hT] at ht
            have w2 : IntKind.i64.wrap (N - 1) = N - 1 := IntWalk.i64_in _ (by omega)
            have w3 : IntKind.i64.wrap (2 * (N - 1)) = Q := by rw [IntWalk.i64_in _ (by omega)]; omega
            have w3' : wrap64 (2 * (N - 1)) = Q := by rw [IntWalk.wrap64_in _ ⟨by omega, by omega⟩]; omega
            have w4 : IntKind.i64.wrap (i - lo) = D := by rw [IntWalk.i64_in _ (by omega)]; omega
            have hQn : ¬ Q = 0 := by omega
            have hNn : ¬ N = 1 := by omega
            rw [hN] at w1
            have w1' : IntKind.i64.wrap (hi - lo) = N := by rw [hN]; exact w1
            have hQb : Q ≤ 1125899906842624 := by omega
            have hNb : N ≤ 1125899906842624 := by omega
            clear w1
            generalize D % Q = E at *
            have HK : Hid _ := key
            clear key e hQ hN hD hone b1 h0
            rcases ht with ⟨ht, rfl⟩ | ⟨ht, rfl⟩
            · have t0 : ¬ T < 0 := by omega
              by_cases hlt : T < N
              · have w5 : IntKind.i64.wrap (lo + T) = lo + T := IntWalk.i64_in _ (by omega)
                go_enter Try.func175, Try.ntmps175
                go_wp2_with (go_at_call 178; refine (vm_q _ _).mono ?_; rintro e wn ⟨rfl, rfl⟩)
                go_ret
                exact ⟨ret_int (by rw [HK.out, if_pos hlt]), rfl⟩
              · have w6 : IntKind.i64.wrap (lo + Q) = lo + Q := IntWalk.i64_in _ (by omega)
                have w7 : IntKind.i64.wrap (lo + Q - T) = lo + Q - T := IntWalk.i64_in _ (by omega)
                go_enter Try.func175, Try.ntmps175
                go_wp2_with (go_at_call 178; refine (vm_q _ _).mono ?_; rintro e wn ⟨rfl, rfl⟩)
                go_ret
                exact ⟨ret_int (by rw [HK.out, if_neg (by omega)]), rfl⟩
            · have w8 : IntKind.i64.wrap (T + Q) = T + Q := IntWalk.i64_in _ (by omega)
              by_cases hlt : T + Q < N
              · have w5 : IntKind.i64.wrap (lo + (T + Q)) = lo + (T + Q) := IntWalk.i64_in _ (by omega)
                go_enter Try.func175, Try.ntmps175
                go_wp2_with (go_at_call 178; refine (vm_q _ _).mono ?_; rintro e wn ⟨rfl, rfl⟩)
                go_ret
                exact ⟨ret_int (by rw [HK.out, if_pos hlt]), rfl⟩
              · have w6 : IntKind.i64.wrap (lo + Q) = lo + Q := IntWalk.i64_in _ (by omega)
                have w7 : IntKind.i64.wrap (lo + Q - (T + Q)) = lo + Q - (T + Q) := IntWalk.i64_in _ (by omega)
                go_enter Try.func175, Try.ntmps175
                go_wp2_with (go_at_call 178; refine (vm_q _ _).mono ?_; rintro e wn ⟨rfl, rfl⟩)
                go_ret
                exact ⟨ret_int (by rw [HK.out, if_neg (by omega)]), rfl⟩
        · have hx : viB hi = false := by simpa using hh0
          have e : mirV i lo hi = 0 := if_neg (by rw [hx]; simp)
          go_enter Try.func175, Try.ntmps175
          go_wp2_with (go_at_call 178; refine (vm_q _ _).mono ?_; rintro e wn ⟨rfl, rfl⟩)
          go_ret
          exact ⟨ret_int (by first | rfl | exact e.symm), rfl⟩
      · have hx : viB lo = false := by simpa using hl0
        have e : mirV i lo hi = 0 := if_neg (by rw [hx]; simp)
        go_enter Try.func175, Try.ntmps175
        go_wp2_with (go_at_call 178; refine (vm_q _ _).mono ?_; rintro e wn ⟨rfl, rfl⟩)
        go_ret
        exact ⟨ret_int (by first | rfl | exact e.symm), rfl⟩
    · have hx : viB i = false := by simpa using hi0
      have e : mirV i lo hi = 0 := if_neg (by rw [hx]; simp)
      go_enter Try.func175, Try.ntmps175
      go_wp2_with (go_at_call 178; refine (vm_q _ _).mono ?_; rintro e wn ⟨rfl, rfl⟩)
      go_ret
      exact ⟨ret_int (by first | rfl | exact e.symm), rfl⟩
  · have h0' : hi ≤ lo := by omega
    have e : mirV i lo hi = 0 := if_neg (fun h => h0 h.1)
    go_enter Try.func175, Try.ntmps175
    go_wp2_with (go_at_call 178; refine (vm_q _ _).mono ?_; rintro e wn ⟨rfl, rfl⟩)
    go_ret
    exact ⟨ret_int (by first | rfl | exact e.symm), rfl⟩
set_option maxHeartbeats 1000000 in
theorem cnt_q (s n : Int) (w : World) : Calls Try.prog 152 #[.int .i64 s, .int .i64 n] w fun e w' => e = .returned (.tuple #[.int .i64 (ceI s n), .int .i64 (coI s n)]) ∧ w = w' := by
  cases hs : ogB s with
  | false =>
    have hh : ¬ (0 ≤ s ∧ s ≤ 4096 ∧ 0 ≤ n ∧ n ≤ 4096) := fun h => by rw [og_iff.2 ⟨h.1, h.2.1⟩] at hs; exact absurd hs (by decide)
    rw [show ceI s n = 0 from if_neg hh, show coI s n = 0 from if_neg hh]
    clear hh
    go_enter Try.func152, Try.ntmps152
    go_wp2_with (go_at_call 151; refine (og_q _ _).mono ?_; rintro e wn ⟨rfl, rfl⟩)
    go_ret2
    exact ⟨rfl, rfl⟩
  | true =>
    cases hn : ogB n with
    | false =>
      have hh : ¬ (0 ≤ s ∧ s ≤ 4096 ∧ 0 ≤ n ∧ n ≤ 4096) := fun h => by rw [og_iff.2 ⟨h.2.2.1, h.2.2.2⟩] at hn; exact absurd hn (by decide)
      rw [show ceI s n = 0 from if_neg hh, show coI s n = 0 from if_neg hh]
      clear hh
      go_enter Try.func152, Try.ntmps152
      go_wp2_with (go_at_call 151; refine (og_q _ _).mono ?_; rintro e wn ⟨rfl, rfl⟩)
      go_ret2
      exact ⟨rfl, rfl⟩
    | true =>
      obtain ⟨h1, h2⟩ := og_iff.1 hs
      obtain ⟨h3, h4⟩ := og_iff.1 hn
      have w1 : IntKind.i64.wrap (s + n) = s + n := IntWalk.i64_in _ (by omega)
      have w4 : IntKind.i64.wrap ((s + n + 1) / 2 - (s + 1) / 2) = (s + n + 1) / 2 - (s + 1) / 2 := IntWalk.i64_in _ (by omega)
      have w5 : IntKind.i64.wrap (n - ((s + n + 1) / 2 - (s + 1) / 2)) = n - ((s + n + 1) / 2 - (s + 1) / 2) := IntWalk.i64_in _ (by omega)
      have hc : ceI s n = (s + n + 1) / 2 - (s + 1) / 2 := if_pos ⟨h1, h2, h3, h4⟩
      have ho : coI s n = n - ((s + n + 1) / 2 - (s + 1) / 2) := by rw [coI, if_pos ⟨h1, h2, h3, h4⟩, hc]
      rw [hc, ho]
      clear hc ho
      go_enter Try.func152, Try.ntmps152
      go_wp2_with (first | (go_at_call 151; refine (og_q _ _).mono ?_; rintro e wn ⟨rfl, rfl⟩) | (go_at_call 173; refine (eb_q _ (by omega) (by omega) _).mono ?_; rintro e wn ⟨rfl, rfl⟩))
      go_ret2
      exact ⟨rfl, rfl⟩
theorem mir_c (i lo hi : Int) (w : World) : Calls Try.prog 175 #[.int .i64 i, .int .i64 lo, .int .i64 hi] w fun e w' => e = .returned (.int .i64 (mirV i lo hi)) ∧ Below w.heap.size w w' :=
  (mir_q i lo hi w).mono fun _ _ h => ⟨h.1, h.2 ▸ Below.refl _ _⟩
theorem cnt_c (s n : Int) (w : World) : Calls Try.prog 152 #[.int .i64 s, .int .i64 n] w fun e w' => e = .returned (.tuple #[.int .i64 (ceI s n), .int .i64 (coI s n)]) ∧ Below w.heap.size w w' :=
  (cnt_q s n w).mono fun _ _ h => ⟨h.1, h.2 ▸ Below.refl _ _⟩
theorem g2_made {w W W1 : World} (h : Below w.heap.size w W) (h1 : Below W.heap.size W W1) {g1 g2 c1 c2 : Nat} {d1 d2 : Array Value} (hg1 : W.heap.size ≤ g1) (hg2 : W.heap.size ≤ g2) (hne : g1 ≠ g2) (hm1 : c1 ≤ maxLen) (hm2 : c2 ≤ maxLen) (hd1 : d1.size = c1) (hd2 : d2.size = c2)
    (hr1 : W1.heap[g1]? = some (.cells d1 3)) (hr2 : W1.heap[g2]? = some (.cells d2 3)) : G2 w (.slice (some ⟨g1, 0, none⟩) 0 c1) [] (.slice (some ⟨g2, 0, none⟩) 0 c2) [] W1 := by
  have hs := h.size
  refine ⟨⟨below_call h h1, ⟨rfl, .inr ⟨g1, c1, d1, rfl, by omega, hr1, Nat.zero_le _, hm1, by omega, by simp⟩⟩⟩, ⟨below_call h h1, ⟨rfl, .inr ⟨g2, c2, d2, rfl, by omega, hr2, Nat.zero_le _, hm2, by omega, by simp⟩⟩⟩, fun g e1 e2 => ?_⟩
  simp [Value.ownBlock] at e1 e2
  exact hne (e1.trans e2.symm)
theorem heap_two (w : World) (a b : Obj) : ((w.alloc a).alloc b).drew.heap[w.heap.size]? = some a ∧ ((w.alloc a).alloc b).drew.heap[w.heap.size + 1]? = some b := by
  refine ⟨?_, ?_⟩
  · exact (((Below.refl (w.alloc a).heap.size (w.alloc a)).alloc (Nat.le_refl _) b).block w.heap.size (by simp)).trans (heap_alloc_new w a)
  · have h := heap_alloc_new (w.alloc a) b
    rw [show (w.alloc a).heap.size = w.heap.size + 1 by simp] at h
    exact h
theorem mk_room (c : Nat) (hc : c ≤ 4096) (W : World) : (Instr.makeSlice 24 (.int .i64 0) (.int .i64 (c : Int))).run Try.prog W = .ok (.slice (some ⟨W.heap.size, 0, none⟩) 0 c) (W.alloc (zeroRow c)) := by
  obtain ⟨i0, hi, hz0, hz1, hz2⟩ := info_parts infoI
  have hr := run_make (P := Try.prog) W 24 3 i0 _ Try.underlying24 hi hz0 .i64 .i64 0 c (Int.le_refl _) (by omega) (by rw [hz2]; omega) (by omega)
  rw [hz1, Nat.mul_one, Int.toNat_natCast] at hr
  exact hr
theorem ev_t {n : Int} (h : n % 2 = 0) : evB n = true := by simp [evB, h]
theorem ev_f {n : Int} (h : ¬ n % 2 = 0) : evB n = false := by simp [evB, h]
set_option maxHeartbeats 1000000 in
theorem split_cno (l : List Int) (st : Int) (s : Option Addr) (m : Nat) (w : World) (hh : spB st l.length = false) : Calls Try.prog 138 #[.slice s l.length m, .int .i64 st] w (GivesSplit [] [] 2 w) := by
  have hh' : ¬ (0 ≤ st ∧ st ≤ 4096 ∧ l.length ≤ 4096) := fun h => by rw [sp_iff.2 h] at hh; exact absurd hh (by decide)
  cases hs : ogB st with
  | false =>
    clear hh hh'
    go_enter Try.func138, Try.ntmps138
    go_wp2_with (go_at_call 151; refine (og_q _ _).mono ?_; rintro e wn ⟨rfl, rfl⟩)
    go_ret3
    exact ⟨none, 0, none, 0, rfl, .inl rfl, .inl rfl, Below.refl _ _, ⟨Nat.le_refl _, fun _ => rfl, fresh_none _⟩, ⟨Nat.le_refl _, fun _ => rfl, fresh_none _⟩⟩
  | true =>
    obtain ⟨h1, h2⟩ := og_iff.1 hs
    have hn : ogB (l.length : Int) = false := by
      rw [Bool.eq_false_iff, Ne, og_iff]
      omega
    clear hh hh'
    go_enter Try.func138, Try.ntmps138
    go_wp2_with (go_at_call 151; refine (og_q _ _).mono ?_; rintro e wn ⟨rfl, rfl⟩)
    go_ret3
    exact ⟨none, 0, none, 0, rfl, .inl rfl, .inl rfl, Below.refl _ _, ⟨Nat.le_refl _, fun _ => rfl, fresh_none _⟩, ⟨Nat.le_refl _, fun _ => rfl, fresh_none _⟩⟩
set_option maxRecDepth 100000 in
set_option maxHeartbeats 1000000 in
theorem split_cyes (l : List Int) (st : Int) (s : Option Addr) (m : Nat) (w : World) (hh : spB st l.length = true) (hH : HoldsI w s l) : Calls Try.prog 138 #[.slice s l.length m, .int .i64 st] w (GivesSplit (Ex.splitE st l) (Ex.splitO st l) 0 w) := by
  obtain ⟨h1, h2, h3⟩ := sp_iff.1 hh
  obtain ⟨i0, hi, hz0, hz1, hz2⟩ := info_parts infoI
  have hs : ogB st = true := og_iff.2 ⟨h1, h2⟩
  have hn : ogB (l.length : Int) = true := og_iff.2 ⟨by omega, by omega⟩
  obtain ⟨ca, cb⟩ := ce_cnt (s := st) (n := l.length) h1 h2 h3
  have cc := (Ex.cnt_next (s := st) (k := l.length)).2.2
  obtain ⟨A0, hA⟩ : ∃ A0, Ex.cntE st l.length = A0 := ⟨_, rfl⟩
  obtain ⟨B0, hB⟩ : ∃ B0, Ex.cntO st l.length = B0 := ⟨_, rfl⟩
  rw [hA] at ca cc
  rw [hB] at cb cc
  have hA4 : A0 ≤ 4096 := by omega
  have hB4 : B0 ≤ 4096 := by omega
  clear hA hB cc
  have k1 := mk_room A0 hA4
  have k2 := mk_room B0 hB4
  go_enter Try.func138, Try.ntmps138
  go_wp2_with (first | (go_at_call 151; refine (og_q _ _).mono ?_; rintro e wn ⟨rfl, rfl⟩) | (go_at_call 152; refine (cnt_q _ _ _).mono ?_; rintro e wn ⟨rfl, rfl⟩) | fail)
  go_upto_region 4 with fail
  go_cut [4, 5] (fun s4 s5 wx => ∃ x1 x2 : Value, s4 = x1 ∧ s5 = x2 ∧ G2 w x1 [] x2 [] wx)
  case first =>
    go_region
    all_goals
      go_wp2
      go_meet
      have hh1 := heap_two w (zeroRow A0) (zeroRow B0)
      have hh2 := heap_two w (zeroRow B0) (zeroRow A0)
      have hb1 : Below w.heap.size w ((w.alloc (zeroRow A0)).alloc (zeroRow B0)).drew := ((((Below.refl _ w).alloc (Nat.le_refl _) _).alloc (by simp) _)).drew
      have hb2 : Below w.heap.size w ((w.alloc (zeroRow B0)).alloc (zeroRow A0)).drew := ((((Below.refl _ w).alloc (Nat.le_refl _) _).alloc (by simp) _)).drew
      have hmA : A0 ≤ maxLen := by unfold maxLen; omega
      have hmB : B0 ≤ maxLen := by unfold maxLen; omega
      first
        | exact ⟨_, _, rfl, rfl, g2_made (Below.refl _ _) hb1 (Nat.le_refl _) (Nat.le_succ _) (by omega) hmA hmB (size_madeCells _ _) (size_madeCells _ _) hh1.1 hh1.2⟩
        | exact ⟨_, _, rfl, rfl, g2_made (Below.refl _ _) hb2 (Nat.le_succ _) (Nat.le_refl _) (by omega) hmA hmB (size_madeCells _ _) (size_madeCells _ _) hh2.2 hh2.1⟩
  case rest =>
    obtain ⟨x1, x2, rfl, rfl, hG0⟩ := hcut
    clear k1 k2 hs hn ca cb hA4 hB4
    go_wp2_with fail
    go_loopw [4, 5, 9, 10, 33] (fun v1 v2 _ _ i wr => ∃ (k : Nat) (o1 o2 : List Int) (x1 x2 : Value), k ≤ l.length ∧ i = .int .i64 k ∧ o1 = Ex.splitE st (l.take k) ∧ o2 = Ex.splitO st (l.take k) ∧ x1 = v1 ∧ x2 = v2 ∧ G2 w x1 o1 x2 o2 wr) (fun _ _ _ _ i _ => l.length - (intOf i).toNat)
    case atStart => exact ⟨0, [], [], _, _, Nat.zero_le _, rfl, rfl, rfl, rfl, rfl, hG0⟩
    case round =>
      obtain ⟨k, o1, o2, x1, x2, hk, rfl, hO1, hO2, rfl, rfl, hG⟩ := hrel
      clear hG0
      by_cases hlt : k < l.length
      · rcases hH with rfl | ⟨bb, off, rfl, hr⟩
        · simp at hlt
        have y0 : wr.cell? ⟨bb, off + k, none⟩ = some (.int .i64 l[k]) := (hG.l1.below.cell (p := ⟨bb, _, none⟩) (cell_lt (hr k hlt))).trans (hr k hlt)
        have hki : (k : Int) < (l.length : Int) := by omega
        have w1 : IntKind.i64.wrap (st + (k : Int)) = st + (k : Int) := IntWalk.i64_in _ (by omega)
        have w2 : IntKind.i64.wrap ((k : Int) + 1) = (k : Int) + 1 := IntWalk.i64_in _ (by omega)
        obtain ⟨c1, c2⟩ := Ex.split_len st l k hk
        obtain ⟨d1, d2, d3, d4⟩ := Ex.cnt_next (s := st) (k := k)
        have l1 : o1.length ≤ 4096 := by rw [hO1, c1]; omega
        have l2 : o2.length ≤ 4096 := by rw [hO2, c2]; omega
        have hN := Ex.split_take_next (s := st) (x := l) (k := k) hlt
        clear c1 c2 d1 d2 d3 d4
        have cE := ev_q (st + (k : Int)) (by omega) wr
        by_cases hp : (st + (k : Int)) % 2 = 0
        · rw [ev_t hp] at cE
          rw [if_pos hp, if_pos hp, ← hO1, ← hO2, List.append_nil] at hN
          have HN : Hid (_ ∧ _) := ⟨hN.1.symm, hN.2.symm⟩
          clear hN hp hO1 hO2
          go_wp2_with (first | (go_at_call 153; refine cE.mono ?_; rintro e wn ⟨rfl, rfl⟩) | (at_builtin; refine wpList_append_own_at _ rfl _ _ 24 rfl w.heap.size 3 i0 (.int .i64 0) 1 8 Try.underlying24 hi hz0 hz1 hz2 rfl (by decide) _ _ _ rfl (own_below hG.l1.own ((Below.refl _ _).alloc (Nat.le_refl _) _)) ⟨wr.heap.size, 0, none⟩ 1 1 [.int .i64 (l[k])] rfl rfl (one_new wr _ _) (oneOne _) (by unfold maxLen; omega) (by omega) (by have := hG.l1.below.size; simp; omega) ?_))
          intro v' wz hown hgrow _ hat
          obtain ⟨sv, mv, rfl⟩ := own_slice hown
          have GZ := hG.push _ hgrow hown hat
          have HG : Hid _ := GZ
          clear hown hgrow hat hG GZ
          go_wp2
          go_roundw
          case rel => exact ⟨k + 1, _, _, _, _, by omega, by go_num, HN.out.1, HN.out.2, rfl, rfl, HG.out⟩
          case measure => simp [intOf]; omega
        · rw [ev_f hp] at cE
          rw [if_neg hp, if_neg hp, ← hO1, ← hO2, List.append_nil] at hN
          have HN : Hid (_ ∧ _) := ⟨hN.1.symm, hN.2.symm⟩
          clear hN hp hO1 hO2
          go_wp2_with (first | (go_at_call 153; refine cE.mono ?_; rintro e wn ⟨rfl, rfl⟩) | (at_builtin; refine wpList_append_own_at _ rfl _ _ 24 rfl w.heap.size 3 i0 (.int .i64 0) 1 8 Try.underlying24 hi hz0 hz1 hz2 rfl (by decide) _ _ _ rfl (own_below hG.l2.own ((Below.refl _ _).alloc (Nat.le_refl _) _)) ⟨wr.heap.size, 0, none⟩ 1 1 [.int .i64 (l[k])] rfl rfl (one_new wr _ _) (oneOne _) (by unfold maxLen; omega) (by omega) (by have := hG.l2.below.size; simp; omega) ?_))
          intro v' wz hown hgrow _ hat
          obtain ⟨sv, mv, rfl⟩ := own_slice hown
          have GZ := (hG.swap.push _ hgrow hown hat).swap
          have HG : Hid _ := GZ
          clear hown hgrow hat hG GZ
          go_wp2
          go_roundw
          case rel => exact ⟨k + 1, _, _, _, _, by omega, by go_num, HN.out.1, HN.out.2, rfl, rfl, HG.out⟩
          case measure => simp [intOf]; omega
      · obtain rfl : k = l.length := by omega
        rw [List.take_length] at hO1 hO2
        obtain ⟨s1, m1, rfl, a1, b1⟩ := hG.l1.holds
        obtain ⟨s2, m2, rfl, a2, b2⟩ := hG.l2.holds
        subst hO1 hO2
        have HB : Hid _ := hG.l1.below
        have HA : Hid _ := a1
        have HA2 : Hid _ := a2
        clear hG a1 a2
        go_wp2
        go_ret3
        exact ⟨s1, m1, s2, m2, rfl, HA.out, HA2.out, HB.out, b1, b2⟩
/-- What is left of a list that is cut from the front: a slice that holds it. -/
def CutI (w : World) (v : Value) (l : List Int) : Prop := ∃ a c, v = .slice a l.length c ∧ l.length ≤ c ∧ HoldsI w a l
theorem CutI.open {w : World} {v : Value} {x : Int} {l : List Int} (h : CutI w v (x :: l)) : ∃ b off c N, v = .slice (some ⟨b, off, none⟩) (N + 1) c ∧ N + 1 ≤ c ∧ w.cell? ⟨b, off, none⟩ = some (.int .i64 x) ∧
    (c = 1 → CutI w (.slice (some ⟨b, off, none⟩) N 0) l) ∧ (¬ c = 1 → CutI w (.slice (some ⟨b, off + 1, none⟩) N (c - 1)) l) := by
  obtain ⟨a, c, rfl, hc, hH⟩ := h
  rcases hH with h | ⟨b, off, rfl, hr⟩
  · simp at h
  · rw [List.length_cons] at hc
    refine ⟨b, off, c, l.length, rfl, hc, ?_, fun h1 => ?_, fun h1 => ?_⟩
    · have := hr 0 (by simp)
      simpa using this
    · obtain rfl : l = [] := List.length_eq_zero_iff.1 (by omega)
      exact ⟨_, 0, rfl, Nat.le_refl _, .inl rfl⟩
    · refine ⟨_, _, rfl, by omega, .inr ⟨b, off + 1, rfl, fun k hk => ?_⟩⟩
      have := hr (k + 1) (by simp; omega)
      rw [show off + 1 + k = off + (k + 1) by omega]
      simpa using this
theorem drop_cons {l : List Int} {k : Nat} (hk : k < l.length) : l.drop k = l[k] :: l.drop (k + 1) := by
  rw [List.drop_eq_getElem_cons hk]
set_option maxHeartbeats 1000000 in
theorem join_cno1 (e o : List Int) (st : Int) (s t : Option Addr) (m m' : Nat) (w : World) (hh : jnB st e.length o.length = false) (he : e.length ≤ 4611686018427387904) (ho : o.length ≤ 4611686018427387904) : Calls Try.prog 124 #[.slice s e.length m, .slice t o.length m', .int .i64 st] w (GivesE [] 2 w) := by
  have hh' : ¬ (0 ≤ st ∧ st ≤ 4096 ∧ e.length + o.length ≤ 4096) := fun h => by rw [jn_iff.2 h] at hh; exact absurd hh (by decide)
  cases hs : ogB st with
  | false =>
    obtain ⟨N, hN⟩ : ∃ N, IntKind.i64.wrap ((e.length : Int) + (o.length : Int)) = N := ⟨_, rfl⟩
    clear hh hh'
    go_enter Try.func124, Try.ntmps124
    go_wp2_with (go_at_call 151; refine (og_q _ _).mono ?_; rintro e wn ⟨rfl, rfl⟩)
    go_ret2
    exact ⟨none, 0, rfl, .inl rfl, Below.refl _ _, ⟨Nat.le_refl _, fun _ => rfl, fresh_none _⟩⟩
  | true =>
    obtain ⟨h1, h2⟩ := og_iff.1 hs
    have hn : ogB (IntKind.i64.wrap ((e.length : Int) + (o.length : Int))) = false := by
      rw [Bool.eq_false_iff, Ne, og_iff, IntKind.wrap_i64]
      omega
    obtain ⟨N, hN⟩ : ∃ N, IntKind.i64.wrap ((e.length : Int) + (o.length : Int)) = N := ⟨_, rfl⟩
    rw [hN] at hn
    clear hh hh'
    go_enter Try.func124, Try.ntmps124
    go_wp2_with (go_at_call 151; refine (og_q _ _).mono ?_; rintro e wn ⟨rfl, rfl⟩)
    go_ret2
    exact ⟨none, 0, rfl, .inl rfl, Below.refl _ _, ⟨Nat.le_refl _, fun _ => rfl, fresh_none _⟩⟩
set_option maxHeartbeats 1000000 in
theorem join_cno2 (e o : List Int) (st : Int) (s t : Option Addr) (m m' : Nat) (w : World) (hh : jnB st e.length o.length = true) (hc : jcB st e.length o.length = false) : Calls Try.prog 124 #[.slice s e.length m, .slice t o.length m', .int .i64 st] w (GivesE [] 4 w) := by
  obtain ⟨h1, h2, h3⟩ := jn_iff.1 hh
  have hs : ogB st = true := og_iff.2 ⟨h1, h2⟩
  have hn : ogB ((e.length : Int) + (o.length : Int)) = true := og_iff.2 ⟨by omega, by omega⟩
  have w1 : IntKind.i64.wrap ((e.length : Int) + (o.length : Int)) = (e.length : Int) + (o.length : Int) := IntWalk.i64_in _ (by omega)
  obtain ⟨ca, cb⟩ := ce_cnt (s := st) (n := e.length + o.length) h1 h2 h3
  rw [Int.natCast_add] at ca cb
  obtain ⟨A0, hA⟩ : ∃ A0, Ex.cntE st (e.length + o.length) = A0 := ⟨_, rfl⟩
  obtain ⟨B0, hB⟩ : ∃ B0, Ex.cntO st (e.length + o.length) = B0 := ⟨_, rfl⟩
  rw [hA] at ca
  rw [hB] at cb
  have hc' : ¬ (A0 = e.length ∧ B0 = o.length) := fun h => by rw [jcB, hA, hB, decide_eq_false_iff_not] at hc; exact hc h
  clear hc hA hB
  by_cases hA : A0 = e.length
  · have hB : ¬ B0 = o.length := fun h => hc' ⟨hA, h⟩
    have a1 : ((A0 : Int) == (e.length : Int)) = true := by simp [hA]
    have a2 : ((A0 : Int) != (e.length : Int)) = false := by simp [hA]
    have a3 : decide ((A0 : Int) = (e.length : Int)) = true := by simp [hA]
    have b1 : ((B0 : Int) == (o.length : Int)) = false := by rw [beq_eq_false_iff_ne]; omega
    have b2 : ((B0 : Int) != (o.length : Int)) = true := by simp; omega
    have b3 : decide ((B0 : Int) = (o.length : Int)) = false := by simp; omega
    clear hA hB hc'
    go_enter Try.func124, Try.ntmps124
    go_wp2_with (first | (go_at_call 151; refine (og_q _ _).mono ?_; rintro e wn ⟨rfl, rfl⟩) | (go_at_call 152; refine (cnt_q _ _ _).mono ?_; rintro e wn ⟨rfl, rfl⟩))
    go_ret2
    exact ⟨none, 0, rfl, .inl rfl, Below.refl _ _, ⟨Nat.le_refl _, fun _ => rfl, fresh_none _⟩⟩
  · have a1 : ((A0 : Int) == (e.length : Int)) = false := by rw [beq_eq_false_iff_ne]; omega
    have a2 : ((A0 : Int) != (e.length : Int)) = true := by simp; omega
    have a3 : decide ((A0 : Int) = (e.length : Int)) = false := by simp; omega
    clear hA hc'
    go_enter Try.func124, Try.ntmps124
    go_wp2_with (first | (go_at_call 151; refine (og_q _ _).mono ?_; rintro e wn ⟨rfl, rfl⟩) | (go_at_call 152; refine (cnt_q _ _ _).mono ?_; rintro e wn ⟨rfl, rfl⟩))
    go_ret2
    exact ⟨none, 0, rfl, .inl rfl, Below.refl _ _, ⟨Nat.le_refl _, fun _ => rfl, fresh_none _⟩⟩
/-- A list of its own, in one block that is as long. -/
def GivesRowE (L : List Int) (err : Int) (w : World) (e : Ending) (w' : World) : Prop := ∃ g, e = .returned (.tuple #[.slice (some ⟨g, 0, none⟩) L.length L.length, .int .i64 err]) ∧ w.heap.size ≤ g ∧ RowAt w' g L ∧ Below w.heap.size w w'
theorem GivesRowE.gives {L : List Int} {err : Int} {w w' : World} {e : Ending} (h : GivesRowE L err w e w') : GivesE L err w e w' := by
  obtain ⟨g, rfl, hg, hr, hb⟩ := h
  exact ⟨_, _, rfl, hr.holds, hb, Nat.le_refl _, fun h => by simp at h, fresh_some hg⟩
set_option maxRecDepth 100000 in
set_option maxHeartbeats 1000000 in
theorem join_row (e o : List Int) (st : Int) (s t : Option Addr) (m m' : Nat) (w : World) (hh : jnB st e.length o.length = true) (hc : jcB st e.length o.length = true) (hm : e.length ≤ m) (hm' : o.length ≤ m') (hE : HoldsI w s e) (hO : HoldsI w t o) : Calls Try.prog 124 #[.slice s e.length m, .slice t o.length m', .int .i64 st] w (GivesRowE (Ex.joinL st e o) 0 w) := by
  obtain ⟨h1, h2, h3⟩ := jn_iff.1 hh
  obtain ⟨ca, cb⟩ := ce_cnt (s := st) (n := e.length + o.length) h1 h2 h3
  have hcc : Ex.cntE st (e.length + o.length) = e.length ∧ Ex.cntO st (e.length + o.length) = o.length := by simpa [jcB] using hc
  rw [hcc.1] at ca
  rw [hcc.2] at cb
  obtain ⟨n, hn⟩ : ∃ n, e.length + o.length = n := ⟨_, rfl⟩
  have w1 : IntKind.i64.wrap ((e.length : Int) + (o.length : Int)) = (n : Int) := by rw [IntWalk.i64_in _ (by omega)]; omega
  have hs : ogB st = true := og_iff.2 ⟨h1, h2⟩
  have hgn : ogB (n : Int) = true := og_iff.2 ⟨by omega, by omega⟩
  rw [hn] at ca cb
  have HL : Hid ((Ex.joinL st e o).length = n) := by rw [Ex.joinL_len]; exact hn
  have HC : Hid (Ex.cntE st n = e.length ∧ Ex.cntO st n = o.length) := hn ▸ hcc
  have hn4 : n ≤ 4096 := by omega
  have HN : Hid _ := hn
  have hmk := fun (W : World) => run_make_row' (P := Try.prog) 24 3 (.int .i64 0) 8 Try.underlying24 infoI rfl .i64 .i64 n (by omega) (by omega) W
  clear hcc hn hc
  have HE : Hid (CutI w (.slice s e.length m) (e.drop 0)) := by rw [List.drop_zero]; exact ⟨s, m, rfl, hm, hE⟩
  have HO : Hid (CutI w (.slice t o.length m') (o.drop 0)) := by rw [List.drop_zero]; exact ⟨t, m', rfl, hm', hO⟩
  clear hE hO
  go_enter Try.func124, Try.ntmps124
  go_wp2_with (first | (go_at_call 151; refine (og_q _ _).mono ?_; rintro e wn ⟨rfl, rfl⟩) | (go_at_call 152; refine (cnt_q _ _ _).mono ?_; rintro e wn ⟨rfl, rfl⟩))
  have hR0 : RowAt (w.alloc (zeroRow n)) w.heap.size (fillL (Ex.joinL st e o) 0) := by rw [fillL_zero, HL.out]; exact rowAt_made w n
  have hB0 : Below w.heap.size w (w.alloc (zeroRow n)) := (Below.refl _ _).alloc (Nat.le_refl _) _
  clear hmk hs hgn ca cb hh
  go_loopw [0, 1, 12, 46] (fun v0 v1 _ kk wr => ∃ (k : Nat) (x0 x1 : Value), k ≤ n ∧ x0 = v0 ∧ x1 = v1 ∧ CutI w x0 (e.drop (Ex.cntE st k)) ∧ CutI w x1 (o.drop (Ex.cntO st k)) ∧ kk = .int .i64 k ∧ RowAt wr w.heap.size (fillL (Ex.joinL st e o) k) ∧ Below w.heap.size w wr) (fun _ _ _ kk _ => n - (intOf kk).toNat)
  case atStart => exact ⟨0, _, _, Nat.zero_le _, rfl, rfl, by simpa [Ex.cntE] using HE.out, by simpa [Ex.cntO, Ex.cntE] using HO.out, rfl, hR0, hB0⟩
  case round =>
    obtain ⟨k, x0, x1, hk, rfl, rfl, hC0, hC1, rfl, hR, hB⟩ := hrel
    clear hR0 hB0
    by_cases hlt : k < n
    · have hki : (k : Int) < (n : Int) := by omega
      have w2 : IntKind.i64.wrap (st + (k : Int)) = st + (k : Int) := IntWalk.i64_in _ (by omega)
      have w3 : IntKind.i64.wrap ((k : Int) + 1) = (k : Int) + 1 := IntWalk.i64_in _ (by omega)
      have hkL : k < (Ex.joinL st e o).length := by rw [HL.out]; exact hlt
      have hJ := join_at hkL
      have hset := hR.drew.set k (Ex.joinL st e o)[k]
      rw [fillL_next _ _ hkL, hJ] at hset
      have y0 := hR.at (k := k) (by rw [fillL_len _ _ (by omega)]; exact hkL)
      have z0 := hR.free k
      have hBs := hB.drew.setCell (p := ⟨w.heap.size, k, none⟩) (Nat.le_refl _)
      obtain ⟨d1, d2, d3, d4⟩ := Ex.cnt_next (s := st) (k := k)
      obtain ⟨f1, f2⟩ := Ex.cnt_lt (s := st) (n := n) (j := k) hlt
      rw [HC.out.1] at f1
      rw [HC.out.2] at f2
      generalize (fillL (Ex.joinL st e o) k)[k]'(by rw [fillL_len _ _ (by omega)]; exact hkL) = Z at y0
      have cE := ev_q (st + (k : Int)) (by omega) wr
      clear hR hJ
      by_cases hp : (st + (k : Int)) % 2 = 0
      · rw [ev_t hp] at cE
        rw [if_pos hp] at hset d1 d2
        have f3 := f1 hp
        have D1 : Hid (CutI w x1 (o.drop (Ex.cntO st (k + 1)))) := by rw [d2, Nat.add_zero]; exact hC1
        rw [drop_cons f3] at hC0
        rw [List.getD_eq_getElem?_getD, List.getElem?_eq_getElem f3, Option.getD_some] at hset
        rw [← d1] at hC0
        obtain ⟨bb, off, c, N1, rfl, hcl, y1, q1, q2⟩ := hC0.open
        have y2 := (hB.cell (p := ⟨bb, off, none⟩) (cell_lt y1)).trans y1
        have HB : Hid _ := fun v => hBs v
        have HS : Hid _ := hset
        clear hC0 hC1 f1 f2 hp hset hBs y1 d1 d2
        generalize e[Ex.cntE st k] = V at *
        by_cases hc1 : c = 1
        · subst hc1
          have Q1 : Hid _ := q1 rfl
          clear q1 q2
          obtain rfl : N1 = 0 := by omega
          go_wp2_with (first | (go_at_call 153; refine cE.mono ?_; rintro e wn ⟨rfl, rfl⟩))
          go_region_law (fail)
          all_goals
            go_wp2
            go_roundw
            case rel => exact ⟨k + 1, _, _, by omega, rfl, rfl, Q1.out, D1.out, by go_num, HS.out, HB.out _⟩
            case measure => simp [intOf]; omega
        · have Q1 : Hid _ := q2 hc1
          clear q1 q2
          have hl1 : (1 : Int) ≤ (N1 : Int) + 1 := by omega
          go_wp2_with (first | (go_at_call 153; refine cE.mono ?_; rintro e wn ⟨rfl, rfl⟩))
          go_region_law (fail)
          all_goals
            go_wp2
            go_roundw
            case rel => exact ⟨k + 1, _, _, by omega, rfl, rfl, Q1.out, D1.out, by go_num, HS.out, HB.out _⟩
            case measure => simp [intOf]; omega
      · rw [ev_f hp] at cE
        rw [if_neg hp] at hset d1 d2
        have f3 := f2 hp
        have D1 : Hid (CutI w x0 (e.drop (Ex.cntE st (k + 1)))) := by rw [d1, Nat.add_zero]; exact hC0
        rw [drop_cons f3] at hC1
        rw [List.getD_eq_getElem?_getD, List.getElem?_eq_getElem f3, Option.getD_some] at hset
        rw [← d2] at hC1
        obtain ⟨bb, off, c, N1, rfl, hcl, y1, q1, q2⟩ := hC1.open
        have y2 := (hB.cell (p := ⟨bb, off, none⟩) (cell_lt y1)).trans y1
        have HB : Hid _ := fun v => hBs v
        have HS : Hid _ := hset
        clear hC0 hC1 f1 f2 hp hset hBs y1 d1 d2
        generalize o[Ex.cntO st k] = V at *
        by_cases hc1 : c = 1
        · subst hc1
          have Q1 : Hid _ := q1 rfl
          clear q1 q2
          obtain rfl : N1 = 0 := by omega
          go_wp2_with (first | (go_at_call 153; refine cE.mono ?_; rintro e wn ⟨rfl, rfl⟩))
          go_region_law (fail)
          all_goals
            go_wp2
            go_roundw
            case rel => exact ⟨k + 1, _, _, by omega, rfl, rfl, D1.out, Q1.out, by go_num, HS.out, HB.out _⟩
            case measure => simp [intOf]; omega
        · have Q1 : Hid _ := q2 hc1
          clear q1 q2
          have hl1 : (1 : Int) ≤ (N1 : Int) + 1 := by omega
          go_wp2_with (first | (go_at_call 153; refine cE.mono ?_; rintro e wn ⟨rfl, rfl⟩))
          go_region_law (fail)
          all_goals
            go_wp2
            go_roundw
            case rel => exact ⟨k + 1, _, _, by omega, rfl, rfl, D1.out, Q1.out, by go_num, HS.out, HB.out _⟩
            case measure => simp [intOf]; omega
    · obtain rfl : k = n := by omega
      have HR : Hid (RowAt wr w.heap.size (Ex.joinL st e o)) := by rw [← HL.out, fillL_all] at hR; exact hR
      have HB : Hid _ := hB
      clear hR hB hC0 hC1 HC
      go_wp2
      go_ret2
      refine ⟨w.heap.size, ?_, Nat.le_refl _, HR.out, HB.out⟩
      rw [HL.out]
      rfl
theorem join_cyes (e o : List Int) (st : Int) (s t : Option Addr) (m m' : Nat) (w : World) (hh : jnB st e.length o.length = true) (hc : jcB st e.length o.length = true) (hm : e.length ≤ m) (hm' : o.length ≤ m') (hE : HoldsI w s e) (hO : HoldsI w t o) : Calls Try.prog 124 #[.slice s e.length m, .slice t o.length m', .int .i64 st] w (GivesE (Ex.joinL st e o) 0 w) :=
  (join_row e o st s t m m' w hh hc hm hm' hE hO).mono fun _ _ h => h.gives
end Go.Proofs.Ytoplgnckdmkaoaa

namespace Go.Proofs.Ytoplgnckdmkaoaa
open Go.RowKit

set_option maxHeartbeats 1000000 in
theorem kn_q (k : Int) (w : World) : Calls Try.prog 122 #[.int .i64 k] w fun e w' => e = .returned (.bool (kB k)) ∧ w = w' := by
  by_cases h1 : k = 1
  · subst h1
    go_enter Try.func122, Try.ntmps122
    go_wp2
    go_ret
    exact ⟨rfl, rfl⟩
  · by_cases h2 : k = 2
    · subst h2
      go_enter Try.func122, Try.ntmps122
      go_wp2
      go_ret
      exact ⟨rfl, rfl⟩
    · by_cases h3 : k = 3
      · subst h3
        go_enter Try.func122, Try.ntmps122
        go_wp2
        go_ret
        exact ⟨rfl, rfl⟩
      · go_enter Try.func122, Try.ntmps122
        go_wp2
        all_goals
          go_ret
          exact ⟨ret_bool (by simp [kB, h1, h2, h3]), rfl⟩
def outB (v b : Int) : Bool := decide (v < -b ∨ b < v)
set_option maxHeartbeats 1000000 in
theorem wi1_q (v b : Int) (bx : Nat) (W : World) (hb : 0 ≤ b) (hb' : b ≤ 4611686018427387904) (hx : W.cell? ⟨bx, 0, none⟩ = some (.int .i64 b)) :
    Calls Try.prog 150 #[.int .i64 v, .pointer (some ⟨bx, 0, none⟩)] W fun e w' => e = .returned (.bool (outB v b)) ∧ w' = W := by
  have w1 : IntKind.i64.wrap (-b) = -b := IntWalk.i64_in _ (by omega)
  by_cases h1 : v < -b
  · go_enter Try.func150, Try.ntmps150
    go_wp2
    go_ret
    exact ⟨ret_bool (by simp [outB, h1]), rfl⟩
  · by_cases h2 : b < v
    · go_enter Try.func150, Try.ntmps150
      go_wp2
      go_ret
      exact ⟨ret_bool (by simp [outB, h2]), rfl⟩
    · go_enter Try.func150, Try.ntmps150
      go_wp2
      go_ret
      exact ⟨ret_bool (by simp [outB, h1, h2]), rfl⟩
/-- The place of the first number outside. -/
def GivesPlace (l : List Int) (b : Int) (w : World) (e : Ending) (w' : World) : Prop := ∃ r : Int, e = .returned (.int .i64 r) ∧ (fewB l b = true → r = -1) ∧ (fewB l b = false → 0 ≤ r) ∧ w' = w
set_option maxHeartbeats 1000000 in
theorem ix_q (l : List Int) (b : Int) (s : Option Addr) (m bx : Nat) (w : World) (hb : 0 ≤ b) (hb' : b ≤ 4611686018427387904) (hl : l.length ≤ 9223372036854775807) (hH : HoldsI w s l) (hx : w.cell? ⟨bx, 0, none⟩ = some (.int .i64 b)) :
    Calls Try.prog 172 #[.slice s l.length m, .func (.func 150) #[] #[.pointer (some ⟨bx, 0, none⟩)]] w (GivesPlace l b w) := by
  go_enter Try.func172, Try.ntmps172
  go_wp2_with fail
  go_loopw [5, 8] (fun _ i wr => ∃ k : Nat, k ≤ l.length ∧ i = .int .i64 k ∧ (∀ j (hj : j < l.length), j < k → -b ≤ l[j] ∧ l[j] ≤ b) ∧ w = wr) (fun _ i _ => l.length - (intOf i).toNat)
  case atStart => exact ⟨0, Nat.zero_le _, rfl, fun j _ h => absurd h (Nat.not_lt_zero _), rfl⟩
  case round =>
    obtain ⟨k, hk, rfl, hall, rfl⟩ := hrel
    have HA : Hid _ := hall
    clear hall
    by_cases hlt : k < l.length
    · rcases hH with rfl | ⟨bb, off, rfl, hr⟩
      · simp at hlt
      have y0 := hr k hlt
      have hki : (k : Int) < (l.length : Int) := by omega
      have w2 : IntKind.i64.wrap ((k : Int) + 1) = (k : Int) + 1 := IntWalk.i64_in _ (by omega)
      have HF : Hid (b < l[k] ∨ l[k] < -b → fewB l b = false) := few_none hlt
      have HV : Hid (-b ≤ l[k] → l[k] ≤ b → ∀ j (hj : j < l.length), j < k + 1 → -b ≤ l[j] ∧ l[j] ≤ b) := fun a c j hj hjk => if e : j = k then by subst e; exact ⟨a, c⟩ else HA.out j hj (by omega)
      generalize l[k] = V at *
      have cW := wi1_q V b bx w hb hb' hx
      cases ho : outB V b with
      | true =>
        rw [ho] at cW
        have hf := HF.out (by have := of_decide_eq_true ho; omega)
        clear HF HV HA
        go_wp2_with (first | (go_at_call 150; (with_reducible refine cW.mono ?_); rintro e wn ⟨rfl, rfl⟩))
        go_ret
        exact ⟨_, rfl, fun h => by rw [hf] at h; exact absurd h (by decide), fun _ => by omega, rfl⟩
      | false =>
        rw [ho] at cW
        have HN : Hid _ := HV.out (by have := of_decide_eq_false ho; omega) (by have := of_decide_eq_false ho; omega)
        clear HF HV HA
        go_wp2_with (first | (go_at_call 150; (with_reducible refine cW.mono ?_); rintro e wn ⟨rfl, rfl⟩))
        go_roundw
        case rel => exact ⟨k + 1, by omega, by go_num, HN.out, by first | trivial | rfl⟩
        case measure => simp [intOf]; omega
    · obtain rfl : k = l.length := by omega
      have hf := few_all fun j hj => HA.out j hj hj
      clear HA
      go_wp2
      go_ret
      exact ⟨_, rfl, fun _ => rfl, fun h => by rw [hf] at h; exact absurd h (by decide), rfl⟩
theorem co_q (l : List Int) (b : Int) (s : Option Addr) (m bx : Nat) (w : World) (hb : 0 ≤ b) (hb' : b ≤ 4611686018427387904) (hl : l.length ≤ 9223372036854775807) (hH : HoldsI w s l) (hx : w.cell? ⟨bx, 0, none⟩ = some (.int .i64 b)) :
    Calls Try.prog 149 #[.slice s l.length m, .func (.func 150) #[] #[.pointer (some ⟨bx, 0, none⟩)]] w fun e w' => e = .returned (.bool (!fewB l b)) ∧ w' = w := by
  have cI := ix_q l b s m bx w hb hb' hl hH hx
  cases hf : fewB l b with
  | true =>
    go_enter Try.func149, Try.ntmps149
    go_wp2_with fail
    refine cI.mono ?_
    rintro e w' ⟨r, rfl, h1, h2, rfl⟩
    obtain rfl := h1 hf
    clear h1 h2
    go_wp2
    go_ret
    exact ⟨rfl, rfl⟩
  | false =>
    go_enter Try.func149, Try.ntmps149
    go_wp2_with fail
    refine cI.mono ?_
    rintro e w' ⟨r, rfl, h1, h2, rfl⟩
    have h3 := h2 hf
    clear h1 h2
    go_wp2
    go_ret
    exact ⟨rfl, rfl⟩
theorem wi_q (l : List Int) (b : Int) (s : Option Addr) (m : Nat) (w : World) (hb : 0 ≤ b) (hb' : b ≤ 4611686018427387904) (hl : l.length ≤ 9223372036854775807) (hH : HoldsI w s l) :
    Calls Try.prog 123 #[.slice s l.length m, .int .i64 b] w fun e w' => e = .returned (.bool (fewB l b)) ∧ Below w.heap.size w w' := by
  have cC := co_q l b s m w.heap.size (w.alloc (.cells #[.int .i64 b] 3)) hb hb' hl (hH.alloc _) (by simp)
  have B : Below w.heap.size w (w.alloc (.cells #[.int .i64 b] 3)) := (Below.refl _ _).alloc (Nat.le_refl _) _
  go_enter Try.func123, Try.ntmps123
  go_wp2_with fail
  refine cC.mono ?_
  rintro e w' ⟨rfl, rfl⟩
  go_wp2
  go_ret
  exact ⟨ret_bool (by simp), B⟩
set_option maxHeartbeats 1000000 in
theorem cl_q (l : List Int) (s : Option Addr) (m : Nat) (w : World) (hs : s = none → l.length = 0 ∧ m = 0) (hl : l.length ≤ 4096) (hH : HoldsI w s l) :
    Calls Try.prog 119 #[.slice s l.length m] w fun e w' => ∃ v, e = .returned v ∧ Gl w v l w' := by
  obtain ⟨i0, hi, hz0, hz1, hz2⟩ := info_parts infoI
  have q22 : ∀ (w : World) (a : Option Addr) (n c n' c' : Nat), (binOp .eql 24 (.slice a n c) (.slice none n' c')).run Try.prog w = .ok (.bool a.isNone) w := fun w a n c n' c' => Go.Lib.run_eql_slice_nil w _ _ a n c n' c' Try.underlying24
  cases s with
  | some p =>
    have HN : Hid _ := holdsI_list (hH.alloc (.cells #[] 3))
    go_enter Try.func119, Try.ntmps119
    go_wp2_with (first | (at_builtin; refine wpList_append_own _ rfl _ _ 24 rfl w.heap.size 3 i0 (.int .i64 0) 1 8 Try.underlying24 hi hz0 hz1 hz2 rfl (by decide) _ 0 [] rfl (World.ownsRow_made w #[] 0 (Nat.le_refl _) (by decide) (by simp)) p l.length m (l.map (Value.int .i64)) rfl (by simp) HN.out (oneI _) (by unfold maxLen; omega) (by omega) (by simp) ?_))
    intro v' w0 hown hgrow _
    have GB : Gl w v' l w0 := ⟨(below_alloc (Below.refl _ w) _).grown hgrow (below_alloc (Below.refl _ w) _).size (fun k hk => by simp [Value.ownBlock] at hk; omega), by simpa using hown⟩
    have HG : Hid _ := GB
    clear hown hgrow GB
    go_wp2
    go_ret
    exact ⟨_, rfl, HG.out⟩
  | none =>
    obtain ⟨h0, rfl⟩ := hs rfl
    obtain rfl := List.length_eq_zero_iff.1 h0
    go_enter Try.func119, Try.ntmps119
    go_wp2
    go_ret
    exact ⟨_, rfl, Gl.start (Below.refl _ _)⟩
theorem fo_q (n : Int) (h0 : 0 ≤ n) (w : World) : Calls Try.prog 128 #[.int .i64 n] w fun e w' => e = .returned (.int .i64 (1 - n % 2)) ∧ w = w' := by
  have t1 : n.tmod 2 = n % 2 := Int.tmod_eq_emod_of_nonneg h0
  have w1 : IntKind.i64.wrap (1 - n % 2) = 1 - n % 2 := IntWalk.i64_in _ (by omega)
  go_enter Try.func128, Try.ntmps128
  go_wp2
  go_ret
  exact ⟨rfl, rfl⟩
theorem fe_q (n : Int) (h0 : 0 ≤ n) (w : World) : Calls Try.prog 127 #[.int .i64 n] w fun e w' => e = .returned (.int .i64 (n % 2)) ∧ w = w' := by
  have t1 : n.tmod 2 = n % 2 := Int.tmod_eq_emod_of_nonneg h0
  go_enter Try.func127, Try.ntmps127
  go_wp2
  go_ret
  exact ⟨rfl, rfl⟩
/-- One world is another with but one block changed, and new blocks. -/
def SameBut (g : Nat) (a b : World) : Prop := a.heap.size ≤ b.heap.size ∧ ∀ k, k < a.heap.size → k ≠ g → b.heap[k]? = a.heap[k]?
theorem SameBut.refl (g : Nat) (a : World) : SameBut g a a := ⟨Nat.le_refl _, fun _ _ _ => rfl⟩
theorem SameBut.trans {g : Nat} {a b c : World} (h : SameBut g a b) (h' : SameBut g b c) : SameBut g a c := ⟨Nat.le_trans h.1 h'.1, fun k hk hn => (h'.2 k (Nat.lt_of_lt_of_le hk h.1) hn).trans (h.2 k hk hn)⟩
theorem SameBut.drewN {g : Nat} {a b : World} (h : SameBut g a b) (q : Nat) : SameBut g a (b.drewN q) := h
theorem SameBut.drew {g : Nat} {a b : World} (h : SameBut g a b) : SameBut g a b.drew := h
theorem SameBut.set {g j : Nat} {a b : World} (h : SameBut g a b) (v : Value) : SameBut g a (b.setCell ⟨g, j, none⟩ v) :=
  ⟨by simpa using h.1, fun k hk hn => (Below.heap_setCell _ _ _ _ hn).trans (h.2 k hk hn)⟩
theorem SameBut.cell {g b o : Nat} {w w1 : World} {v : Value} (h : SameBut g w w1) (hc : w.cell? ⟨b, o, none⟩ = some v) (hn : b ≠ g) : w1.cell? ⟨b, o, none⟩ = some v :=
  (World.cell?_of_block (w := w) (h.2 b (cell_lt hc) hn)).trans hc
theorem HoldsI.drewN {w : World} {s : Option Addr} {l : List Int} (h : HoldsI w s l) (q : Nat) : HoldsI (w.drewN q) s l := h
/-- The blocks that the steps of a kernel read besides the signal's own. -/
structure Bx (W : World) (g n m bx ba br : Nat) : Prop where
  cx : W.cell? ⟨bx, 0, none⟩ = some (.slice (some ⟨g, 0, none⟩) n m)
  ca : W.cell? ⟨ba, 0, none⟩ = some (.func (.func 174) #[] #[.pointer (some ⟨bx, 0, none⟩)])
  cr : W.cell? ⟨br, 0, none⟩ = some (.func (.func 155) #[] #[.pointer (some ⟨ba, 0, none⟩)])
  nx : bx ≠ g
  na : ba ≠ g
  nr : br ≠ g
theorem Bx.same {W W1 : World} {g n m bx ba br : Nat} (h : Bx W g n m bx ba br) (hs : SameBut g W W1) : Bx W1 g n m bx ba br :=
  ⟨hs.cell h.cx h.nx, hs.cell h.ca h.na, hs.cell h.cr h.nr, h.nx, h.na, h.nr⟩
theorem Bx.drewN {W : World} {g n m bx ba br : Nat} (h : Bx W g n m bx ba br) (q : Nat) : Bx (W.drewN q) g n m bx ba br := h.same ((SameBut.refl _ _).drewN q)
theorem ex_at {y : List Int} {i : Int} {k : Nat} (hk : k < y.length) (h : Ex.mirI i 0 y.length = k) : Ex.ex 0 y i = y[k] := by
  have := Ex.sg_at (s := 0) hk
  rw [Int.zero_add] at this
  rw [Ex.ex, Int.zero_add, h, this]
set_option maxHeartbeats 1000000 in
theorem at1_q (y : List Int) (i : Int) (g n m bx ba br : Nat) (W : World) (hX : Bx W g n m bx ba br) (hy : y.length = n) (hH : HoldsI W (some ⟨g, 0, none⟩) y) (hn : 0 < n) (hn' : n ≤ 4096) (hi : -100 ≤ i) (hi' : i ≤ 10000) :
    Calls Try.prog 174 #[.int .i64 i, .pointer (some ⟨bx, 0, none⟩)] W fun e w' => e = .returned (.int .i64 (Ex.ex 0 y i)) ∧ w' = W := by
  subst hy
  have hx := hX.cx
  obtain ⟨m0, m1⟩ := Ex.mir_mem (i := i) (lo := 0) (hi := y.length) (by omega)
  obtain ⟨k, hk⟩ : ∃ k : Nat, Ex.mirI i 0 y.length = (k : Int) := ⟨(Ex.mirI i 0 y.length).toNat, by omega⟩
  rw [hk] at m0 m1
  have hkl : k < y.length := by omega
  have y0 := holdsI_at hH hkl
  rw [Nat.zero_add] at y0
  rw [ex_at hkl hk]
  generalize y[k] = V at *
  have hmv : mirV i 0 y.length = (k : Int) := by rw [← hk]; exact if_pos ⟨by omega, vi_iff.2 (by omega), vi_iff.2 (by omega), vi_iff.2 (by omega)⟩
  have cM := mir_q i 0 y.length W
  rw [hmv] at cM
  by_cases h0 : i < 0
  · clear hk hmv
    go_enter Try.func174, Try.ntmps174
    go_wp2_with (go_at_call 175; (with_reducible refine cM.mono ?_); rintro e wn ⟨rfl, rfl⟩)
    go_ret
    exact ⟨rfl, rfl⟩
  · by_cases h1 : (y.length : Int) ≤ i
    · clear hk hmv
      go_enter Try.func174, Try.ntmps174
      go_wp2_with (go_at_call 175; (with_reducible refine cM.mono ?_); rintro e wn ⟨rfl, rfl⟩)
      go_ret
      exact ⟨rfl, rfl⟩
    · rw [Ex.mir_id (by omega) (by omega)] at hk
      subst hk
      clear hmv cM
      go_enter Try.func174, Try.ntmps174
      go_wp2
      go_ret
      exact ⟨rfl, rfl⟩
set_option maxHeartbeats 1000000 in
theorem ar_q (y : List Int) (i d : Int) (g n m bx ba br : Nat) (W : World) (hX : Bx W g n m bx ba br) (hy : y.length = n) (hH : HoldsI W (some ⟨g, 0, none⟩) y) (hn : 0 < n) (hn' : n ≤ 4096) (hd : 0 ≤ d) (hd' : d ≤ 50) (hi : 0 ≤ i) (hi' : i ≤ 9000) (hw : Ex.within 9007199254740992 y) :
    Calls Try.prog 155 #[.int .i64 i, .int .i64 d, .pointer (some ⟨ba, 0, none⟩)] W fun e w' => e = .returned (.int .i64 (Ex.ex 0 y (i - d) + Ex.ex 0 y (i + d))) ∧ ∃ q, w' = W.drewN q := by
  have hca := hX.ca
  have w1 : IntKind.i64.wrap (i - d) = i - d := IntWalk.i64_in _ (by omega)
  have w2 : IntKind.i64.wrap (i + d) = i + d := IntWalk.i64_in _ (by omega)
  have c1 := fun q => at1_q y (i - d) g n m bx ba br (W.drewN q) (hX.drewN q) hy (hH.drewN q) hn hn' (by omega) (by omega)
  have c2 := fun q => at1_q y (i + d) g n m bx ba br (W.drewN q) (hX.drewN q) hy (hH.drewN q) hn hn' (by omega) (by omega)
  have b1 := Ex.ex_bd (s := 0) (by omega) hw (i - d)
  have b2 := Ex.ex_bd (s := 0) (by omega) hw (i + d)
  obtain ⟨a1, e1⟩ : ∃ a1, Ex.ex 0 y (i - d) = a1 := ⟨_, rfl⟩
  obtain ⟨a2, e2⟩ : ∃ a2, Ex.ex 0 y (i + d) = a2 := ⟨_, rfl⟩
  rw [e1] at b1 c1
  rw [e2] at b2 c2
  rw [e1, e2]
  have w3 : IntKind.i64.wrap (a1 + a2) = a1 + a2 := IntWalk.i64_in _ (by omega)
  have w3' : wrap64 (a1 + a2) = a1 + a2 := IntWalk.wrap64_in _ ⟨by omega, by omega⟩
  clear e1 e2 hX hH hw hy
  go_enter Try.func155, Try.ntmps155
  go_wp2_with fail
  go_quiet (first | (go_at_call 174; with_reducible exact Calls.quiet_of_same (c1 _)) | (go_at_call 174; with_reducible exact Calls.quiet_of_same (c2 _)))
  go_wp2
  go_ret
  exact ⟨rfl, _, rfl⟩
set_option maxHeartbeats 1000000 in
theorem s2_q (y : List Int) (i : Int) (g n m bx ba br : Nat) (W : World) (hX : Bx W g n m bx ba br) (hy : y.length = n) (hH : HoldsI W (some ⟨g, 0, none⟩) y) (hn : 0 < n) (hn' : n ≤ 4096) (hi : 0 ≤ i) (hi' : i ≤ 9000) (hw : Ex.within 9007199254740992 y) (kn : Int) (hk : kn = 2 ∨ kn = 3) :
    Calls Try.prog 156 #[.int .i64 i, .pointer (some ⟨br, 0, none⟩)] W fun e w' => e = .returned (.int .i64 (Ex.updF (Ex.ex 0 y) i kn)) ∧ ∃ q, w' = W.drewN q := by
  have hcr := hX.cr
  have c1 := ar_q y i 1 g n m bx ba br W hX hy hH hn hn' (by decide) (by decide) hi hi' hw
  have b1l := Ex.ex_bd (s := 0) (by omega) hw (i - 1)
  have b1r := Ex.ex_bd (s := 0) (by omega) hw (i + 1)
  obtain ⟨p1, e1l⟩ : ∃ a, Ex.ex 0 y (i - 1) = a := ⟨_, rfl⟩
  obtain ⟨r1, e1r⟩ : ∃ a, Ex.ex 0 y (i + 1) = a := ⟨_, rfl⟩
  rw [e1l] at b1l c1
  rw [e1r] at b1r c1
  rw [Ex.updF, if_neg (by omega), e1l, e1r]
  clear e1l e1r
  have w1 : IntKind.i64.wrap (p1 + r1 + 2) = p1 + r1 + 2 := IntWalk.i64_in _ (by omega)
  have w1' : wrap64 (p1 + r1 + 2) = p1 + r1 + 2 := IntWalk.wrap64_in _ ⟨by omega, by omega⟩
  clear hX hH hw hy
  go_enter Try.func156, Try.ntmps156
  go_wp2_with (go_at_call 155; (with_reducible refine c1.mono ?_); rintro e wn ⟨rfl, q, rfl⟩)
  go_ret
  exact ⟨rfl, _, rfl⟩
set_option maxHeartbeats 1000000 in
theorem s3_q (y : List Int) (i : Int) (g n m bx ba br : Nat) (W : World) (hX : Bx W g n m bx ba br) (hy : y.length = n) (hH : HoldsI W (some ⟨g, 0, none⟩) y) (hn : 0 < n) (hn' : n ≤ 4096) (hi : 0 ≤ i) (hi' : i ≤ 9000) :
    Calls Try.prog 157 #[.int .i64 i, .pointer (some ⟨ba, 0, none⟩)] W fun e w' => e = .returned (.int .i64 (Ex.predF (Ex.ex 0 y) i 1)) ∧ ∃ q, w' = W.drewN q := by
  have hca := hX.ca
  have w1 : IntKind.i64.wrap (i - 1) = i - 1 := IntWalk.i64_in _ (by omega)
  have c1 := at1_q y (i - 1) g n m bx ba br W hX hy hH hn hn' (by omega) (by omega)
  obtain ⟨p1, e1l⟩ : ∃ a, Ex.ex 0 y (i - 1) = a := ⟨_, rfl⟩
  rw [e1l] at c1
  rw [Ex.predF, if_pos rfl, e1l]
  clear e1l
  clear hX hH hy
  go_enter Try.func157, Try.ntmps157
  go_wp2_with (go_at_call 174; (with_reducible refine c1.mono ?_); rintro e wn ⟨rfl, rfl⟩)
  go_ret
  exact ⟨rfl, 0, rfl⟩
set_option maxHeartbeats 1000000 in
theorem s4_q (y : List Int) (i : Int) (g n m bx ba br : Nat) (W : World) (hX : Bx W g n m bx ba br) (hy : y.length = n) (hH : HoldsI W (some ⟨g, 0, none⟩) y) (hn : 0 < n) (hn' : n ≤ 4096) (hi : 0 ≤ i) (hi' : i ≤ 9000) :
    Calls Try.prog 158 #[.int .i64 i, .pointer (some ⟨ba, 0, none⟩)] W fun e w' => e = .returned (.int .i64 (Ex.updF (Ex.ex 0 y) i 1)) ∧ ∃ q, w' = W.drewN q := by
  have hca := hX.ca
  have w1 : IntKind.i64.wrap (i + 1) = i + 1 := IntWalk.i64_in _ (by omega)
  have c1 := at1_q y (i + 1) g n m bx ba br W hX hy hH hn hn' (by omega) (by omega)
  obtain ⟨p1, e1l⟩ : ∃ a, Ex.ex 0 y (i + 1) = a := ⟨_, rfl⟩
  rw [e1l] at c1
  rw [Ex.updF, if_pos rfl, e1l]
  clear e1l
  clear hX hH hy
  go_enter Try.func158, Try.ntmps158
  go_wp2_with (go_at_call 174; (with_reducible refine c1.mono ?_); rintro e wn ⟨rfl, rfl⟩)
  go_ret
  exact ⟨rfl, 0, rfl⟩
set_option maxHeartbeats 1000000 in
theorem s5_q (y : List Int) (i : Int) (g n m bx ba br : Nat) (W : World) (hX : Bx W g n m bx ba br) (hy : y.length = n) (hH : HoldsI W (some ⟨g, 0, none⟩) y) (hn : 0 < n) (hn' : n ≤ 4096) (hi : 0 ≤ i) (hi' : i ≤ 9000) (hw : Ex.within 9007199254740992 y) :
    Calls Try.prog 159 #[.int .i64 i, .pointer (some ⟨br, 0, none⟩)] W fun e w' => e = .returned (.int .i64 (Ex.predF (Ex.ex 0 y) i 2)) ∧ ∃ q, w' = W.drewN q := by
  have hcr := hX.cr
  have c1 := ar_q y i 1 g n m bx ba br W hX hy hH hn hn' (by decide) (by decide) hi hi' hw
  have b1l := Ex.ex_bd (s := 0) (by omega) hw (i - 1)
  have b1r := Ex.ex_bd (s := 0) (by omega) hw (i + 1)
  obtain ⟨p1, e1l⟩ : ∃ a, Ex.ex 0 y (i - 1) = a := ⟨_, rfl⟩
  obtain ⟨r1, e1r⟩ : ∃ a, Ex.ex 0 y (i + 1) = a := ⟨_, rfl⟩
  rw [e1l] at b1l c1
  rw [e1r] at b1r c1
  rw [Ex.predF, if_neg (by decide), if_pos rfl, e1l, e1r]
  clear e1l e1r
  clear hX hH hw hy
  go_enter Try.func159, Try.ntmps159
  go_wp2_with (go_at_call 155; (with_reducible refine c1.mono ?_); rintro e wn ⟨rfl, q, rfl⟩)
  go_ret
  exact ⟨rfl, _, rfl⟩
set_option maxHeartbeats 1000000 in
theorem s6_q (y : List Int) (i : Int) (g n m bx ba br : Nat) (W : World) (hX : Bx W g n m bx ba br) (hy : y.length = n) (hH : HoldsI W (some ⟨g, 0, none⟩) y) (hn : 0 < n) (hn' : n ≤ 4096) (hi : 0 ≤ i) (hi' : i ≤ 9000) (hw : Ex.within 9007199254740992 y) :
    Calls Try.prog 160 #[.int .i64 i, .pointer (some ⟨br, 0, none⟩)] W fun e w' => e = .returned (.int .i64 (Ex.predF (Ex.ex 0 y) i 3)) ∧ ∃ q, w' = W.drewN q := by
  have hcr := hX.cr
  have c1 := fun q => ar_q y i 1 g n m bx ba br (W.drewN q) (hX.drewN q) hy (hH.drewN q) hn hn' (by decide) (by decide) hi hi' hw
  have b1l := Ex.ex_bd (s := 0) (by omega) hw (i - 1)
  have b1r := Ex.ex_bd (s := 0) (by omega) hw (i + 1)
  obtain ⟨p1, e1l⟩ : ∃ a, Ex.ex 0 y (i - 1) = a := ⟨_, rfl⟩
  obtain ⟨r1, e1r⟩ : ∃ a, Ex.ex 0 y (i + 1) = a := ⟨_, rfl⟩
  rw [e1l] at b1l c1
  rw [e1r] at b1r c1
  have c2 := fun q => ar_q y i 3 g n m bx ba br (W.drewN q) (hX.drewN q) hy (hH.drewN q) hn hn' (by decide) (by decide) hi hi' hw
  have b2l := Ex.ex_bd (s := 0) (by omega) hw (i - 3)
  have b2r := Ex.ex_bd (s := 0) (by omega) hw (i + 3)
  obtain ⟨p2, e2l⟩ : ∃ a, Ex.ex 0 y (i - 3) = a := ⟨_, rfl⟩
  obtain ⟨r2, e2r⟩ : ∃ a, Ex.ex 0 y (i + 3) = a := ⟨_, rfl⟩
  rw [e2l] at b2l c2
  rw [e2r] at b2r c2
  rw [Ex.predF, if_neg (by decide), if_neg (by decide), e1l, e1r, e2l, e2r]
  clear e1l e1r e2l e2r
  have w1 : IntKind.i64.wrap (9 * (p1 + r1)) = 9 * (p1 + r1) := IntWalk.i64_in _ (by omega)
  have w1' : wrap64 (9 * (p1 + r1)) = 9 * (p1 + r1) := IntWalk.wrap64_in _ ⟨by omega, by omega⟩
  have w2 : IntKind.i64.wrap (9 * (p1 + r1) - (p2 + r2)) = 9 * (p1 + r1) - (p2 + r2) := IntWalk.i64_in _ (by omega)
  have w2' : wrap64 (9 * (p1 + r1) - (p2 + r2)) = 9 * (p1 + r1) - (p2 + r2) := IntWalk.wrap64_in _ ⟨by omega, by omega⟩
  have w3 : IntKind.i64.wrap (9 * (p1 + r1) - (p2 + r2) + 8) = 9 * (p1 + r1) - (p2 + r2) + 8 := IntWalk.i64_in _ (by omega)
  have w3' : wrap64 (9 * (p1 + r1) - (p2 + r2) + 8) = 9 * (p1 + r1) - (p2 + r2) + 8 := IntWalk.wrap64_in _ ⟨by omega, by omega⟩
  clear hX hH hw hy
  go_enter Try.func160, Try.ntmps160
  go_wp2_with fail
  go_quiet (first | (go_at_call 155; with_reducible exact Calls.quiet_of (c1 _)) | (go_at_call 155; with_reducible exact Calls.quiet_of (c2 _)))
  go_wp2
  go_ret
  exact ⟨rfl, _, rfl⟩
/-- What one pass over every other index leaves. -/
theorem mix_past {A B : List Int} {k : Nat} (hl : A.length = B.length) (hk : B.length ≤ k) : mixT A B k = A := by
  simp [mixT, List.take_of_length_le (hl ▸ hk), List.drop_eq_nil_of_le hk]
theorem mix_get {A B : List Int} {k j : Nat} (hl : A.length = B.length) (hj : j < B.length) : (mixT A B k)[j]'(by simp [mixT]; omega) = if j < k then A[j] else B[j] := by
  by_cases h : j < k
  · rw [if_pos h]
    simp only [mixT]
    rw [List.getElem_append_left (by simp; omega), List.getElem_take]
  · rw [if_neg h]
    simp only [mixT]
    rw [List.getElem_append_right (by simp; omega)]
    simp only [List.getElem_drop]
    congr 1
    simp; omega
/-- The world of a row whose number at a place is written: what is kept. -/
def ApplyTo (w w0 : World) (g : Nat) (A : List Int) (e : Ending) (w' : World) : Prop := e = .returned (.tuple #[]) ∧ Yr w w' g A ∧ SameBut g w0 w'
theorem Yr.drewN {w W : World} {g : Nat} {y : List Int} (h : Yr w W g y) (q : Nat) : Yr w (W.drewN q) g y := ⟨below_drewN h.below q, h.row, h.hg⟩
set_option maxRecDepth 100000 in
set_option maxHeartbeats 2000000 in
theorem apply_q (w w0 : World) (g n m f : Nat) (A B : List Int) (c : Int) (gf : Nat) (lb : Array Value) (F : Nat → Int) (eg : ∀ args w, (callFunc gf args).run Try.prog w = .ok (.enter gf args) w)
    (hf : f ≤ 1) (hlB : B.length = n) (hl : A.length = B.length) (hn : 1 < n) (hn' : n ≤ 4096) (hY0 : Yr w w0 g B)
    (hS : ∀ (k : Nat) (W : World), k < n → k % 2 = f % 2 → SameBut g w0 W → HoldsI W (some ⟨g, 0, none⟩) (mixT A B k) → Calls Try.prog gf (#[.int .i64 k] ++ lb) W fun e w' => e = .returned (.int .i64 (F k)) ∧ ∃ q, w' = W.drewN q)
    (hA1 : ∀ k (hk : k < B.length), k % 2 = f % 2 → A[k] = B[k] + c * F k) (hA0 : ∀ k (hk : k < B.length), k % 2 ≠ f % 2 → A[k] = B[k])
    (hbA : Ex.within 9007199254740992 A) (hbB : Ex.within 9007199254740992 B) :
    Calls Try.prog 126 #[.slice (some ⟨g, 0, none⟩) n m, .int .i64 f, .int .i64 c, .func (.func gf) #[] lb] w0 (ApplyTo w w0 g A) := by
  obtain ⟨J, hJ⟩ : ∃ J : Nat, (n - f + 1) / 2 = J := ⟨_, rfl⟩
  have w1 : IntKind.i64.wrap ((n : Int) - (f : Int)) = (n : Int) - (f : Int) := IntWalk.i64_in _ (by omega)
  have w2 : IntKind.i64.wrap ((n : Int) - (f : Int) + 1) = (n : Int) - (f : Int) + 1 := IntWalk.i64_in _ (by omega)
  have t1 : ((n : Int) - (f : Int) + 1).tdiv 2 = (J : Int) := by rw [Int.tdiv_eq_ediv_of_nonneg (by omega)]; omega
  have w3 : IntKind.i64.wrap (J : Int) = (J : Int) := IntWalk.i64_in _ (by omega)
  have HA0 : Hid _ := hA0
  have HA1 : Hid _ := hA1
  clear hA0 hA1
  have Y0 : Yr w w0 g (mixT A B (f + 2 * 0)) := by
    by_cases h : f = 0
    · subst h
      rw [show 0 + 2 * 0 = 0 by omega, mix_zero]; exact hY0
    · obtain rfl : f = 1 := by omega
      rw [show 1 + 2 * 0 = 0 + 1 by omega, ← mix_same hl (by omega) (HA0.out 0 (by omega) (by omega)), mix_zero]
      exact hY0
  clear hY0
  go_enter Try.func126, Try.ntmps126
  go_wp2_with fail
  go_loopw [8, 9, 16] (fun _ _ i wr => ∃ j : Nat, j ≤ J ∧ i = .int .i64 j ∧ Yr w wr g (mixT A B (f + 2 * j)) ∧ SameBut g w0 wr) (fun _ _ i _ => J - (intOf i).toNat)
  case atStart => exact ⟨0, Nat.zero_le _, rfl, Y0, SameBut.refl _ _⟩
  case round =>
    obtain ⟨j, hj, rfl, hY, hSB⟩ := hrel
    clear Y0
    by_cases hlt : j < J
    · have hji : (j : Int) < (J : Int) := by omega
      obtain ⟨k, hk⟩ : ∃ k : Nat, f + 2 * j = k := ⟨_, rfl⟩
      rw [hk] at hY
      have hkn : k < n := by omega
      have hkB : k < B.length := by omega
      have hkA : k < A.length := by omega
      have w4 : IntKind.i64.wrap ((j : Int) + 1) = (j : Int) + 1 := IntWalk.i64_in _ (by omega)
      have w5 : IntKind.i64.wrap (2 * (j : Int)) = 2 * (j : Int) := IntWalk.i64_in _ (by omega)
      have w5' : wrap64 (2 * (j : Int)) = 2 * (j : Int) := IntWalk.wrap64_in _ ⟨by omega, by omega⟩
      have w6 : IntKind.i64.wrap ((f : Int) + 2 * (j : Int)) = (k : Int) := by rw [IntWalk.i64_in _ (by omega)]; omega
      have hkf : k % 2 = f % 2 := by omega
      have gx := HA1.out k hkB hkf
      have y0 := hY.at (k := k) (by rw [mix_len hl]; exact hkB)
      rw [mix_at hl hkB] at y0
      have z1 := hY.free k
      have hset := fun q => (hY.drewN q).set (k := k) (by rw [mix_len hl]; exact hkB) (A[k]'hkA)
      rw [mix_next hl hkB] at hset
      have hnext : mixT A B (k + 1) = mixT A B (f + 2 * (j + 1)) := by
        by_cases h : k + 1 < B.length
        · rw [mix_same hl h (HA0.out _ h (by omega)), show k + 1 + 1 = f + 2 * (j + 1) by omega]
        · rw [mix_past hl (by omega), mix_past hl (by omega)]
      rw [hnext] at hset
      have hsb := fun q v => (hSB.drewN q).set (j := k) v
      have cP := hS k wr.drew hkn hkf hSB.drew hY.drew.holds
      have hSA := hbA _ (List.getElem_mem hkA)
      have hSB2 := hbB _ (List.getElem_mem hkB)
      generalize F k = P at *
      generalize A[k]'hkA = S at *
      generalize B[k]'hkB = X at *
      obtain ⟨Q, hQ⟩ : ∃ Q, c * P = Q := ⟨_, rfl⟩
      rw [hQ] at gx
      have w7 : IntKind.i64.wrap (c * P) = Q := by rw [hQ, IntWalk.i64_in _ (by omega)]
      have w7' : wrap64 (c * P) = Q := by rw [hQ]; exact IntWalk.wrap64_in _ ⟨by omega, by omega⟩
      have w8 : IntKind.i64.wrap (X + Q) = S := by rw [IntWalk.i64_in _ (by omega)]; exact gx.symm
      have hki : (k : Int) < (n : Int) := by omega
      have HY : Hid _ := hset
      have HSB : Hid _ := hsb
      clear hSA hSB2 gx hset hsb hY hSB hnext hQ hkf hk
      go_wp2_with fail
      go_region_law (first | (go_simp; go_at_fn gf; (with_reducible refine cP.mono ?_); rintro e wn ⟨rfl, q, rfl⟩; go_wp2_with fail))
      all_goals
        go_wp2
        go_roundw
        case rel => exact ⟨j + 1, by omega, by go_num, HY.out _, HSB.out _ _⟩
        case measure => simp [intOf]; omega
    · obtain rfl : j = J := by omega
      have HY : Hid (Yr w wr g A) := by
        rw [mix_past hl (by omega)] at hY; exact hY
      have HSB : Hid _ := hSB
      clear hY hSB
      go_wp2
      first | go_end0 | go_ret
      exact ⟨rfl, HY.out, HSB.out⟩
/-- What the steps of a kernel return, whatever the signal's numbers are by then. -/
def StepOf (W : World) (g n : Nat) (f : Nat) (lb : Array Value) (G : List Int → Int → Int) : Prop :=
  (∀ args w, (callFunc f args).run Try.prog w = .ok (.enter f args) w) ∧ ∀ (y : List Int) (i : Int) (W1 : World), SameBut g W W1 → y.length = n → HoldsI W1 (some ⟨g, 0, none⟩) y → 0 ≤ i → i ≤ 9000 → Ex.within 9007199254740992 y →
    Calls Try.prog f (#[.int .i64 i] ++ lb) W1 fun e w' => e = .returned (.int .i64 (G y i)) ∧ ∃ q, w' = W1.drewN q
/-- The two steps of a kernel. -/
def GivesSteps (g n : Nat) (kn : Int) (w0 : World) (e : Ending) (w' : World) : Prop :=
  ∃ pf plb uf ulb, e = .returned (.tuple #[.func (.func pf) #[] plb, .func (.func uf) #[] ulb]) ∧ Below w0.heap.size w0 w' ∧ StepOf w' g n pf plb (fun y i => Ex.predF (Ex.ex 0 y) i kn) ∧ StepOf w' g n uf ulb (fun y i => Ex.updF (Ex.ex 0 y) i kn)
theorem xt_q (s : Option Addr) (n m : Nat) (w : World) : Calls Try.prog 154 #[.slice s n m] w fun e w' => e = .returned (.func (.func 174) #[] #[.pointer (some ⟨w.heap.size, 0, none⟩)]) ∧ w' = w.alloc (.cells #[.slice s n m] 24) := by
  go_enter Try.func154, Try.ntmps154
  go_wp2
  go_ret
  exact ⟨rfl, rfl⟩
theorem bx_stepP (kn : Int) (W : World) (g n m bx ba br : Nat) (hX : Bx W g n m bx ba br) (hn : 0 < n) (hn' : n ≤ 4096) :
    (kn = 1 → StepOf W g n 157 #[.pointer (some ⟨ba, 0, none⟩)] (fun y i => Ex.predF (Ex.ex 0 y) i kn) ∧ StepOf W g n 158 #[.pointer (some ⟨ba, 0, none⟩)] (fun y i => Ex.updF (Ex.ex 0 y) i kn)) ∧
    (kn = 2 → StepOf W g n 159 #[.pointer (some ⟨br, 0, none⟩)] (fun y i => Ex.predF (Ex.ex 0 y) i kn)) ∧
    (kn = 3 → StepOf W g n 160 #[.pointer (some ⟨br, 0, none⟩)] (fun y i => Ex.predF (Ex.ex 0 y) i kn)) ∧
    (kn = 2 ∨ kn = 3 → StepOf W g n 156 #[.pointer (some ⟨br, 0, none⟩)] (fun y i => Ex.updF (Ex.ex 0 y) i kn)) := by
  refine ⟨fun h => ?_, fun h => ?_, fun h => ?_, fun h => ?_⟩
  · subst h
    exact ⟨⟨enters_of (fn := Try.f157) (by kernel_rfl) (by kernel_rfl) rfl, fun y i W1 hs hy hH hi hi' _ => s3_q y i g n m bx ba br W1 (hX.same hs) hy hH hn hn' hi hi'⟩,
      ⟨enters_of (fn := Try.f158) (by kernel_rfl) (by kernel_rfl) rfl, fun y i W1 hs hy hH hi hi' _ => s4_q y i g n m bx ba br W1 (hX.same hs) hy hH hn hn' hi hi'⟩⟩
  · subst h
    exact ⟨enters_of (fn := Try.f159) (by kernel_rfl) (by kernel_rfl) rfl, fun y i W1 hs hy hH hi hi' hw => s5_q y i g n m bx ba br W1 (hX.same hs) hy hH hn hn' hi hi' hw⟩
  · subst h
    exact ⟨enters_of (fn := Try.f160) (by kernel_rfl) (by kernel_rfl) rfl, fun y i W1 hs hy hH hi hi' hw => s6_q y i g n m bx ba br W1 (hX.same hs) hy hH hn hn' hi hi' hw⟩
  · exact ⟨enters_of (fn := Try.f156) (by kernel_rfl) (by kernel_rfl) rfl, fun y i W1 hs hy hH hi hi' hw => s2_q y i g n m bx ba br W1 (hX.same hs) hy hH hn hn' hi hi' hw kn h⟩
theorem new_cell (w : World) (v : Value) (t : TypeId) (k : Nat) (hk : k = w.heap.size) : (w.alloc (.cells #[v] t)).cell? ⟨k, 0, none⟩ = some v := by
  subst hk
  simp
theorem bx_fresh (w0 : World) (g n m : Nat) (t1 t2 t3 : TypeId) (hg : g < w0.heap.size) :
    Bx (((w0.alloc (.cells #[.slice (some ⟨g, 0, none⟩) n m] t1)).alloc (.cells #[.func (.func 174) #[] #[.pointer (some ⟨w0.heap.size, 0, none⟩)]] t2)).alloc (.cells #[.func (.func 155) #[] #[.pointer (some ⟨w0.heap.size + 1, 0, none⟩)]] t3)) g n m w0.heap.size (w0.heap.size + 1) (w0.heap.size + 1 + 1) ∧
    Below w0.heap.size w0 (((w0.alloc (.cells #[.slice (some ⟨g, 0, none⟩) n m] t1)).alloc (.cells #[.func (.func 174) #[] #[.pointer (some ⟨w0.heap.size, 0, none⟩)]] t2)).alloc (.cells #[.func (.func 155) #[] #[.pointer (some ⟨w0.heap.size + 1, 0, none⟩)]] t3)) := by
  refine ⟨⟨?_, ?_, ?_, by omega, by omega, by omega⟩, ((((Below.refl _ w0).alloc (Nat.le_refl _) _).alloc (by simp) _).alloc (by simp; omega) _)⟩
  · exact cell_alloc (cell_alloc (new_cell _ _ _ _ rfl) _) _
  · exact cell_alloc (new_cell _ _ _ _ (by simp)) _
  · exact new_cell _ _ _ _ (by simp)
theorem steps_q (g n m : Nat) (kn : Int) (w0 : World) (hk : kn = 1 ∨ kn = 2 ∨ kn = 3) (hg : g < w0.heap.size) (hn : 0 < n) (hn' : n ≤ 4096) :
    Calls Try.prog 125 #[.slice (some ⟨g, 0, none⟩) n m, .int .i64 kn] w0 (GivesSteps g n kn w0) := by
  have hsf := fun (w : World) (a : Addr) (k : Nat) (c : Array Value) (md : Mode) => run_store Try.prog w a (.func (.func k) #[] c) md rfl
  rcases hk with rfl | rfl | rfl
  · go_enter Try.func125, Try.ntmps125
    go_wp2_with (go_at_call 154; refine (xt_q _ _ _ _).mono ?_; rintro e wn ⟨rfl, rfl⟩)
    go_ret2
    obtain ⟨hX, hB⟩ := bx_fresh w0 g n m 24 43 103 hg
    have s := bx_stepP 1 _ g n m _ _ _ hX hn hn'
    exact ⟨_, _, _, _, rfl, hB, (s.1 rfl).1, (s.1 rfl).2⟩
  · go_enter Try.func125, Try.ntmps125
    go_wp2_with (go_at_call 154; refine (xt_q _ _ _ _).mono ?_; rintro e wn ⟨rfl, rfl⟩)
    go_ret2
    obtain ⟨hX, hB⟩ := bx_fresh w0 g n m 24 43 103 hg
    have s := bx_stepP 2 _ g n m _ _ _ hX hn hn'
    exact ⟨_, _, _, _, rfl, hB, s.2.1 rfl, s.2.2.2 (.inl rfl)⟩
  · go_enter Try.func125, Try.ntmps125
    go_wp2_with (go_at_call 154; refine (xt_q _ _ _ _).mono ?_; rintro e wn ⟨rfl, rfl⟩)
    go_ret2
    obtain ⟨hX, hB⟩ := bx_fresh w0 g n m 24 43 103 hg
    have s := bx_stepP 3 _ g n m _ _ _ hX hn hn'
    exact ⟨_, _, _, _, rfl, hB, s.2.2.1 rfl, s.2.2.2 (.inr rfl)⟩
theorem mix_par {st p : Int} {A B : List Int} {k : Nat} (hl : A.length = B.length) (h : ∀ j (hj : j < B.length), (st + (j : Int)) % 2 = p → A[j] = B[j]) {i : Int} (h0 : st ≤ i) (h1 : i < st + B.length) (hp : i % 2 = p) : Ex.sg st (mixT A B k) i = Ex.sg st B i := by
  obtain ⟨j, rfl⟩ : ∃ j : Nat, i = st + (j : Int) := ⟨(i - st).toNat, by omega⟩
  have hj : j < B.length := by omega
  rw [Ex.sg_at hj, Ex.sg_at (x := mixT A B k) (by rw [mix_len hl]; exact hj), mix_get hl hj]
  split
  · exact h j hj hp
  · rfl
theorem pred_mix {st kn : Int} {A B : List Int} {k : Nat} (hl : A.length = B.length) (hn : 1 < B.length) (h : ∀ j (hj : j < B.length), (st + (j : Int)) % 2 = 0 → A[j] = B[j]) (hk : (st + (k : Int)) % 2 = 1) :
    Ex.predF (Ex.ex 0 (mixT A B k)) k kn = Ex.predF (Ex.ex st B) (st + k) kn := by
  have e := Ex.pred_shift 0 st (mixT A B k) k kn
  rw [Int.zero_add] at e
  rw [← e, Int.add_comm]
  exact Ex.pred_congr hk fun j hj => Ex.ex_par (mix_len hl) hn (fun i h0 h1 h2 => mix_par hl h h0 h1 h2) hj
theorem upd_mix {st kn : Int} {A B : List Int} {k : Nat} (hl : A.length = B.length) (hn : 1 < B.length) (h : ∀ j (hj : j < B.length), (st + (j : Int)) % 2 = 1 → A[j] = B[j]) (hk : (st + (k : Int)) % 2 = 0) :
    Ex.updF (Ex.ex 0 (mixT A B k)) k kn = Ex.updF (Ex.ex st B) (st + k) kn := by
  have e := Ex.upd_shift 0 st (mixT A B k) k kn
  rw [Int.zero_add] at e
  rw [← e, Int.add_comm]
  exact Ex.upd_congr hk fun j hj => Ex.ex_par (mix_len hl) hn (fun i h0 h1 h2 => mix_par hl h h0 h1 h2) hj
theorem mix_within {b : Int} {A B : List Int} {k : Nat} (hA : Ex.within b A) (hB : Ex.within b B) : Ex.within b (mixT A B k) := by
  intro v hv
  simp only [mixT, List.mem_append] at hv
  rcases hv with hv | hv
  · exact hA v (List.mem_of_mem_take hv)
  · exact hB v (List.mem_of_mem_drop hv)
theorem Gl.base {w w1 W : World} {v : Value} {l : List Int} (hb : Below w.heap.size w w1) (h : Gl w1 v l W) : Gl w v l W := by
  refine ⟨below_call hb h.below, h.own.1, ?_⟩
  rcases h.own.2 with h' | ⟨g, cap, cur, rfl, h3, h4⟩
  · exact .inl h'
  · exact .inr ⟨g, cap, cur, rfl, Nat.le_trans hb.size h3, h4⟩
theorem pass_s1 (w w0 W0 : World) (g n m : Nat) (st kn : Int) (B : List Int) (pf : Nat) (plb : Array Value) (hlB : B.length = n) (hn : 1 < n) (hn' : n ≤ 4096) (hY : Yr w w0 g B) (hW : SameBut g W0 w0) (hS : StepOf W0 g n pf plb (fun y i => Ex.predF (Ex.ex 0 y) i kn))
    (hbA : Ex.within 9007199254740992 (Ex.step1 st B kn)) (hbB : Ex.within 9007199254740992 B) :
    Calls Try.prog 126 #[.slice (some ⟨g, 0, none⟩) n m, .int .i64 (1 - st % 2), .int .i64 (-1), .func (.func pf) #[] plb] w0 (ApplyTo w w0 g (Ex.step1 st B kn)) := by
  obtain ⟨f, hf⟩ : ∃ f : Nat, 1 - st % 2 = (f : Int) := ⟨(1 - st % 2).toNat, by omega⟩
  have hl : (Ex.step1 st B kn).length = B.length := Ex.step1_len _ _ _
  have hsame : ∀ j (hj : j < B.length), (st + (j : Int)) % 2 = 0 → (Ex.step1 st B kn)[j] = B[j] := fun k hk hp => (st1_get (st := st) (kn := kn) (l := B) hk).1 (by omega)
  rw [hf]
  refine apply_q w w0 g n m f _ B (-1) pf plb (fun k => Ex.predF (Ex.ex st B) (st + k) kn) hS.1 (by omega) hlB hl hn hn' hY (fun k W hk hkf hs hH => ?_) (fun k hk hkf => ?_) (fun k hk hkf => ?_) hbA hbB
  · have h := hS.2 (mixT (Ex.step1 st B kn) B k) k W (hW.trans hs) (by rw [mix_len hl]; exact hlB) hH (by omega) (by omega) (mix_within hbA hbB)
    rw [show (fun y i => Ex.predF (Ex.ex 0 y) i kn) (mixT (Ex.step1 st B kn) B k) (k : Int) = Ex.predF (Ex.ex st B) (st + k) kn from pred_mix hl (by omega) hsame (by omega)] at h
    exact h
  · have h := (st1_get (st := st) (kn := kn) (l := B) hk).2 (by omega)
    rw [h]
    generalize Ex.predF (Ex.ex st B) (st + (k : Int)) kn = Q
    omega
  · exact hsame k hk (by omega)
theorem pass_s2 (w w0 W0 : World) (g n m : Nat) (st kn : Int) (B : List Int) (pf : Nat) (plb : Array Value) (hlB : B.length = n) (hn : 1 < n) (hn' : n ≤ 4096) (hY : Yr w w0 g B) (hW : SameBut g W0 w0) (hS : StepOf W0 g n pf plb (fun y i => Ex.updF (Ex.ex 0 y) i kn))
    (hbA : Ex.within 9007199254740992 (Ex.step2 st B kn)) (hbB : Ex.within 9007199254740992 B) :
    Calls Try.prog 126 #[.slice (some ⟨g, 0, none⟩) n m, .int .i64 (st % 2), .int .i64 (1), .func (.func pf) #[] plb] w0 (ApplyTo w w0 g (Ex.step2 st B kn)) := by
  obtain ⟨f, hf⟩ : ∃ f : Nat, st % 2 = (f : Int) := ⟨(st % 2).toNat, by omega⟩
  have hl : (Ex.step2 st B kn).length = B.length := Ex.step2_len _ _ _
  have hsame : ∀ j (hj : j < B.length), (st + (j : Int)) % 2 = 1 → (Ex.step2 st B kn)[j] = B[j] := fun k hk hp => (st2_get (st := st) (kn := kn) (l := B) hk).2 (by omega)
  rw [hf]
  refine apply_q w w0 g n m f _ B (1) pf plb (fun k => Ex.updF (Ex.ex st B) (st + k) kn) hS.1 (by omega) hlB hl hn hn' hY (fun k W hk hkf hs hH => ?_) (fun k hk hkf => ?_) (fun k hk hkf => ?_) hbA hbB
  · have h := hS.2 (mixT (Ex.step2 st B kn) B k) k W (hW.trans hs) (by rw [mix_len hl]; exact hlB) hH (by omega) (by omega) (mix_within hbA hbB)
    rw [show (fun y i => Ex.updF (Ex.ex 0 y) i kn) (mixT (Ex.step2 st B kn) B k) (k : Int) = Ex.updF (Ex.ex st B) (st + k) kn from upd_mix hl (by omega) hsame (by omega)] at h
    exact h
  · have h := (st2_get (st := st) (kn := kn) (l := B) hk).1 (by omega)
    rw [h]
    generalize Ex.updF (Ex.ex st B) (st + (k : Int)) kn = Q
    omega
  · exact hsame k hk (by omega)
theorem pass_u2 (w w0 W0 : World) (g n m : Nat) (st kn : Int) (B : List Int) (pf : Nat) (plb : Array Value) (hlB : B.length = n) (hn : 1 < n) (hn' : n ≤ 4096) (hY : Yr w w0 g B) (hW : SameBut g W0 w0) (hS : StepOf W0 g n pf plb (fun y i => Ex.updF (Ex.ex 0 y) i kn))
    (hbA : Ex.within 9007199254740992 (Ex.unst2 st B kn)) (hbB : Ex.within 9007199254740992 B) :
    Calls Try.prog 126 #[.slice (some ⟨g, 0, none⟩) n m, .int .i64 (st % 2), .int .i64 (-1), .func (.func pf) #[] plb] w0 (ApplyTo w w0 g (Ex.unst2 st B kn)) := by
  obtain ⟨f, hf⟩ : ∃ f : Nat, st % 2 = (f : Int) := ⟨(st % 2).toNat, by omega⟩
  have hl : (Ex.unst2 st B kn).length = B.length := Ex.unst2_len _ _ _
  have hsame : ∀ j (hj : j < B.length), (st + (j : Int)) % 2 = 1 → (Ex.unst2 st B kn)[j] = B[j] := fun k hk hp => (un2_get (st := st) (kn := kn) (l := B) hk).2 (by omega)
  rw [hf]
  refine apply_q w w0 g n m f _ B (-1) pf plb (fun k => Ex.updF (Ex.ex st B) (st + k) kn) hS.1 (by omega) hlB hl hn hn' hY (fun k W hk hkf hs hH => ?_) (fun k hk hkf => ?_) (fun k hk hkf => ?_) hbA hbB
  · have h := hS.2 (mixT (Ex.unst2 st B kn) B k) k W (hW.trans hs) (by rw [mix_len hl]; exact hlB) hH (by omega) (by omega) (mix_within hbA hbB)
    rw [show (fun y i => Ex.updF (Ex.ex 0 y) i kn) (mixT (Ex.unst2 st B kn) B k) (k : Int) = Ex.updF (Ex.ex st B) (st + k) kn from upd_mix hl (by omega) hsame (by omega)] at h
    exact h
  · have h := (un2_get (st := st) (kn := kn) (l := B) hk).1 (by omega)
    rw [h]
    generalize Ex.updF (Ex.ex st B) (st + (k : Int)) kn = Q
    omega
  · exact hsame k hk (by omega)
theorem pass_u1 (w w0 W0 : World) (g n m : Nat) (st kn : Int) (B : List Int) (pf : Nat) (plb : Array Value) (hlB : B.length = n) (hn : 1 < n) (hn' : n ≤ 4096) (hY : Yr w w0 g B) (hW : SameBut g W0 w0) (hS : StepOf W0 g n pf plb (fun y i => Ex.predF (Ex.ex 0 y) i kn))
    (hbA : Ex.within 9007199254740992 (Ex.unst1 st B kn)) (hbB : Ex.within 9007199254740992 B) :
    Calls Try.prog 126 #[.slice (some ⟨g, 0, none⟩) n m, .int .i64 (1 - st % 2), .int .i64 (1), .func (.func pf) #[] plb] w0 (ApplyTo w w0 g (Ex.unst1 st B kn)) := by
  obtain ⟨f, hf⟩ : ∃ f : Nat, 1 - st % 2 = (f : Int) := ⟨(1 - st % 2).toNat, by omega⟩
  have hl : (Ex.unst1 st B kn).length = B.length := Ex.unst1_len _ _ _
  have hsame : ∀ j (hj : j < B.length), (st + (j : Int)) % 2 = 0 → (Ex.unst1 st B kn)[j] = B[j] := fun k hk hp => (un1_get (st := st) (kn := kn) (l := B) hk).1 (by omega)
  rw [hf]
  refine apply_q w w0 g n m f _ B (1) pf plb (fun k => Ex.predF (Ex.ex st B) (st + k) kn) hS.1 (by omega) hlB hl hn hn' hY (fun k W hk hkf hs hH => ?_) (fun k hk hkf => ?_) (fun k hk hkf => ?_) hbA hbB
  · have h := hS.2 (mixT (Ex.unst1 st B kn) B k) k W (hW.trans hs) (by rw [mix_len hl]; exact hlB) hH (by omega) (by omega) (mix_within hbA hbB)
    rw [show (fun y i => Ex.predF (Ex.ex 0 y) i kn) (mixT (Ex.unst1 st B kn) B k) (k : Int) = Ex.predF (Ex.ex st B) (st + k) kn from pred_mix hl (by omega) hsame (by omega)] at h
    exact h
  · have h := (un1_get (st := st) (kn := kn) (l := B) hk).2 (by omega)
    rw [h]
    generalize Ex.predF (Ex.ex st B) (st + (k : Int)) kn = Q
    omega
  · exact hsame k hk (by omega)
set_option maxHeartbeats 1000000 in
theorem fwd_cno1 (l : List Int) (st kn : Int) (s : Option Addr) (m : Nat) (w : World) (hk : kB kn = false) : Calls Try.prog 79 #[.slice s l.length m, .int .i64 st, .int .i64 kn] w (GivesSplit [] [] 3 w) := by
  go_enter Try.func79, Try.ntmps79
  go_wp2_with (go_at_call 122; refine (kn_q _ _).mono ?_; rintro e wn ⟨rfl, rfl⟩)
  go_ret3
  exact ⟨none, 0, none, 0, rfl, .inl rfl, .inl rfl, Below.refl _ _, ⟨Nat.le_refl _, fun _ => rfl, fresh_none _⟩, ⟨Nat.le_refl _, fun _ => rfl, fresh_none _⟩⟩
set_option maxHeartbeats 1000000 in
theorem fwd_cno2 (l : List Int) (st kn : Int) (s : Option Addr) (m : Nat) (w : World) (hk : kB kn = true) (hh : fwB l st = false) (hl : l.length ≤ 140737488351232) (hH : HoldsI w s l) : Calls Try.prog 79 #[.slice s l.length m, .int .i64 st, .int .i64 kn] w (GivesSplit [] [] 2 w) := by
  by_cases h1 : st < 0
  · go_enter Try.func79, Try.ntmps79
    go_wp2_with (go_at_call 122; refine (kn_q _ _).mono ?_; rintro e wn ⟨rfl, rfl⟩)
    go_ret3
    exact ⟨none, 0, none, 0, rfl, .inl rfl, .inl rfl, Below.refl _ _, ⟨Nat.le_refl _, fun _ => rfl, fresh_none _⟩, ⟨Nat.le_refl _, fun _ => rfl, fresh_none _⟩⟩
  · by_cases h2 : 4096 < st
    · go_enter Try.func79, Try.ntmps79
      go_wp2_with (go_at_call 122; refine (kn_q _ _).mono ?_; rintro e wn ⟨rfl, rfl⟩)
      go_ret3
      exact ⟨none, 0, none, 0, rfl, .inl rfl, .inl rfl, Below.refl _ _, ⟨Nat.le_refl _, fun _ => rfl, fresh_none _⟩, ⟨Nat.le_refl _, fun _ => rfl, fresh_none _⟩⟩
    · by_cases h3 : (4096 : Int) < (l.length : Int)
      · go_enter Try.func79, Try.ntmps79
        go_wp2_with (go_at_call 122; refine (kn_q _ _).mono ?_; rintro e wn ⟨rfl, rfl⟩)
        go_ret3
        exact ⟨none, 0, none, 0, rfl, .inl rfl, .inl rfl, Below.refl _ _, ⟨Nat.le_refl _, fun _ => rfl, fresh_none _⟩, ⟨Nat.le_refl _, fun _ => rfl, fresh_none _⟩⟩
      · have h4 : fewB l 281474976710656 = false := by
          cases hf : fewB l 281474976710656 with
          | false => rfl
          | true => rw [fwB, hf, Bool.and_true, decide_eq_false_iff_not] at hh; exact absurd ⟨by omega, by omega, by omega⟩ hh
        have cW := wi_q l 281474976710656 s m w (by decide) (by decide) (by omega) hH
        rw [h4] at cW
        clear hh h4
        go_enter Try.func79, Try.ntmps79
        go_wp2_with (first | (go_at_call 122; refine (kn_q _ _).mono ?_; rintro e wn ⟨rfl, rfl⟩) | (go_at_call 123; (with_reducible refine cW.mono ?_); rintro e w1 ⟨rfl, B1⟩))
        go_ret3
        exact ⟨none, 0, none, 0, rfl, .inl rfl, .inl rfl, B1, ⟨Nat.le_refl _, fun _ => rfl, fresh_none _⟩, ⟨Nat.le_refl _, fun _ => rfl, fresh_none _⟩⟩
set_option maxRecDepth 100000 in
set_option maxHeartbeats 2000000 in
theorem fwd_cyes (l : List Int) (st kn : Int) (s : Option Addr) (m : Nat) (w : World) (hk : kB kn = true) (hh : fwB l st = true) (hs : s = none → l.length = 0 ∧ m = 0) (hH : HoldsI w s l) : Calls Try.prog 79 #[.slice s l.length m, .int .i64 st, .int .i64 kn] w (GivesSplit (Ex.splitE st (Ex.fwdL st l kn)) (Ex.splitO st (Ex.fwdL st l kn)) 0 w) := by
  obtain ⟨⟨h1, h2, h3⟩, hw⟩ := fw_iff.1 hh
  have hkk := k_iff.1 hk
  have n1 : ¬ st < 0 := by omega
  have n2 : ¬ 4096 < st := by omega
  have n3 : ¬ (4096 : Int) < (l.length : Int) := by omega
  have cW := wi_q l 281474976710656 s m w (by decide) (by decide) (by omega) hH
  rw [few_iff.2 hw] at cW
  clear hh
  by_cases hn : 1 < l.length
  · have hni : (1 : Int) < (l.length : Int) := by omega
    obtain ⟨hwY, hwZ⟩ := fwd_within (st := st) hkk hw hn
    have hfin : Ex.fwdL st l kn = Ex.step2 st (Ex.step1 st l kn) kn := by rw [Ex.fwdL, if_pos hn]
    have HF : Hid _ := hfin
    have HW : Hid (Ex.within 9007199254740992 l ∧ Ex.within 9007199254740992 (Ex.step1 st l kn) ∧ Ex.within 9007199254740992 (Ex.step2 st (Ex.step1 st l kn) kn)) := ⟨within_mono hw (by decide), within_mono hwY (by decide), within_mono hwZ (by decide)⟩
    clear hfin hwY hwZ
    go_enter Try.func79, Try.ntmps79
    go_wp2_with (first | (go_at_call 122; refine (kn_q _ _).mono ?_; rintro e wn ⟨rfl, rfl⟩) | (go_at_call 123; (with_reducible refine cW.mono ?_); rintro e w1 ⟨rfl, B1⟩))
    refine (cl_q l s m w1 hs h3 (hH.call B1)).mono ?_
    rintro e w2 ⟨v, rfl, G1⟩
    have GB := G1.base B1
    obtain ⟨g, mg, rfl, hmg, Y0⟩ := Yr.of GB (by omega)
    have hg := Y0.lt
    have HY0 : Hid _ := Y0
    clear G1 GB cW n1 n2 n3 B1 Y0
    go_wp2_with fail
    refine (steps_q g l.length mg kn w2 hkk hg (by omega) h3).mono ?_
    rintro e w3 ⟨pf, plb, uf, ulb, rfl, B3, S1, S2⟩
    have Y1 : Yr w w3 g l := HY0.out.step B3
    have HY1 : Hid _ := Y1
    have HS1 : Hid _ := S1
    have HS2 : Hid _ := S2
    clear Y1 S1 S2 B3
    go_wp2_with (go_at_call 128; refine (fo_q _ h1 _).mono ?_; rintro e wn ⟨rfl, rfl⟩)
    refine (pass_s1 w w3 w3 g l.length mg st kn l pf plb rfl hn h3 HY1.out (SameBut.refl _ _) HS1.out HW.out.2.1 HW.out.1).mono ?_
    rintro e w4 ⟨rfl, Y2, SB⟩
    have HY2 : Hid _ := Y2
    have HSB : Hid _ := SB
    clear Y2 SB
    go_wp2_with (go_at_call 127; refine (fe_q _ h1 _).mono ?_; rintro e wn ⟨rfl, rfl⟩)
    refine (pass_s2 w w4 w3 g l.length mg st kn (Ex.step1 st l kn) uf ulb (Ex.step1_len _ _ _) hn h3 HY2.out HSB.out HS2.out HW.out.2.2 HW.out.2.1).mono ?_
    rintro e w5 ⟨rfl, Y3, _⟩
    have hlen : l.length = (Ex.step2 st (Ex.step1 st l kn) kn).length := by rw [Ex.step2_len, Ex.step1_len]
    have cS := split_cyes (Ex.step2 st (Ex.step1 st l kn) kn) st (some ⟨g, 0, none⟩) mg w5 (sp_iff.2 ⟨h1, h2, by omega⟩) Y3.holds
    rw [← hlen, ← HF.out] at cS
    have HB : Hid _ := Y3.below
    clear Y3 hlen
    go_wp2_with fail
    refine cS.mono ?_
    rintro e w6 ⟨s1, m1, s2, m2, rfl, a1, a2, hb, b1, b2⟩
    have HA1 : Hid _ := a1
    have HA2 : Hid _ := a2
    have HBB : Hid _ := below_call HB.out hb
    clear a1 a2 hb
    go_wp2
    go_ret3
    exact ⟨s1, m1, s2, m2, rfl, HA1.out, HA2.out, HBB.out, fresh_up HB.out b1, fresh_up HB.out b2⟩
  · have hni : ¬ (1 : Int) < (l.length : Int) := by omega
    have hfin : Ex.fwdL st l kn = l := by rw [Ex.fwdL, if_neg hn]
    rw [hfin]
    clear hfin
    go_enter Try.func79, Try.ntmps79
    go_wp2_with (first | (go_at_call 122; refine (kn_q _ _).mono ?_; rintro e wn ⟨rfl, rfl⟩) | (go_at_call 123; (with_reducible refine cW.mono ?_); rintro e w1 ⟨rfl, B1⟩))
    refine (cl_q l s m w1 hs h3 (hH.call B1)).mono ?_
    rintro e w2 ⟨v, rfl, G1⟩
    have GB := G1.base B1
    obtain ⟨sb, mb, rfl, lb, _⟩ := GB.holds
    have HB : Hid _ := GB.below
    have hsp := split_cyes l st sb mb w2 (sp_iff.2 ⟨h1, h2, h3⟩) lb
    clear G1 GB cW n1 n2 n3 B1
    go_wp2_with fail
    refine hsp.mono ?_
    rintro e w6 ⟨s1, m1, s2, m2, rfl, a1, a2, hb, b1, b2⟩
    have HA1 : Hid _ := a1
    have HA2 : Hid _ := a2
    have HBB : Hid _ := below_call HB.out hb
    clear a1 a2 hb
    go_wp2
    go_ret3
    exact ⟨s1, m1, s2, m2, rfl, HA1.out, HA2.out, HBB.out, fresh_up HB.out b1, fresh_up HB.out b2⟩
set_option maxHeartbeats 1000000 in
theorem inv_cno1 (e o : List Int) (st kn : Int) (s t : Option Addr) (m m' : Nat) (w : World) (hk : kB kn = false) : Calls Try.prog 65 #[.slice s e.length m, .slice t o.length m', .int .i64 st, .int .i64 kn] w (GivesE [] 3 w) := by
  go_enter Try.func65, Try.ntmps65
  go_wp2_with (go_at_call 122; refine (kn_q _ _).mono ?_; rintro e wn ⟨rfl, rfl⟩)
  go_ret2
  exact ⟨none, 0, rfl, .inl rfl, Below.refl _ _, Nat.le_refl _, fun _ => rfl, fresh_none _⟩
set_option maxHeartbeats 1000000 in
theorem inv_few (e o : List Int) (st kn : Int) (s t : Option Addr) (m m' : Nat) (w : World) (hk : kB kn = true) (hf : (fewB e 1125899906842624 && fewB o 1125899906842624) = false) (he : e.length ≤ 4611686018427387904) (ho : o.length ≤ 4611686018427387904) (hE : HoldsI w s e) (hO : HoldsI w t o) : Calls Try.prog 65 #[.slice s e.length m, .slice t o.length m', .int .i64 st, .int .i64 kn] w (GivesE [] 2 w) := by
  have cW := wi_q e 1125899906842624 s m w (by decide) (by decide) (by omega) hE
  cases hf1 : fewB e 1125899906842624 with
  | false =>
    rw [hf1] at cW
    clear hf
    go_enter Try.func65, Try.ntmps65
    go_wp2_with (first | (go_at_call 122; refine (kn_q _ _).mono ?_; rintro e wn ⟨rfl, rfl⟩) | (go_at_call 123; (with_reducible refine cW.mono ?_); rintro e w1 ⟨rfl, B1⟩))
    go_ret2
    exact ⟨none, 0, rfl, .inl rfl, B1, Nat.le_refl _, fun _ => rfl, fresh_none _⟩
  | true =>
    rw [hf1] at cW
    have hf2 : fewB o 1125899906842624 = false := by rw [hf1, Bool.true_and] at hf; exact hf
    clear hf
    go_enter Try.func65, Try.ntmps65
    go_wp2_with (first | (go_at_call 122; refine (kn_q _ _).mono ?_; rintro e wn ⟨rfl, rfl⟩) | (go_at_call 123; (with_reducible refine cW.mono ?_); rintro e w1 ⟨rfl, B1⟩; have cV := wi_q o 1125899906842624 t m' w1 (by decide) (by decide) (by omega) (hO.call B1); rw [hf2] at cV) | (go_at_call 123; (with_reducible refine cV.mono ?_); rintro e w2 ⟨rfl, B2⟩))
    go_ret2
    exact ⟨none, 0, rfl, .inl rfl, below_call B1 B2, Nat.le_refl _, fun _ => rfl, fresh_none _⟩
/-- Both lists are small: Join's answer decides. -/
theorem inv_bad (e o : List Int) (st kn : Int) (s t : Option Addr) (m m' : Nat) (w : World) (err : Int) (herr : err = 2 ∨ err = 4) (hk : kB kn = true) (hf1 : fewB e 1125899906842624 = true) (hf2 : fewB o 1125899906842624 = true) (he : e.length ≤ 4611686018427387904) (ho : o.length ≤ 4611686018427387904) (hE : HoldsI w s e) (hO : HoldsI w t o) (hJ : ∀ w1 : World, Calls Try.prog 124 #[.slice s e.length m, .slice t o.length m', .int .i64 st] w1 (GivesE [] err w1)) :
    Calls Try.prog 65 #[.slice s e.length m, .slice t o.length m', .int .i64 st, .int .i64 kn] w (GivesE [] err w) := by
  have cW := wi_q e 1125899906842624 s m w (by decide) (by decide) (by omega) hE
  rw [hf1] at cW
  rcases herr with rfl | rfl
  · go_enter Try.func65, Try.ntmps65
    go_wp2_with (first | (go_at_call 122; refine (kn_q _ _).mono ?_; rintro e wn ⟨rfl, rfl⟩) | (go_at_call 123; (with_reducible refine cW.mono ?_); rintro e w1 ⟨rfl, B1⟩; have cV := wi_q o 1125899906842624 t m' w1 (by decide) (by decide) (by omega) (hO.call B1); rw [hf2] at cV) | (go_at_call 123; (with_reducible refine cV.mono ?_); rintro e w2 ⟨rfl, B2⟩))
    refine (hJ _).mono ?_
    rintro e w3 ⟨s1, m1, rfl, _, B3, _, _⟩
    have HB : Hid _ := below_call (below_call B1 B2) B3
    clear B1 B2 B3
    go_wp2
    go_ret2
    exact ⟨none, 0, rfl, .inl rfl, HB.out, Nat.le_refl _, fun _ => rfl, fresh_none _⟩
  · go_enter Try.func65, Try.ntmps65
    go_wp2_with (first | (go_at_call 122; refine (kn_q _ _).mono ?_; rintro e wn ⟨rfl, rfl⟩) | (go_at_call 123; (with_reducible refine cW.mono ?_); rintro e w1 ⟨rfl, B1⟩; have cV := wi_q o 1125899906842624 t m' w1 (by decide) (by decide) (by omega) (hO.call B1); rw [hf2] at cV) | (go_at_call 123; (with_reducible refine cV.mono ?_); rintro e w2 ⟨rfl, B2⟩))
    refine (hJ _).mono ?_
    rintro e w3 ⟨s1, m1, rfl, _, B3, _, _⟩
    have HB : Hid _ := below_call (below_call B1 B2) B3
    clear B1 B2 B3
    go_wp2
    go_ret2
    exact ⟨none, 0, rfl, .inl rfl, HB.out, Nat.le_refl _, fun _ => rfl, fresh_none _⟩
theorem inv_cno2 (e o : List Int) (st kn : Int) (s t : Option Addr) (m m' : Nat) (w : World) (hk : kB kn = true) (hh : jnB st e.length o.length = false) (he : e.length ≤ 4611686018427387904) (ho : o.length ≤ 4611686018427387904) (hE : HoldsI w s e) (hO : HoldsI w t o) : Calls Try.prog 65 #[.slice s e.length m, .slice t o.length m', .int .i64 st, .int .i64 kn] w (GivesE [] 2 w) := by
  cases hf : (fewB e 1125899906842624 && fewB o 1125899906842624) with
  | false => exact inv_few e o st kn s t m m' w hk hf he ho hE hO
  | true =>
    rw [Bool.and_eq_true] at hf
    exact inv_bad e o st kn s t m m' w 2 (.inl rfl) hk hf.1 hf.2 he ho hE hO fun w1 => join_cno1 e o st s t m m' w1 hh he ho
theorem inv_cno3 (e o : List Int) (st kn : Int) (s t : Option Addr) (m m' : Nat) (w : World) (hk : kB kn = true) (hh : jnB st e.length o.length = true) (hf : (fewB e 1125899906842624 && fewB o 1125899906842624) = false) (hE : HoldsI w s e) (hO : HoldsI w t o) : Calls Try.prog 65 #[.slice s e.length m, .slice t o.length m', .int .i64 st, .int .i64 kn] w (GivesE [] 2 w) := by
  obtain ⟨_, _, h3⟩ := jn_iff.1 hh
  exact inv_few e o st kn s t m m' w hk hf (by omega) (by omega) hE hO
theorem inv_cno4 (e o : List Int) (st kn : Int) (s t : Option Addr) (m m' : Nat) (w : World) (hk : kB kn = true) (hh : jnB st e.length o.length = true) (hf1 : fewB e 1125899906842624 = true) (hf2 : fewB o 1125899906842624 = true) (hc : jcB st e.length o.length = false) (hE : HoldsI w s e) (hO : HoldsI w t o) : Calls Try.prog 65 #[.slice s e.length m, .slice t o.length m', .int .i64 st, .int .i64 kn] w (GivesE [] 4 w) := by
  obtain ⟨_, _, h3⟩ := jn_iff.1 hh
  exact inv_bad e o st kn s t m m' w 4 (.inr rfl) hk hf1 hf2 (by omega) (by omega) hE hO fun w1 => join_cno2 e o st s t m m' w1 hh hc
set_option maxRecDepth 100000 in
set_option maxHeartbeats 2000000 in
theorem inv_cyes (e o : List Int) (st kn : Int) (s t : Option Addr) (m m' : Nat) (w : World) (hk : kB kn = true) (hh : jnB st e.length o.length = true) (hf1 : fewB e 1125899906842624 = true) (hf2 : fewB o 1125899906842624 = true) (hc : jcB st e.length o.length = true) (hm : e.length ≤ m) (hm' : o.length ≤ m') (hE : HoldsI w s e) (hO : HoldsI w t o) : Calls Try.prog 65 #[.slice s e.length m, .slice t o.length m', .int .i64 st, .int .i64 kn] w (GivesE (Ex.invL st (Ex.joinL st e o) kn) 0 w) := by
  obtain ⟨h1, h2, h3⟩ := jn_iff.1 hh
  have hkk := k_iff.1 hk
  have cW := wi_q e 1125899906842624 s m w (by decide) (by decide) (by omega) hE
  rw [hf1] at cW
  have HJ := joinL_within (st := st) (by decide) (few_iff.1 hf1) (few_iff.1 hf2)
  obtain ⟨X, hX⟩ : ∃ X, Ex.joinL st e o = X := ⟨_, rfl⟩
  have hlX : X.length ≤ 4096 := by rw [← hX, Ex.joinL_len]; exact h3
  rw [hX] at HJ
  have cJ := fun w1 hE hO => join_row e o st s t m m' w1 hh hc hm hm' hE hO
  rw [hX] at cJ
  rw [hX]
  clear hX
  by_cases hn : 1 < X.length
  · have hni : (1 : Int) < (X.length : Int) := by omega
    have hfin : Ex.invL st X kn = Ex.unst1 st (Ex.unst2 st X kn) kn := by rw [Ex.invL, if_pos hn]
    have HF : Hid _ := hfin
    have w2b := un2_within (st := st) hkk HJ
    have w1b := un1_within (st := st) hkk w2b
    have HW : Hid (Ex.within 9007199254740992 X ∧ Ex.within 9007199254740992 (Ex.unst2 st X kn) ∧ Ex.within 9007199254740992 (Ex.unst1 st (Ex.unst2 st X kn) kn)) := ⟨within_mono HJ (by decide), within_mono w2b (by decide), within_mono w1b (by decide)⟩
    clear hfin w1b w2b HJ
    go_enter Try.func65, Try.ntmps65
    go_wp2_with (first | (go_at_call 122; refine (kn_q _ _).mono ?_; rintro e wn ⟨rfl, rfl⟩) | (go_at_call 123; (with_reducible refine cW.mono ?_); rintro e w1 ⟨rfl, B1⟩; have cV := wi_q o 1125899906842624 t m' w1 (by decide) (by decide) (by omega) (hO.call B1); rw [hf2] at cV) | (go_at_call 123; (with_reducible refine cV.mono ?_); rintro e w2 ⟨rfl, B2⟩))
    refine (cJ w2 (hE.call (below_call B1 B2)) (hO.call (below_call B1 B2))).mono ?_
    rintro e w3 ⟨g, rfl, hg0, R, B3⟩
    have hB := below_call (below_call B1 B2) B3
    have hgw : w.heap.size ≤ g := by have := (below_call B1 B2).size; omega
    have Y0 : Yr w w3 g X := ⟨hB, ⟨[], RowP.of R⟩, hgw⟩
    have hg := Y0.lt
    have HY0 : Hid _ := Y0
    clear R B1 B2 B3 hB Y0 cW cJ cV
    go_wp2_with fail
    refine (steps_q g X.length X.length kn w3 hkk hg (by omega) hlX).mono ?_
    rintro e w4 ⟨pf, plb, uf, ulb, rfl, B4, S1, S2⟩
    have Y1 : Yr w w4 g X := HY0.out.step B4
    have HY1 : Hid _ := Y1
    have HS1 : Hid _ := S1
    have HS2 : Hid _ := S2
    clear Y1 S1 S2 B4
    go_wp2_with (go_at_call 127; refine (fe_q _ h1 _).mono ?_; rintro e wn ⟨rfl, rfl⟩)
    refine (pass_u2 w w4 w4 g X.length X.length st kn X uf ulb rfl hn hlX HY1.out (SameBut.refl _ _) HS2.out HW.out.2.1 HW.out.1).mono ?_
    rintro e w5 ⟨rfl, Y2, SB⟩
    have HY2 : Hid _ := Y2
    have HSB : Hid _ := SB
    clear Y2 SB
    go_wp2_with (go_at_call 128; refine (fo_q _ h1 _).mono ?_; rintro e wn ⟨rfl, rfl⟩)
    refine (pass_u1 w w5 w4 g X.length X.length st kn (Ex.unst2 st X kn) pf plb (Ex.unst2_len _ _ _) hn hlX HY2.out HSB.out HS1.out HW.out.2.2 HW.out.2.1).mono ?_
    rintro e w6 ⟨rfl, Y3, _⟩
    have HB : Hid _ := Y3.below
    have HH : Hid _ := Y3.holds
    clear Y3
    go_wp2
    go_ret2
    refine ⟨some ⟨g, 0, none⟩, X.length, ?_, by rw [HF.out]; exact HH.out, HB.out, by rw [Ex.inv_len]; exact Nat.le_refl _, fun h => by simp at h, fresh_some hgw⟩
    rw [Ex.inv_len]
    rfl
  · have hni : ¬ (1 : Int) < (X.length : Int) := by omega
    have hfin : Ex.invL st X kn = X := by rw [Ex.invL, if_neg hn]
    rw [hfin]
    clear hfin HJ
    go_enter Try.func65, Try.ntmps65
    go_wp2_with (first | (go_at_call 122; refine (kn_q _ _).mono ?_; rintro e wn ⟨rfl, rfl⟩) | (go_at_call 123; (with_reducible refine cW.mono ?_); rintro e w1 ⟨rfl, B1⟩; have cV := wi_q o 1125899906842624 t m' w1 (by decide) (by decide) (by omega) (hO.call B1); rw [hf2] at cV) | (go_at_call 123; (with_reducible refine cV.mono ?_); rintro e w2 ⟨rfl, B2⟩))
    refine (cJ w2 (hE.call (below_call B1 B2)) (hO.call (below_call B1 B2))).mono ?_
    rintro e w3 ⟨g, rfl, hg0, R, B3⟩
    have HB : Hid _ := below_call (below_call B1 B2) B3
    have hgw : w.heap.size ≤ g := by have := (below_call B1 B2).size; omega
    have HR : Hid _ := R.holds
    clear R B1 B2 B3 cW cJ cV
    go_wp2
    go_ret2
    exact ⟨some ⟨g, 0, none⟩, X.length, rfl, HR.out, HB.out, Nat.le_refl _, fun h => by simp at h, fresh_some hgw⟩
set_option maxHeartbeats 1000000 in
theorem mg_q (k : Int) (w : World) : Calls Try.prog 93 #[.int .i64 k] w fun e w' => e = .returned (.int .i64 (mgI k)) ∧ w = w' := by
  by_cases k1 : k = 1
  · subst k1
    go_enter Try.func93, Try.ntmps93
    go_wp2_with fail
    go_ret
    exact ⟨ret_int (by simp [mgI]), rfl⟩
  · by_cases k2 : k = 2
    · subst k2
      go_enter Try.func93, Try.ntmps93
      go_wp2_with fail
      go_ret
      exact ⟨ret_int (by simp [mgI]), rfl⟩
    · by_cases k3 : k = 3
      · subst k3
        go_enter Try.func93, Try.ntmps93
        go_wp2_with fail
        go_ret
        exact ⟨ret_int (by simp [mgI]), rfl⟩
      · go_enter Try.func93, Try.ntmps93
        go_wp2_with fail
        go_ret
        exact ⟨ret_int (by simp [mgI, k1, k2, k3]), rfl⟩
set_option maxRecDepth 100000 in
set_option maxHeartbeats 4000000 in
theorem hb_q (b k : Int) (w : World) : Calls Try.prog 98 #[.int .i64 b, .int .i64 k] w fun e w' => e = .returned (.int .i64 (hbV b k)) ∧ w = w' := by
  by_cases h1 : b < 0
  · have e0 : hbV b k = 0 := if_neg (by omega)
    rw [e0]
    clear e0
    have hkk : kB k = true ∨ kB k = false := by cases kB k <;> simp
    rcases hkk with hk | hk
    all_goals
      go_enter Try.func98, Try.ntmps98
      go_wp2_with (go_at_call 122; refine (kn_q _ _).mono ?_; rintro e wn ⟨rfl, rfl⟩)
      go_ret
      exact ⟨rfl, rfl⟩
  · by_cases h2 : 281474976710656 < b
    · have e0 : hbV b k = 0 := if_neg (by omega)
      rw [e0]
      clear e0
      have hkk : kB k = true ∨ kB k = false := by cases kB k <;> simp
      rcases hkk with hk | hk
      all_goals
        go_enter Try.func98, Try.ntmps98
        go_wp2_with (go_at_call 122; refine (kn_q _ _).mono ?_; rintro e wn ⟨rfl, rfl⟩)
        go_ret
        exact ⟨rfl, rfl⟩
    · cases hk : kB k with
      | false =>
        have e0 : hbV b k = 0 := if_neg (by rw [hk]; simp)
        rw [e0]
        clear e0
        go_enter Try.func98, Try.ntmps98
        go_wp2_with (go_at_call 122; refine (kn_q _ _).mono ?_; rintro e wn ⟨rfl, rfl⟩)
        go_ret
        exact ⟨rfl, rfl⟩
      | true =>
        have e0 : hbV b k = Ex.hbI b k := if_pos ⟨by omega, by omega, hk⟩
        rw [e0]
        clear e0
        have hk1 := k_iff.1 hk
        have v0 : IntKind.i64.wrap (20 * b) = 20 * b := IntWalk.i64_in _ (by omega)
        have v0' : wrap64 (20 * b) = 20 * b := IntWalk.wrap64_in _ ⟨by omega, by omega⟩
        have v1 : IntKind.i64.wrap (20 * b + 8) = 20 * b + 8 := IntWalk.i64_in _ (by omega)
        have v1' : wrap64 (20 * b + 8) = 20 * b + 8 := IntWalk.wrap64_in _ ⟨by omega, by omega⟩
        have v2 : IntKind.i64.wrap (2 * b) = 2 * b := IntWalk.i64_in _ (by omega)
        have v2' : wrap64 (2 * b) = 2 * b := IntWalk.wrap64_in _ ⟨by omega, by omega⟩
        have v3 : IntKind.i64.wrap (b + (20 * b + 8) / 16) = b + (20 * b + 8) / 16 := IntWalk.i64_in _ (by omega)
        have v3' : wrap64 (b + (20 * b + 8) / 16) = b + (20 * b + 8) / 16 := IntWalk.wrap64_in _ ⟨by omega, by omega⟩
        have v4 : IntKind.i64.wrap ((20 * b + 8) / 16) = (20 * b + 8) / 16 := IntWalk.i64_in _ (by omega)
        have v4' : wrap64 ((20 * b + 8) / 16) = (20 * b + 8) / 16 := IntWalk.wrap64_in _ ⟨by omega, by omega⟩
        have t1 : (20 * b + 8).tdiv 16 = (20 * b + 8) / 16 := Int.tdiv_eq_ediv_of_nonneg (by omega)
        rcases hk1 with rfl | rfl | rfl
        · rw [show Ex.hbI b 1 = 2 * b from rfl]
          go_enter Try.func98, Try.ntmps98
          go_wp2_with (go_at_call 122; refine (kn_q _ _).mono ?_; rintro e wn ⟨rfl, rfl⟩)
          go_ret
          exact ⟨rfl, rfl⟩
        · rw [show Ex.hbI b 2 = 2 * b from rfl]
          go_enter Try.func98, Try.ntmps98
          go_wp2_with (go_at_call 122; refine (kn_q _ _).mono ?_; rintro e wn ⟨rfl, rfl⟩)
          go_ret
          exact ⟨rfl, rfl⟩
        · rw [show Ex.hbI b 3 = b + (20 * b + 8) / 16 from rfl]
          go_enter Try.func98, Try.ntmps98
          go_wp2_with (go_at_call 122; refine (kn_q _ _).mono ?_; rintro e wn ⟨rfl, rfl⟩)
          go_ret
          exact ⟨rfl, rfl⟩
set_option maxRecDepth 100000 in
set_option maxHeartbeats 4000000 in
theorem lb_q (b k : Int) (w : World) : Calls Try.prog 96 #[.int .i64 b, .int .i64 k] w fun e w' => e = .returned (.int .i64 (lbV b k)) ∧ w = w' := by
  by_cases h1 : b < 0
  · have e0 : lbV b k = 0 := if_neg (by omega)
    rw [e0]
    clear e0
    have hkk : kB k = true ∨ kB k = false := by cases kB k <;> simp
    rcases hkk with hk | hk
    all_goals
      go_enter Try.func96, Try.ntmps96
      go_wp2_with (first | (go_at_call 122; refine (kn_q _ _).mono ?_; rintro e wn ⟨rfl, rfl⟩) | (go_at_call 98; refine (hb_q _ _ _).mono ?_; rintro e wn ⟨rfl, rfl⟩))
      go_ret
      exact ⟨rfl, rfl⟩
  · by_cases h2 : 281474976710656 < b
    · have e0 : lbV b k = 0 := if_neg (by omega)
      rw [e0]
      clear e0
      have hkk : kB k = true ∨ kB k = false := by cases kB k <;> simp
      rcases hkk with hk | hk
      all_goals
        go_enter Try.func96, Try.ntmps96
        go_wp2_with (first | (go_at_call 122; refine (kn_q _ _).mono ?_; rintro e wn ⟨rfl, rfl⟩) | (go_at_call 98; refine (hb_q _ _ _).mono ?_; rintro e wn ⟨rfl, rfl⟩))
        go_ret
        exact ⟨rfl, rfl⟩
    · cases hk : kB k with
      | false =>
        have e0 : lbV b k = 0 := if_neg (by rw [hk]; simp)
        rw [e0]
        clear e0
        go_enter Try.func96, Try.ntmps96
        go_wp2_with (first | (go_at_call 122; refine (kn_q _ _).mono ?_; rintro e wn ⟨rfl, rfl⟩) | (go_at_call 98; refine (hb_q _ _ _).mono ?_; rintro e wn ⟨rfl, rfl⟩))
        go_ret
        exact ⟨rfl, rfl⟩
      | true =>
        have e0 : lbV b k = Ex.lbI b k := if_pos ⟨by omega, by omega, hk⟩
        rw [e0]
        clear e0
        have hk1 := k_iff.1 hk
        have hH : hbV b k = Ex.hbI b k := if_pos ⟨by omega, by omega, hk⟩
        obtain ⟨b1, b2, b3, b4⟩ := hb_bd hk1 (show 0 ≤ b by omega)
        have hl : Ex.lbI b k = if k = 1 then 2 * b else b + (2 * Ex.hbI b k + 2) / 4 := rfl
        rw [hl]
        generalize Ex.hbI b k = H at *
        clear hl b3 b4
        have v0 : IntKind.i64.wrap (2 * b) = 2 * b := IntWalk.i64_in _ (by omega)
        have v0' : wrap64 (2 * b) = 2 * b := IntWalk.wrap64_in _ ⟨by omega, by omega⟩
        have v1 : IntKind.i64.wrap (2 * H) = 2 * H := IntWalk.i64_in _ (by omega)
        have v1' : wrap64 (2 * H) = 2 * H := IntWalk.wrap64_in _ ⟨by omega, by omega⟩
        have v2 : IntKind.i64.wrap (2 * H + 2) = 2 * H + 2 := IntWalk.i64_in _ (by omega)
        have v2' : wrap64 (2 * H + 2) = 2 * H + 2 := IntWalk.wrap64_in _ ⟨by omega, by omega⟩
        have v3 : IntKind.i64.wrap (b + (2 * H + 2) / 4) = b + (2 * H + 2) / 4 := IntWalk.i64_in _ (by omega)
        have v3' : wrap64 (b + (2 * H + 2) / 4) = b + (2 * H + 2) / 4 := IntWalk.wrap64_in _ ⟨by omega, by omega⟩
        have v4 : IntKind.i64.wrap ((2 * H + 2) / 4) = (2 * H + 2) / 4 := IntWalk.i64_in _ (by omega)
        have v4' : wrap64 ((2 * H + 2) / 4) = (2 * H + 2) / 4 := IntWalk.wrap64_in _ ⟨by omega, by omega⟩
        have t1 : (2 * H + 2).tdiv 4 = (2 * H + 2) / 4 := Int.tdiv_eq_ediv_of_nonneg (by omega)
        rcases hk1 with rfl | rfl | rfl
        · rw [if_pos rfl]
          go_enter Try.func96, Try.ntmps96
          go_wp2_with (first | (go_at_call 122; refine (kn_q _ _).mono ?_; rintro e wn ⟨rfl, rfl⟩) | (go_at_call 98; refine (hb_q _ _ _).mono ?_; rintro e wn ⟨rfl, rfl⟩))
          go_ret
          exact ⟨rfl, rfl⟩
        · rw [if_neg (by decide)]
          go_enter Try.func96, Try.ntmps96
          go_wp2_with (first | (go_at_call 122; refine (kn_q _ _).mono ?_; rintro e wn ⟨rfl, rfl⟩) | (go_at_call 98; refine (hb_q _ _ _).mono ?_; rintro e wn ⟨rfl, rfl⟩))
          go_ret
          exact ⟨rfl, rfl⟩
        · rw [if_neg (by decide)]
          go_enter Try.func96, Try.ntmps96
          go_wp2_with (first | (go_at_call 122; refine (kn_q _ _).mono ?_; rintro e wn ⟨rfl, rfl⟩) | (go_at_call 98; refine (hb_q _ _ _).mono ?_; rintro e wn ⟨rfl, rfl⟩))
          go_ret
          exact ⟨rfl, rfl⟩
theorem mg_c (k : Int) (w : World) : Calls Try.prog 93 #[.int .i64 k] w (fun e w' => e = .returned (.int .i64 (mgI k)) ∧ Below w.heap.size w w') :=
  (mg_q k w).mono fun _ _ h => ⟨h.1, h.2 ▸ Below.refl _ _⟩
theorem hb_c (b k : Int) (w : World) : Calls Try.prog 98 #[.int .i64 b, .int .i64 k] w (fun e w' => e = .returned (.int .i64 (hbV b k)) ∧ Below w.heap.size w w') :=
  (hb_q b k w).mono fun _ _ h => ⟨h.1, h.2 ▸ Below.refl _ _⟩
theorem lb_c (b k : Int) (w : World) : Calls Try.prog 96 #[.int .i64 b, .int .i64 k] w (fun e w' => e = .returned (.int .i64 (lbV b k)) ∧ Below w.heap.size w w') :=
  (lb_q b k w).mono fun _ _ h => ⟨h.1, h.2 ▸ Below.refl _ _⟩
end Go.Proofs.Ytoplgnckdmkaoaa
