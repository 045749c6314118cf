/-
  What each call of extend returns and leaves: contracts.
-/
import Derived.Test.YtnfnidgabgdphaaExtR
set_option maxRecDepth 100000
namespace Go.Proofs.Ytnfnidgabgdphaa
open Go.RowKit

set_option maxHeartbeats 1000000 in
theorem vm_q (i : Int) (w : World) : Calls Try.prog 150 #[.int .i64 i] w fun e w' => e = .returned (.bool (viB i)) ∧ w = w' := by
  go_enter Try.func150, Try.ntmps150
  go_wp2
  all_goals
    go_ret
    exact ⟨ret_bool (by simp [viB]; try omega), rfl⟩
def ogB (n : Int) : Bool := decide (0 ≤ n ∧ n ≤ 4096)
theorem og_iff {n : Int} : ogB n = true ↔ (0 ≤ n ∧ n ≤ 4096) := by simp [ogB]
set_option maxHeartbeats 1000000 in
theorem og_q (n : Int) (w : World) : Calls Try.prog 139 #[.int .i64 n] w fun e w' => e = .returned (.bool (ogB n)) ∧ w = w' := by
  go_enter Try.func139, Try.ntmps139
  go_wp2
  all_goals
    go_ret
    exact ⟨ret_bool (by simp [ogB]; try omega), rfl⟩
def evB (n : Int) : Bool := decide (n % 2 = 0)
theorem ev_q (n : Int) (h0 : 0 ≤ n) (w : World) : Calls Try.prog 141 #[.int .i64 n] w fun e w' => e = .returned (.bool (evB n)) ∧ w = w' := by
  have t1 : n.tmod 2 = n % 2 := Int.tmod_eq_emod_of_nonneg h0
  go_enter Try.func141, Try.ntmps141
  go_wp2
  go_ret
  exact ⟨ret_bool (by simp [evB]), rfl⟩
theorem eb_q (n : Int) (h0 : 0 ≤ n) (h1 : n ≤ 1000000) (w : World) : Calls Try.prog 148 #[.int .i64 n] w fun e w' => e = .returned (.int .i64 ((n + 1) / 2)) ∧ w = w' := by
  have w1 : IntKind.i64.wrap (n + 1) = n + 1 := IntWalk.i64_in _ (by omega)
  have t1 : (n + 1).tdiv 2 = (n + 1) / 2 := Int.tdiv_eq_ediv_of_nonneg (by omega)
  have w2 : IntKind.i64.wrap ((n + 1) / 2) = (n + 1) / 2 := IntWalk.i64_in _ (by omega)
  go_enter Try.func148, Try.ntmps148
  go_wp2
  go_ret
  exact ⟨rfl, rfl⟩
set_option maxRecDepth 100000 in
set_option maxHeartbeats 1000000 in
theorem mir_q (i lo hi : Int) (w : World) : Calls Try.prog 147 #[.int .i64 i, .int .i64 lo, .int .i64 hi] w fun e w' => e = .returned (.int .i64 (mirV i lo hi)) ∧ w = w' := by
  by_cases h0 : lo < hi
  · have h0' : ¬ hi ≤ lo := by omega
    by_cases hi0 : viB i = true
    · by_cases hl0 : viB lo = true
      · by_cases hh0 : viB hi = true
        · have e : mirV i lo hi = Ex.mirI i lo hi := if_pos ⟨h0, hi0, hl0, hh0⟩
          have b1 := vi_iff.1 hi0
          have b2 := vi_iff.1 hl0
          have b3 := vi_iff.1 hh0
          have w1 : IntKind.i64.wrap (hi - lo) = hi - lo := IntWalk.i64_in _ (by omega)
          by_cases hone : hi - lo = 1
          · go_enter Try.func147, Try.ntmps147
            go_wp2_with (go_at_call 150; refine (vm_q _ _).mono ?_; rintro e wn ⟨rfl, rfl⟩)
            go_ret
            exact ⟨ret_int (by rw [e, Ex.mirI, if_pos hone]), rfl⟩
          · obtain ⟨N, hN⟩ : ∃ N, hi - lo = N := ⟨_, rfl⟩
            obtain ⟨Q, hQ⟩ : ∃ Q, 2 * (N - 1) = Q := ⟨_, rfl⟩
            obtain ⟨D, hD⟩ : ∃ D, i - lo = D := ⟨_, rfl⟩
            have hQ0 : 0 < Q := by omega
            have key : mirV i lo hi = if D % Q < N then lo + D % Q else lo + Q - D % Q := by rw [e, Ex.mirI, if_neg hone, hN, hQ, hD]
            obtain ⟨T, hT⟩ : ∃ T, D.tmod Q = T := ⟨_, rfl⟩
            have q0 := Int.emod_nonneg D (show Q ≠ 0 by omega)
            have q1 := Int.emod_lt_of_pos D hQ0
            have ht := tmod_is (a := D) hQ0
            rw [hT] at ht
            have w2 : IntKind.i64.wrap (N - 1) = N - 1 := IntWalk.i64_in _ (by omega)
            have w3 : IntKind.i64.wrap (2 * (N - 1)) = Q := by rw [IntWalk.i64_in _ (by omega)]; omega
            have w3' : wrap64 (2 * (N - 1)) = Q := by rw [IntWalk.wrap64_in _ ⟨by omega, by omega⟩]; omega
            have w4 : IntKind.i64.wrap (i - lo) = D := by rw [IntWalk.i64_in _ (by omega)]; omega
            have hQn : ¬ Q = 0 := by omega
            have hNn : ¬ N = 1 := by omega
            rw [hN] at w1
            have w1' : IntKind.i64.wrap (hi - lo) = N := by rw [hN]; exact w1
            have hQb : Q ≤ 1125899906842624 := by omega
            have hNb : N ≤ 1125899906842624 := by omega
            clear w1
            generalize D % Q = E at *
            have HK : Hid _ := key
            clear key e hQ hN hD hone b1 h0
            rcases ht with ⟨ht, rfl⟩ | ⟨ht, rfl⟩
            · have t0 : ¬ T < 0 := by omega
              by_cases hlt : T < N
              · have w5 : IntKind.i64.wrap (lo + T) = lo + T := IntWalk.i64_in _ (by omega)
                go_enter Try.func147, Try.ntmps147
                go_wp2_with (go_at_call 150; refine (vm_q _ _).mono ?_; rintro e wn ⟨rfl, rfl⟩)
                go_ret
                exact ⟨ret_int (by rw [HK.out, if_pos hlt]), rfl⟩
              · have w6 : IntKind.i64.wrap (lo + Q) = lo + Q := IntWalk.i64_in _ (by omega)
                have w7 : IntKind.i64.wrap (lo + Q - T) = lo + Q - T := IntWalk.i64_in _ (by omega)
                go_enter Try.func147, Try.ntmps147
                go_wp2_with (go_at_call 150; refine (vm_q _ _).mono ?_; rintro e wn ⟨rfl, rfl⟩)
                go_ret
                exact ⟨ret_int (by rw [HK.out, if_neg (by omega)]), rfl⟩
            · have w8 : IntKind.i64.wrap (T + Q) = T + Q := IntWalk.i64_in _ (by omega)
              by_cases hlt : T + Q < N
              · have w5 : IntKind.i64.wrap (lo + (T + Q)) = lo + (T + Q) := IntWalk.i64_in _ (by omega)
                go_enter Try.func147, Try.ntmps147
                go_wp2_with (go_at_call 150; refine (vm_q _ _).mono ?_; rintro e wn ⟨rfl, rfl⟩)
                go_ret
                exact ⟨ret_int (by rw [HK.out, if_pos hlt]), rfl⟩
              · have w6 : IntKind.i64.wrap (lo + Q) = lo + Q := IntWalk.i64_in _ (by omega)
                have w7 : IntKind.i64.wrap (lo + Q - (T + Q)) = lo + Q - (T + Q) := IntWalk.i64_in _ (by omega)
                go_enter Try.func147, Try.ntmps147
                go_wp2_with (go_at_call 150; refine (vm_q _ _).mono ?_; rintro e wn ⟨rfl, rfl⟩)
                go_ret
                exact ⟨ret_int (by rw [HK.out, if_neg (by omega)]), rfl⟩
        · have hx : viB hi = false := by simpa using hh0
          have e : mirV i lo hi = 0 := if_neg (by rw [hx]; simp)
          go_enter Try.func147, Try.ntmps147
          go_wp2_with (go_at_call 150; refine (vm_q _ _).mono ?_; rintro e wn ⟨rfl, rfl⟩)
          go_ret
          exact ⟨ret_int (by first | rfl | exact e.symm), rfl⟩
      · have hx : viB lo = false := by simpa using hl0
        have e : mirV i lo hi = 0 := if_neg (by rw [hx]; simp)
        go_enter Try.func147, Try.ntmps147
        go_wp2_with (go_at_call 150; refine (vm_q _ _).mono ?_; rintro e wn ⟨rfl, rfl⟩)
        go_ret
        exact ⟨ret_int (by first | rfl | exact e.symm), rfl⟩
    · have hx : viB i = false := by simpa using hi0
      have e : mirV i lo hi = 0 := if_neg (by rw [hx]; simp)
      go_enter Try.func147, Try.ntmps147
      go_wp2_with (go_at_call 150; refine (vm_q _ _).mono ?_; rintro e wn ⟨rfl, rfl⟩)
      go_ret
      exact ⟨ret_int (by first | rfl | exact e.symm), rfl⟩
  · have h0' : hi ≤ lo := by omega
    have e : mirV i lo hi = 0 := if_neg (fun h => h0 h.1)
    go_enter Try.func147, Try.ntmps147
    go_wp2_with (go_at_call 150; refine (vm_q _ _).mono ?_; rintro e wn ⟨rfl, rfl⟩)
    go_ret
    exact ⟨ret_int (by first | rfl | exact e.symm), rfl⟩
set_option maxHeartbeats 1000000 in
theorem cnt_q (s n : Int) (w : World) : Calls Try.prog 140 #[.int .i64 s, .int .i64 n] w fun e w' => e = .returned (.tuple #[.int .i64 (ceI s n), .int .i64 (coI s n)]) ∧ w = w' := by
  cases hs : ogB s with
  | false =>
    have hh : ¬ (0 ≤ s ∧ s ≤ 4096 ∧ 0 ≤ n ∧ n ≤ 4096) := fun h => by rw [og_iff.2 ⟨h.1, h.2.1⟩] at hs; exact absurd hs (by decide)
    rw [show ceI s n = 0 from if_neg hh, show coI s n = 0 from if_neg hh]
    clear hh
    go_enter Try.func140, Try.ntmps140
    go_wp2_with (go_at_call 139; refine (og_q _ _).mono ?_; rintro e wn ⟨rfl, rfl⟩)
    go_ret2
    exact ⟨rfl, rfl⟩
  | true =>
    cases hn : ogB n with
    | false =>
      have hh : ¬ (0 ≤ s ∧ s ≤ 4096 ∧ 0 ≤ n ∧ n ≤ 4096) := fun h => by rw [og_iff.2 ⟨h.2.2.1, h.2.2.2⟩] at hn; exact absurd hn (by decide)
      rw [show ceI s n = 0 from if_neg hh, show coI s n = 0 from if_neg hh]
      clear hh
      go_enter Try.func140, Try.ntmps140
      go_wp2_with (go_at_call 139; refine (og_q _ _).mono ?_; rintro e wn ⟨rfl, rfl⟩)
      go_ret2
      exact ⟨rfl, rfl⟩
    | true =>
      obtain ⟨h1, h2⟩ := og_iff.1 hs
      obtain ⟨h3, h4⟩ := og_iff.1 hn
      have w1 : IntKind.i64.wrap (s + n) = s + n := IntWalk.i64_in _ (by omega)
      have w4 : IntKind.i64.wrap ((s + n + 1) / 2 - (s + 1) / 2) = (s + n + 1) / 2 - (s + 1) / 2 := IntWalk.i64_in _ (by omega)
      have w5 : IntKind.i64.wrap (n - ((s + n + 1) / 2 - (s + 1) / 2)) = n - ((s + n + 1) / 2 - (s + 1) / 2) := IntWalk.i64_in _ (by omega)
      have hc : ceI s n = (s + n + 1) / 2 - (s + 1) / 2 := if_pos ⟨h1, h2, h3, h4⟩
      have ho : coI s n = n - ((s + n + 1) / 2 - (s + 1) / 2) := by rw [coI, if_pos ⟨h1, h2, h3, h4⟩, hc]
      rw [hc, ho]
      clear hc ho
      go_enter Try.func140, Try.ntmps140
      go_wp2_with (first | (go_at_call 139; refine (og_q _ _).mono ?_; rintro e wn ⟨rfl, rfl⟩) | (go_at_call 148; refine (eb_q _ (by omega) (by omega) _).mono ?_; rintro e wn ⟨rfl, rfl⟩))
      go_ret2
      exact ⟨rfl, rfl⟩
theorem mir_c (i lo hi : Int) (w : World) : Calls Try.prog 147 #[.int .i64 i, .int .i64 lo, .int .i64 hi] w fun e w' => e = .returned (.int .i64 (mirV i lo hi)) ∧ Below w.heap.size w w' :=
  (mir_q i lo hi w).mono fun _ _ h => ⟨h.1, h.2 ▸ Below.refl _ _⟩
theorem cnt_c (s n : Int) (w : World) : Calls Try.prog 140 #[.int .i64 s, .int .i64 n] w fun e w' => e = .returned (.tuple #[.int .i64 (ceI s n), .int .i64 (coI s n)]) ∧ Below w.heap.size w w' :=
  (cnt_q s n w).mono fun _ _ h => ⟨h.1, h.2 ▸ Below.refl _ _⟩
theorem g2_made {w W W1 : World} (h : Below w.heap.size w W) (h1 : Below W.heap.size W W1) {g1 g2 c1 c2 : Nat} {d1 d2 : Array Value} (hg1 : W.heap.size ≤ g1) (hg2 : W.heap.size ≤ g2) (hne : g1 ≠ g2) (hm1 : c1 ≤ maxLen) (hm2 : c2 ≤ maxLen) (hd1 : d1.size = c1) (hd2 : d2.size = c2)
    (hr1 : W1.heap[g1]? = some (.cells d1 3)) (hr2 : W1.heap[g2]? = some (.cells d2 3)) : G2 w (.slice (some ⟨g1, 0, none⟩) 0 c1) [] (.slice (some ⟨g2, 0, none⟩) 0 c2) [] W1 := by
  have hs := h.size
  refine ⟨⟨below_call h h1, ⟨rfl, .inr ⟨g1, c1, d1, rfl, by omega, hr1, Nat.zero_le _, hm1, by omega, by simp⟩⟩⟩, ⟨below_call h h1, ⟨rfl, .inr ⟨g2, c2, d2, rfl, by omega, hr2, Nat.zero_le _, hm2, by omega, by simp⟩⟩⟩, fun g e1 e2 => ?_⟩
  simp [Value.ownBlock] at e1 e2
  exact hne (e1.trans e2.symm)
theorem heap_two (w : World) (a b : Obj) : ((w.alloc a).alloc b).drew.heap[w.heap.size]? = some a ∧ ((w.alloc a).alloc b).drew.heap[w.heap.size + 1]? = some b := by
  refine ⟨?_, ?_⟩
  · exact (((Below.refl (w.alloc a).heap.size (w.alloc a)).alloc (Nat.le_refl _) b).block w.heap.size (by simp)).trans (heap_alloc_new w a)
  · have h := heap_alloc_new (w.alloc a) b
    rw [show (w.alloc a).heap.size = w.heap.size + 1 by simp] at h
    exact h
theorem mk_room (c : Nat) (hc : c ≤ 4096) (W : World) : (Instr.makeSlice 28 (.int .i64 0) (.int .i64 (c : Int))).run Try.prog W = .ok (.slice (some ⟨W.heap.size, 0, none⟩) 0 c) (W.alloc (zeroRow c)) := by
  obtain ⟨i0, hi, hz0, hz1, hz2⟩ := info_parts infoI
  have hr := run_make (P := Try.prog) W 28 3 i0 _ Try.underlying28 hi hz0 .i64 .i64 0 c (Int.le_refl _) (by omega) (by rw [hz2]; omega) (by omega)
  rw [hz1, Nat.mul_one, Int.toNat_natCast] at hr
  exact hr
theorem ev_t {n : Int} (h : n % 2 = 0) : evB n = true := by simp [evB, h]
theorem ev_f {n : Int} (h : ¬ n % 2 = 0) : evB n = false := by simp [evB, h]
set_option maxHeartbeats 1000000 in
theorem split_cno (l : List Int) (st : Int) (s : Option Addr) (m : Nat) (w : World) (hh : spB st l.length = false) : Calls Try.prog 116 #[.slice s l.length m, .int .i64 st] w (GivesSplit [] [] 2 w) := by
  have hh' : ¬ (0 ≤ st ∧ st ≤ 4096 ∧ l.length ≤ 4096) := fun h => by rw [sp_iff.2 h] at hh; exact absurd hh (by decide)
  cases hs : ogB st with
  | false =>
    clear hh hh'
    go_enter Try.func116, Try.ntmps116
    go_wp2_with (go_at_call 139; refine (og_q _ _).mono ?_; rintro e wn ⟨rfl, rfl⟩)
    go_ret3
    exact ⟨none, 0, none, 0, rfl, .inl rfl, .inl rfl, Below.refl _ _, ⟨Nat.le_refl _, fun _ => rfl, fresh_none _⟩, ⟨Nat.le_refl _, fun _ => rfl, fresh_none _⟩⟩
  | true =>
    obtain ⟨h1, h2⟩ := og_iff.1 hs
    have hn : ogB (l.length : Int) = false := by
      rw [Bool.eq_false_iff, Ne, og_iff]
      omega
    clear hh hh'
    go_enter Try.func116, Try.ntmps116
    go_wp2_with (go_at_call 139; refine (og_q _ _).mono ?_; rintro e wn ⟨rfl, rfl⟩)
    go_ret3
    exact ⟨none, 0, none, 0, rfl, .inl rfl, .inl rfl, Below.refl _ _, ⟨Nat.le_refl _, fun _ => rfl, fresh_none _⟩, ⟨Nat.le_refl _, fun _ => rfl, fresh_none _⟩⟩
set_option maxRecDepth 100000 in
set_option maxHeartbeats 1000000 in
theorem split_cyes (l : List Int) (st : Int) (s : Option Addr) (m : Nat) (w : World) (hh : spB st l.length = true) (hH : HoldsI w s l) : Calls Try.prog 116 #[.slice s l.length m, .int .i64 st] w (GivesSplit (Ex.splitE st l) (Ex.splitO st l) 0 w) := by
  obtain ⟨h1, h2, h3⟩ := sp_iff.1 hh
  obtain ⟨i0, hi, hz0, hz1, hz2⟩ := info_parts infoI
  have hs : ogB st = true := og_iff.2 ⟨h1, h2⟩
  have hn : ogB (l.length : Int) = true := og_iff.2 ⟨by omega, by omega⟩
  obtain ⟨ca, cb⟩ := ce_cnt (s := st) (n := l.length) h1 h2 h3
  have cc := (Ex.cnt_next (s := st) (k := l.length)).2.2
  obtain ⟨A0, hA⟩ : ∃ A0, Ex.cntE st l.length = A0 := ⟨_, rfl⟩
  obtain ⟨B0, hB⟩ : ∃ B0, Ex.cntO st l.length = B0 := ⟨_, rfl⟩
  rw [hA] at ca cc
  rw [hB] at cb cc
  have hA4 : A0 ≤ 4096 := by omega
  have hB4 : B0 ≤ 4096 := by omega
  clear hA hB cc
  have k1 := mk_room A0 hA4
  have k2 := mk_room B0 hB4
  go_enter Try.func116, Try.ntmps116
  go_wp2_with (first | (go_at_call 139; refine (og_q _ _).mono ?_; rintro e wn ⟨rfl, rfl⟩) | (go_at_call 140; refine (cnt_q _ _ _).mono ?_; rintro e wn ⟨rfl, rfl⟩) | fail)
  go_upto_region 4 with fail
  go_cut [4, 5] (fun s4 s5 wx => ∃ x1 x2 : Value, s4 = x1 ∧ s5 = x2 ∧ G2 w x1 [] x2 [] wx)
  case first =>
    go_region
    all_goals
      go_wp2
      go_meet
      have hh1 := heap_two w (zeroRow A0) (zeroRow B0)
      have hh2 := heap_two w (zeroRow B0) (zeroRow A0)
      have hb1 : Below w.heap.size w ((w.alloc (zeroRow A0)).alloc (zeroRow B0)).drew := ((((Below.refl _ w).alloc (Nat.le_refl _) _).alloc (by simp) _)).drew
      have hb2 : Below w.heap.size w ((w.alloc (zeroRow B0)).alloc (zeroRow A0)).drew := ((((Below.refl _ w).alloc (Nat.le_refl _) _).alloc (by simp) _)).drew
      have hmA : A0 ≤ maxLen := by unfold maxLen; omega
      have hmB : B0 ≤ maxLen := by unfold maxLen; omega
      first
        | exact ⟨_, _, rfl, rfl, g2_made (Below.refl _ _) hb1 (Nat.le_refl _) (Nat.le_succ _) (by omega) hmA hmB (size_madeCells _ _) (size_madeCells _ _) hh1.1 hh1.2⟩
        | exact ⟨_, _, rfl, rfl, g2_made (Below.refl _ _) hb2 (Nat.le_succ _) (Nat.le_refl _) (by omega) hmA hmB (size_madeCells _ _) (size_madeCells _ _) hh2.2 hh2.1⟩
  case rest =>
    obtain ⟨x1, x2, rfl, rfl, hG0⟩ := hcut
    clear k1 k2 hs hn ca cb hA4 hB4
    go_wp2_with fail
    go_loopw [4, 5, 9, 10, 33] (fun v1 v2 _ _ i wr => ∃ (k : Nat) (o1 o2 : List Int) (x1 x2 : Value), k ≤ l.length ∧ i = .int .i64 k ∧ o1 = Ex.splitE st (l.take k) ∧ o2 = Ex.splitO st (l.take k) ∧ x1 = v1 ∧ x2 = v2 ∧ G2 w x1 o1 x2 o2 wr) (fun _ _ _ _ i _ => l.length - (intOf i).toNat)
    case atStart => exact ⟨0, [], [], _, _, Nat.zero_le _, rfl, rfl, rfl, rfl, rfl, hG0⟩
    case round =>
      obtain ⟨k, o1, o2, x1, x2, hk, rfl, hO1, hO2, rfl, rfl, hG⟩ := hrel
      clear hG0
      by_cases hlt : k < l.length
      · rcases hH with rfl | ⟨bb, off, rfl, hr⟩
        · simp at hlt
        have y0 : wr.cell? ⟨bb, off + k, none⟩ = some (.int .i64 l[k]) := (hG.l1.below.cell (p := ⟨bb, _, none⟩) (cell_lt (hr k hlt))).trans (hr k hlt)
        have hki : (k : Int) < (l.length : Int) := by omega
        have w1 : IntKind.i64.wrap (st + (k : Int)) = st + (k : Int) := IntWalk.i64_in _ (by omega)
        have w2 : IntKind.i64.wrap ((k : Int) + 1) = (k : Int) + 1 := IntWalk.i64_in _ (by omega)
        obtain ⟨c1, c2⟩ := Ex.split_len st l k hk
        obtain ⟨d1, d2, d3, d4⟩ := Ex.cnt_next (s := st) (k := k)
        have l1 : o1.length ≤ 4096 := by rw [hO1, c1]; omega
        have l2 : o2.length ≤ 4096 := by rw [hO2, c2]; omega
        have hN := Ex.split_take_next (s := st) (x := l) (k := k) hlt
        clear c1 c2 d1 d2 d3 d4
        have cE := ev_q (st + (k : Int)) (by omega) wr
        by_cases hp : (st + (k : Int)) % 2 = 0
        · rw [ev_t hp] at cE
          rw [if_pos hp, if_pos hp, ← hO1, ← hO2, List.append_nil] at hN
          have HN : Hid (_ ∧ _) := ⟨hN.1.symm, hN.2.symm⟩
          clear hN hp hO1 hO2
          go_wp2_with (first | (go_at_call 141; refine cE.mono ?_; rintro e wn ⟨rfl, rfl⟩) | (at_builtin; refine wpList_append_own_at _ rfl _ _ 28 rfl w.heap.size 3 i0 (.int .i64 0) 1 8 Try.underlying28 hi hz0 hz1 hz2 rfl (by decide) _ _ _ rfl (own_below hG.l1.own ((Below.refl _ _).alloc (Nat.le_refl _) _)) ⟨wr.heap.size, 0, none⟩ 1 1 [.int .i64 (l[k])] rfl rfl (one_new wr _ _) (oneOne _) (by unfold maxLen; omega) (by omega) (by have := hG.l1.below.size; simp; omega) ?_))
          intro v' wz hown hgrow _ hat
          obtain ⟨sv, mv, rfl⟩ := own_slice hown
          have GZ := hG.push _ hgrow hown hat
          have HG : Hid _ := GZ
          clear hown hgrow hat hG GZ
          go_wp2
          go_roundw
          case rel => exact ⟨k + 1, _, _, _, _, by omega, by go_num, HN.out.1, HN.out.2, rfl, rfl, HG.out⟩
          case measure => simp [intOf]; omega
        · rw [ev_f hp] at cE
          rw [if_neg hp, if_neg hp, ← hO1, ← hO2, List.append_nil] at hN
          have HN : Hid (_ ∧ _) := ⟨hN.1.symm, hN.2.symm⟩
          clear hN hp hO1 hO2
          go_wp2_with (first | (go_at_call 141; refine cE.mono ?_; rintro e wn ⟨rfl, rfl⟩) | (at_builtin; refine wpList_append_own_at _ rfl _ _ 28 rfl w.heap.size 3 i0 (.int .i64 0) 1 8 Try.underlying28 hi hz0 hz1 hz2 rfl (by decide) _ _ _ rfl (own_below hG.l2.own ((Below.refl _ _).alloc (Nat.le_refl _) _)) ⟨wr.heap.size, 0, none⟩ 1 1 [.int .i64 (l[k])] rfl rfl (one_new wr _ _) (oneOne _) (by unfold maxLen; omega) (by omega) (by have := hG.l2.below.size; simp; omega) ?_))
          intro v' wz hown hgrow _ hat
          obtain ⟨sv, mv, rfl⟩ := own_slice hown
          have GZ := (hG.swap.push _ hgrow hown hat).swap
          have HG : Hid _ := GZ
          clear hown hgrow hat hG GZ
          go_wp2
          go_roundw
          case rel => exact ⟨k + 1, _, _, _, _, by omega, by go_num, HN.out.1, HN.out.2, rfl, rfl, HG.out⟩
          case measure => simp [intOf]; omega
      · obtain rfl : k = l.length := by omega
        rw [List.take_length] at hO1 hO2
        obtain ⟨s1, m1, rfl, a1, b1⟩ := hG.l1.holds
        obtain ⟨s2, m2, rfl, a2, b2⟩ := hG.l2.holds
        subst hO1 hO2
        have HB : Hid _ := hG.l1.below
        have HA : Hid _ := a1
        have HA2 : Hid _ := a2
        clear hG a1 a2
        go_wp2
        go_ret3
        exact ⟨s1, m1, s2, m2, rfl, HA.out, HA2.out, HB.out, b1, b2⟩
/-- What is left of a list that is cut from the front: a slice that holds it. -/
def CutI (w : World) (v : Value) (l : List Int) : Prop := ∃ a c, v = .slice a l.length c ∧ l.length ≤ c ∧ HoldsI w a l
theorem CutI.open {w : World} {v : Value} {x : Int} {l : List Int} (h : CutI w v (x :: l)) : ∃ b off c N, v = .slice (some ⟨b, off, none⟩) (N + 1) c ∧ N + 1 ≤ c ∧ w.cell? ⟨b, off, none⟩ = some (.int .i64 x) ∧
    (c = 1 → CutI w (.slice (some ⟨b, off, none⟩) N 0) l) ∧ (¬ c = 1 → CutI w (.slice (some ⟨b, off + 1, none⟩) N (c - 1)) l) := by
  obtain ⟨a, c, rfl, hc, hH⟩ := h
  rcases hH with h | ⟨b, off, rfl, hr⟩
  · simp at h
  · rw [List.length_cons] at hc
    refine ⟨b, off, c, l.length, rfl, hc, ?_, fun h1 => ?_, fun h1 => ?_⟩
    · have := hr 0 (by simp)
      simpa using this
    · obtain rfl : l = [] := List.length_eq_zero_iff.1 (by omega)
      exact ⟨_, 0, rfl, Nat.le_refl _, .inl rfl⟩
    · refine ⟨_, _, rfl, by omega, .inr ⟨b, off + 1, rfl, fun k hk => ?_⟩⟩
      have := hr (k + 1) (by simp; omega)
      rw [show off + 1 + k = off + (k + 1) by omega]
      simpa using this
theorem drop_cons {l : List Int} {k : Nat} (hk : k < l.length) : l.drop k = l[k] :: l.drop (k + 1) := by
  rw [List.drop_eq_getElem_cons hk]
set_option maxHeartbeats 1000000 in
theorem join_cno1 (e o : List Int) (st : Int) (s t : Option Addr) (m m' : Nat) (w : World) (hh : jnB st e.length o.length = false) (he : e.length ≤ 4611686018427387904) (ho : o.length ≤ 4611686018427387904) : Calls Try.prog 124 #[.slice s e.length m, .slice t o.length m', .int .i64 st] w (GivesE [] 2 w) := by
  have hh' : ¬ (0 ≤ st ∧ st ≤ 4096 ∧ e.length + o.length ≤ 4096) := fun h => by rw [jn_iff.2 h] at hh; exact absurd hh (by decide)
  cases hs : ogB st with
  | false =>
    obtain ⟨N, hN⟩ : ∃ N, IntKind.i64.wrap ((e.length : Int) + (o.length : Int)) = N := ⟨_, rfl⟩
    clear hh hh'
    go_enter Try.func124, Try.ntmps124
    go_wp2_with (go_at_call 139; refine (og_q _ _).mono ?_; rintro e wn ⟨rfl, rfl⟩)
    go_ret2
    exact ⟨none, 0, rfl, .inl rfl, Below.refl _ _, ⟨Nat.le_refl _, fun _ => rfl, fresh_none _⟩⟩
  | true =>
    obtain ⟨h1, h2⟩ := og_iff.1 hs
    have hn : ogB (IntKind.i64.wrap ((e.length : Int) + (o.length : Int))) = false := by
      rw [Bool.eq_false_iff, Ne, og_iff, IntKind.wrap_i64]
      omega
    obtain ⟨N, hN⟩ : ∃ N, IntKind.i64.wrap ((e.length : Int) + (o.length : Int)) = N := ⟨_, rfl⟩
    rw [hN] at hn
    clear hh hh'
    go_enter Try.func124, Try.ntmps124
    go_wp2_with (go_at_call 139; refine (og_q _ _).mono ?_; rintro e wn ⟨rfl, rfl⟩)
    go_ret2
    exact ⟨none, 0, rfl, .inl rfl, Below.refl _ _, ⟨Nat.le_refl _, fun _ => rfl, fresh_none _⟩⟩
set_option maxHeartbeats 1000000 in
theorem join_cno2 (e o : List Int) (st : Int) (s t : Option Addr) (m m' : Nat) (w : World) (hh : jnB st e.length o.length = true) (hc : jcB st e.length o.length = false) : Calls Try.prog 124 #[.slice s e.length m, .slice t o.length m', .int .i64 st] w (GivesE [] 4 w) := by
  obtain ⟨h1, h2, h3⟩ := jn_iff.1 hh
  have hs : ogB st = true := og_iff.2 ⟨h1, h2⟩
  have hn : ogB ((e.length : Int) + (o.length : Int)) = true := og_iff.2 ⟨by omega, by omega⟩
  have w1 : IntKind.i64.wrap ((e.length : Int) + (o.length : Int)) = (e.length : Int) + (o.length : Int) := IntWalk.i64_in _ (by omega)
  obtain ⟨ca, cb⟩ := ce_cnt (s := st) (n := e.length + o.length) h1 h2 h3
  rw [Int.natCast_add] at ca cb
  obtain ⟨A0, hA⟩ : ∃ A0, Ex.cntE st (e.length + o.length) = A0 := ⟨_, rfl⟩
  obtain ⟨B0, hB⟩ : ∃ B0, Ex.cntO st (e.length + o.length) = B0 := ⟨_, rfl⟩
  rw [hA] at ca
  rw [hB] at cb
  have hc' : ¬ (A0 = e.length ∧ B0 = o.length) := fun h => by rw [jcB, hA, hB, decide_eq_false_iff_not] at hc; exact hc h
  clear hc hA hB
  by_cases hA : A0 = e.length
  · have hB : ¬ B0 = o.length := fun h => hc' ⟨hA, h⟩
    have a1 : ((A0 : Int) == (e.length : Int)) = true := by simp [hA]
    have a2 : ((A0 : Int) != (e.length : Int)) = false := by simp [hA]
    have a3 : decide ((A0 : Int) = (e.length : Int)) = true := by simp [hA]
    have b1 : ((B0 : Int) == (o.length : Int)) = false := by rw [beq_eq_false_iff_ne]; omega
    have b2 : ((B0 : Int) != (o.length : Int)) = true := by simp; omega
    have b3 : decide ((B0 : Int) = (o.length : Int)) = false := by simp; omega
    clear hA hB hc'
    go_enter Try.func124, Try.ntmps124
    go_wp2_with (first | (go_at_call 139; refine (og_q _ _).mono ?_; rintro e wn ⟨rfl, rfl⟩) | (go_at_call 140; refine (cnt_q _ _ _).mono ?_; rintro e wn ⟨rfl, rfl⟩))
    go_ret2
    exact ⟨none, 0, rfl, .inl rfl, Below.refl _ _, ⟨Nat.le_refl _, fun _ => rfl, fresh_none _⟩⟩
  · have a1 : ((A0 : Int) == (e.length : Int)) = false := by rw [beq_eq_false_iff_ne]; omega
    have a2 : ((A0 : Int) != (e.length : Int)) = true := by simp; omega
    have a3 : decide ((A0 : Int) = (e.length : Int)) = false := by simp; omega
    clear hA hc'
    go_enter Try.func124, Try.ntmps124
    go_wp2_with (first | (go_at_call 139; refine (og_q _ _).mono ?_; rintro e wn ⟨rfl, rfl⟩) | (go_at_call 140; refine (cnt_q _ _ _).mono ?_; rintro e wn ⟨rfl, rfl⟩))
    go_ret2
    exact ⟨none, 0, rfl, .inl rfl, Below.refl _ _, ⟨Nat.le_refl _, fun _ => rfl, fresh_none _⟩⟩
/-- A list of its own, in one block that is as long. -/
def GivesRowE (L : List Int) (err : Int) (w : World) (e : Ending) (w' : World) : Prop := ∃ g, e = .returned (.tuple #[.slice (some ⟨g, 0, none⟩) L.length L.length, .int .i64 err]) ∧ w.heap.size ≤ g ∧ RowAt w' g L ∧ Below w.heap.size w w'
theorem GivesRowE.gives {L : List Int} {err : Int} {w w' : World} {e : Ending} (h : GivesRowE L err w e w') : GivesE L err w e w' := by
  obtain ⟨g, rfl, hg, hr, hb⟩ := h
  exact ⟨_, _, rfl, hr.holds, hb, Nat.le_refl _, fun h => by simp at h, fresh_some hg⟩
set_option maxRecDepth 100000 in
set_option maxHeartbeats 1000000 in
theorem join_row (e o : List Int) (st : Int) (s t : Option Addr) (m m' : Nat) (w : World) (hh : jnB st e.length o.length = true) (hc : jcB st e.length o.length = true) (hm : e.length ≤ m) (hm' : o.length ≤ m') (hE : HoldsI w s e) (hO : HoldsI w t o) : Calls Try.prog 124 #[.slice s e.length m, .slice t o.length m', .int .i64 st] w (GivesRowE (Ex.joinL st e o) 0 w) := by
  obtain ⟨h1, h2, h3⟩ := jn_iff.1 hh
  obtain ⟨ca, cb⟩ := ce_cnt (s := st) (n := e.length + o.length) h1 h2 h3
  have hcc : Ex.cntE st (e.length + o.length) = e.length ∧ Ex.cntO st (e.length + o.length) = o.length := by simpa [jcB] using hc
  rw [hcc.1] at ca
  rw [hcc.2] at cb
  obtain ⟨n, hn⟩ : ∃ n, e.length + o.length = n := ⟨_, rfl⟩
  have w1 : IntKind.i64.wrap ((e.length : Int) + (o.length : Int)) = (n : Int) := by rw [IntWalk.i64_in _ (by omega)]; omega
  have hs : ogB st = true := og_iff.2 ⟨h1, h2⟩
  have hgn : ogB (n : Int) = true := og_iff.2 ⟨by omega, by omega⟩
  rw [hn] at ca cb
  have HL : Hid ((Ex.joinL st e o).length = n) := by rw [Ex.joinL_len]; exact hn
  have HC : Hid (Ex.cntE st n = e.length ∧ Ex.cntO st n = o.length) := hn ▸ hcc
  have hn4 : n ≤ 4096 := by omega
  have HN : Hid _ := hn
  have hmk := fun (W : World) => run_make_row' (P := Try.prog) 28 3 (.int .i64 0) 8 Try.underlying28 infoI rfl .i64 .i64 n (by omega) (by omega) W
  clear hcc hn hc
  have HE : Hid (CutI w (.slice s e.length m) (e.drop 0)) := by rw [List.drop_zero]; exact ⟨s, m, rfl, hm, hE⟩
  have HO : Hid (CutI w (.slice t o.length m') (o.drop 0)) := by rw [List.drop_zero]; exact ⟨t, m', rfl, hm', hO⟩
  clear hE hO
  go_enter Try.func124, Try.ntmps124
  go_wp2_with (first | (go_at_call 139; refine (og_q _ _).mono ?_; rintro e wn ⟨rfl, rfl⟩) | (go_at_call 140; refine (cnt_q _ _ _).mono ?_; rintro e wn ⟨rfl, rfl⟩))
  have hR0 : RowAt (w.alloc (zeroRow n)) w.heap.size (fillL (Ex.joinL st e o) 0) := by rw [fillL_zero, HL.out]; exact rowAt_made w n
  have hB0 : Below w.heap.size w (w.alloc (zeroRow n)) := (Below.refl _ _).alloc (Nat.le_refl _) _
  clear hmk hs hgn ca cb hh
  go_loopw [0, 1, 12, 46] (fun v0 v1 _ kk wr => ∃ (k : Nat) (x0 x1 : Value), k ≤ n ∧ x0 = v0 ∧ x1 = v1 ∧ CutI w x0 (e.drop (Ex.cntE st k)) ∧ CutI w x1 (o.drop (Ex.cntO st k)) ∧ kk = .int .i64 k ∧ RowAt wr w.heap.size (fillL (Ex.joinL st e o) k) ∧ Below w.heap.size w wr) (fun _ _ _ kk _ => n - (intOf kk).toNat)
  case atStart => exact ⟨0, _, _, Nat.zero_le _, rfl, rfl, by simpa [Ex.cntE] using HE.out, by simpa [Ex.cntO, Ex.cntE] using HO.out, rfl, hR0, hB0⟩
  case round =>
    obtain ⟨k, x0, x1, hk, rfl, rfl, hC0, hC1, rfl, hR, hB⟩ := hrel
    clear hR0 hB0
    by_cases hlt : k < n
    · have hki : (k : Int) < (n : Int) := by omega
      have w2 : IntKind.i64.wrap (st + (k : Int)) = st + (k : Int) := IntWalk.i64_in _ (by omega)
      have w3 : IntKind.i64.wrap ((k : Int) + 1) = (k : Int) + 1 := IntWalk.i64_in _ (by omega)
      have hkL : k < (Ex.joinL st e o).length := by rw [HL.out]; exact hlt
      have hJ := join_at hkL
      have hset := hR.drew.set k (Ex.joinL st e o)[k]
      rw [fillL_next _ _ hkL, hJ] at hset
      have y0 := hR.at (k := k) (by rw [fillL_len _ _ (by omega)]; exact hkL)
      have z0 := hR.free k
      have hBs := hB.drew.setCell (p := ⟨w.heap.size, k, none⟩) (Nat.le_refl _)
      obtain ⟨d1, d2, d3, d4⟩ := Ex.cnt_next (s := st) (k := k)
      obtain ⟨f1, f2⟩ := Ex.cnt_lt (s := st) (n := n) (j := k) hlt
      rw [HC.out.1] at f1
      rw [HC.out.2] at f2
      generalize (fillL (Ex.joinL st e o) k)[k]'(by rw [fillL_len _ _ (by omega)]; exact hkL) = Z at y0
      have cE := ev_q (st + (k : Int)) (by omega) wr
      clear hR hJ
      by_cases hp : (st + (k : Int)) % 2 = 0
      · rw [ev_t hp] at cE
        rw [if_pos hp] at hset d1 d2
        have f3 := f1 hp
        have D1 : Hid (CutI w x1 (o.drop (Ex.cntO st (k + 1)))) := by rw [d2, Nat.add_zero]; exact hC1
        rw [drop_cons f3] at hC0
        rw [List.getD_eq_getElem?_getD, List.getElem?_eq_getElem f3, Option.getD_some] at hset
        rw [← d1] at hC0
        obtain ⟨bb, off, c, N1, rfl, hcl, y1, q1, q2⟩ := hC0.open
        have y2 := (hB.cell (p := ⟨bb, off, none⟩) (cell_lt y1)).trans y1
        have HB : Hid _ := fun v => hBs v
        have HS : Hid _ := hset
        clear hC0 hC1 f1 f2 hp hset hBs y1 d1 d2
        generalize e[Ex.cntE st k] = V at *
        by_cases hc1 : c = 1
        · subst hc1
          have Q1 : Hid _ := q1 rfl
          clear q1 q2
          obtain rfl : N1 = 0 := by omega
          go_wp2_with (first | (go_at_call 141; refine cE.mono ?_; rintro e wn ⟨rfl, rfl⟩))
          go_region_law (fail)
          all_goals
            go_wp2
            go_roundw
            case rel => exact ⟨k + 1, _, _, by omega, rfl, rfl, Q1.out, D1.out, by go_num, HS.out, HB.out _⟩
            case measure => simp [intOf]; omega
        · have Q1 : Hid _ := q2 hc1
          clear q1 q2
          have hl1 : (1 : Int) ≤ (N1 : Int) + 1 := by omega
          go_wp2_with (first | (go_at_call 141; refine cE.mono ?_; rintro e wn ⟨rfl, rfl⟩))
          go_region_law (fail)
          all_goals
            go_wp2
            go_roundw
            case rel => exact ⟨k + 1, _, _, by omega, rfl, rfl, Q1.out, D1.out, by go_num, HS.out, HB.out _⟩
            case measure => simp [intOf]; omega
      · rw [ev_f hp] at cE
        rw [if_neg hp] at hset d1 d2
        have f3 := f2 hp
        have D1 : Hid (CutI w x0 (e.drop (Ex.cntE st (k + 1)))) := by rw [d1, Nat.add_zero]; exact hC0
        rw [drop_cons f3] at hC1
        rw [List.getD_eq_getElem?_getD, List.getElem?_eq_getElem f3, Option.getD_some] at hset
        rw [← d2] at hC1
        obtain ⟨bb, off, c, N1, rfl, hcl, y1, q1, q2⟩ := hC1.open
        have y2 := (hB.cell (p := ⟨bb, off, none⟩) (cell_lt y1)).trans y1
        have HB : Hid _ := fun v => hBs v
        have HS : Hid _ := hset
        clear hC0 hC1 f1 f2 hp hset hBs y1 d1 d2
        generalize o[Ex.cntO st k] = V at *
        by_cases hc1 : c = 1
        · subst hc1
          have Q1 : Hid _ := q1 rfl
          clear q1 q2
          obtain rfl : N1 = 0 := by omega
          go_wp2_with (first | (go_at_call 141; refine cE.mono ?_; rintro e wn ⟨rfl, rfl⟩))
          go_region_law (fail)
          all_goals
            go_wp2
            go_roundw
            case rel => exact ⟨k + 1, _, _, by omega, rfl, rfl, D1.out, Q1.out, by go_num, HS.out, HB.out _⟩
            case measure => simp [intOf]; omega
        · have Q1 : Hid _ := q2 hc1
          clear q1 q2
          have hl1 : (1 : Int) ≤ (N1 : Int) + 1 := by omega
          go_wp2_with (first | (go_at_call 141; refine cE.mono ?_; rintro e wn ⟨rfl, rfl⟩))
          go_region_law (fail)
          all_goals
            go_wp2
            go_roundw
            case rel => exact ⟨k + 1, _, _, by omega, rfl, rfl, D1.out, Q1.out, by go_num, HS.out, HB.out _⟩
            case measure => simp [intOf]; omega
    · obtain rfl : k = n := by omega
      have HR : Hid (RowAt wr w.heap.size (Ex.joinL st e o)) := by rw [← HL.out, fillL_all] at hR; exact hR
      have HB : Hid _ := hB
      clear hR hB hC0 hC1 HC
      go_wp2
      go_ret2
      refine ⟨w.heap.size, ?_, Nat.le_refl _, HR.out, HB.out⟩
      rw [HL.out]
      rfl
theorem join_cyes (e o : List Int) (st : Int) (s t : Option Addr) (m m' : Nat) (w : World) (hh : jnB st e.length o.length = true) (hc : jcB st e.length o.length = true) (hm : e.length ≤ m) (hm' : o.length ≤ m') (hE : HoldsI w s e) (hO : HoldsI w t o) : Calls Try.prog 124 #[.slice s e.length m, .slice t o.length m', .int .i64 st] w (GivesE (Ex.joinL st e o) 0 w) :=
  (join_row e o st s t m m' w hh hc hm hm' hE hO).mono fun _ _ h => h.gives
end Go.Proofs.Ytnfnidgabgdphaa
