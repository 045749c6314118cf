/-
  What each call of Inverse, Margin, HighBound and LowBound of the reference of layer 4 returns and leaves.
-/
import Derived.Test.YtnfnidgabgdphaaLiftS
set_option maxRecDepth 100000
namespace Go.Proofs.Ytnfnidgabgdphaa
open Go.RowKit

theorem un2_get {st kn : Int} {l : List Int} {k : Nat} (hk : k < l.length) : ((st + (k : Int)) % 2 = 0 → (Ex.unst2 st l kn)[k]'(by rw [Ex.unst2_len]; exact hk) = l[k] - Ex.updF (Ex.ex st l) (st + k) kn) ∧ ((st + (k : Int)) % 2 ≠ 0 → (Ex.unst2 st l kn)[k]'(by rw [Ex.unst2_len]; exact hk) = l[k]) := by
  have e : (Ex.unst2 st l kn)[k]'(by rw [Ex.unst2_len]; exact hk) = Ex.unst2F st l kn (st + k) := Ex.tb_at (by rw [Ex.tb_len]; exact hk)
  rw [e, Ex.unst2F, Ex.sg_at hk]
  exact ⟨fun h => if_pos h, fun h => if_neg h⟩
theorem un1_get {st kn : Int} {l : List Int} {k : Nat} (hk : k < l.length) : ((st + (k : Int)) % 2 = 0 → (Ex.unst1 st l kn)[k]'(by rw [Ex.unst1_len]; exact hk) = l[k]) ∧ ((st + (k : Int)) % 2 ≠ 0 → (Ex.unst1 st l kn)[k]'(by rw [Ex.unst1_len]; exact hk) = l[k] + Ex.predF (Ex.ex st l) (st + k) kn) := by
  have e : (Ex.unst1 st l kn)[k]'(by rw [Ex.unst1_len]; exact hk) = Ex.unst1F st l kn (st + k) := Ex.tb_at (by rw [Ex.tb_len]; exact hk)
  rw [e, Ex.unst1F, Ex.sg_at hk]
  exact ⟨fun h => if_pos h, fun h => if_neg h⟩
theorem un2_within {st kn b : Int} {l : List Int} (hk : kn = 1 ∨ kn = 2 ∨ kn = 3) (hw : Ex.within b l) : Ex.within (2 * b + 1) (Ex.unst2 st l kn) := by
  refine within_at (s := st) fun i h0 h1 => ?_
  rw [Ex.unst2_len] at h1
  have hx := hw _ (Ex.sg_mem (s := st) h0 h1)
  have g1 := Ex.ex_bd (s := st) (show 0 < l.length by omega) hw (i - 1)
  have g2 := Ex.ex_bd (s := st) (show 0 < l.length by omega) hw (i + 1)
  rw [Ex.unst2, Ex.sg_tb h0 h1, Ex.unst2F, Ex.updF]
  rcases hk with rfl | rfl | rfl <;> simp only [Int.reduceEq, ↓reduceIte] <;> split <;> omega
theorem un1_within {st kn b : Int} {l : List Int} (hk : kn = 1 ∨ kn = 2 ∨ kn = 3) (hw : Ex.within b l) : Ex.within (3 * b + 1) (Ex.unst1 st l kn) := by
  refine within_at (s := st) fun i h0 h1 => ?_
  rw [Ex.unst1_len] at h1
  have hx := hw _ (Ex.sg_mem (s := st) h0 h1)
  have g1 := Ex.ex_bd (s := st) (show 0 < l.length by omega) hw (i - 1)
  have g2 := Ex.ex_bd (s := st) (show 0 < l.length by omega) hw (i + 1)
  have g3 := Ex.ex_bd (s := st) (show 0 < l.length by omega) hw (i - 3)
  have g4 := Ex.ex_bd (s := st) (show 0 < l.length by omega) hw (i + 3)
  rw [Ex.unst1, Ex.sg_tb h0 h1, Ex.unst1F, Ex.predF]
  rcases hk with rfl | rfl | rfl <;> simp only [Int.reduceEq, ↓reduceIte] <;> split <;> omega
theorem joinL_within {st b : Int} {e o : List Int} (hb : 0 ≤ b) (h1 : Ex.within b e) (h2 : Ex.within b o) : Ex.within b (Ex.joinL st e o) := by
  intro v hv
  obtain ⟨j, hj, rfl⟩ := List.getElem_of_mem hv
  rw [join_at hj]
  have key : ∀ (l : List Int) (n : Nat), Ex.within b l → -b ≤ l.getD n 0 ∧ l.getD n 0 ≤ b := fun l n h => by
    by_cases hn : n < l.length
    · rw [List.getD_eq_getElem?_getD, List.getElem?_eq_getElem hn, Option.getD_some]; exact h _ (List.getElem_mem hn)
    · rw [List.getD_eq_getElem?_getD, List.getElem?_eq_none (by omega), Option.getD_none]; omega
  split
  · exact key _ _ h1
  · exact key _ _ h2
set_option maxHeartbeats 1000000 in
theorem inv_no1 (e o : List Int) (st kn : Int) (s t : Option Addr) (m m' : Nat) (w : World) (hk : kB kn = false) : Calls Try.prog 83 #[.slice s e.length m, .slice t o.length m', .int .i64 st, .int .i64 kn] w (GivesE [] 3 w) := by
  go_enter Try.func83, Try.ntmps83
  go_wp2_with (go_at_call 118; refine (vk_r _ _).mono ?_; rintro e wn ⟨rfl, rfl⟩)
  go_ret2
  exact ⟨none, 0, rfl, .inl rfl, Below.refl _ _, ⟨Nat.le_refl _, fun _ => rfl, fresh_none _⟩⟩
set_option maxHeartbeats 1000000 in
theorem inv_no2 (e o : List Int) (st kn : Int) (s t : Option Addr) (m m' : Nat) (w : World) (hk : kB kn = true) (hh : jnB st e.length o.length = false) (he : e.length ≤ 4611686018427387904) (ho : o.length ≤ 4611686018427387904) : Calls Try.prog 83 #[.slice s e.length m, .slice t o.length m', .int .i64 st, .int .i64 kn] w (GivesE [] 2 w) := by
  have hh' : ¬ (0 ≤ st ∧ st ≤ 4096 ∧ e.length + o.length ≤ 4096) := fun h => by rw [jn_iff.2 h] at hh; exact absurd hh (by decide)
  by_cases h1 : st < 0
  · go_enter Try.func83, Try.ntmps83
    go_wp2_with (go_at_call 118; refine (vk_r _ _).mono ?_; rintro e wn ⟨rfl, rfl⟩)
    go_ret2
    exact ⟨none, 0, rfl, .inl rfl, Below.refl _ _, ⟨Nat.le_refl _, fun _ => rfl, fresh_none _⟩⟩
  · by_cases h2 : 4096 < st
    · go_enter Try.func83, Try.ntmps83
      go_wp2_with (go_at_call 118; refine (vk_r _ _).mono ?_; rintro e wn ⟨rfl, rfl⟩)
      go_ret2
      exact ⟨none, 0, rfl, .inl rfl, Below.refl _ _, ⟨Nat.le_refl _, fun _ => rfl, fresh_none _⟩⟩
    · by_cases h3 : (4096 : Int) < (e.length : Int)
      · go_enter Try.func83, Try.ntmps83
        go_wp2_with (go_at_call 118; refine (vk_r _ _).mono ?_; rintro e wn ⟨rfl, rfl⟩)
        go_ret2
        exact ⟨none, 0, rfl, .inl rfl, Below.refl _ _, ⟨Nat.le_refl _, fun _ => rfl, fresh_none _⟩⟩
      · by_cases h4 : (4096 : Int) < (o.length : Int)
        · go_enter Try.func83, Try.ntmps83
          go_wp2_with (go_at_call 118; refine (vk_r _ _).mono ?_; rintro e wn ⟨rfl, rfl⟩)
          go_ret2
          exact ⟨none, 0, rfl, .inl rfl, Below.refl _ _, ⟨Nat.le_refl _, fun _ => rfl, fresh_none _⟩⟩
        · have w1 : IntKind.i64.wrap ((e.length : Int) + (o.length : Int)) = (e.length : Int) + (o.length : Int) := IntWalk.i64_in _ (by omega)
          have h5 : (4096 : Int) < (e.length : Int) + (o.length : Int) := by omega
          go_enter Try.func83, Try.ntmps83
          go_wp2_with (go_at_call 118; refine (vk_r _ _).mono ?_; rintro e wn ⟨rfl, rfl⟩)
          go_ret2
          exact ⟨none, 0, rfl, .inl rfl, Below.refl _ _, ⟨Nat.le_refl _, fun _ => rfl, fresh_none _⟩⟩
set_option maxHeartbeats 1000000 in
theorem inv_no3 (e o : List Int) (st kn : Int) (s t : Option Addr) (m m' : Nat) (w : World) (hk : kB kn = true) (hh : jnB st e.length o.length = true) (hf : (fewB e 1125899906842624 && fewB o 1125899906842624) = false) (hE : HoldsI w s e) (hO : HoldsI w t o) : Calls Try.prog 83 #[.slice s e.length m, .slice t o.length m', .int .i64 st, .int .i64 kn] w (GivesE [] 2 w) := by
  obtain ⟨h1, h2, h3⟩ := jn_iff.1 hh
  have n1 : ¬ st < 0 := by omega
  have n2 : ¬ 4096 < st := by omega
  have n3 : ¬ (4096 : Int) < (e.length : Int) := by omega
  have n4 : ¬ (4096 : Int) < (o.length : Int) := by omega
  have w1 : IntKind.i64.wrap ((e.length : Int) + (o.length : Int)) = (e.length : Int) + (o.length : Int) := IntWalk.i64_in _ (by omega)
  have n5 : ¬ (4096 : Int) < (e.length : Int) + (o.length : Int) := by omega
  cases hf1 : fewB e 1125899906842624 with
  | false =>
    go_enter Try.func83, Try.ntmps83
    go_wp2_with (first | (go_at_call 118; refine (vk_r _ _).mono ?_; rintro e wn ⟨rfl, rfl⟩) | (go_at_call 119; with_reducible refine (few_r e _ _ _ _ (by decide) (by decide) (by omega) hE).mono ?_; rintro e wn ⟨rfl, rfl⟩) | (go_at_call 119; with_reducible refine (few_r o _ _ _ _ (by decide) (by decide) (by omega) hO).mono ?_; rintro e wn ⟨rfl, rfl⟩))
    go_ret2
    exact ⟨none, 0, rfl, .inl rfl, Below.refl _ _, ⟨Nat.le_refl _, fun _ => rfl, fresh_none _⟩⟩
  | true =>
    have hf2 : fewB o 1125899906842624 = false := by rw [hf1, Bool.true_and] at hf; exact hf
    go_enter Try.func83, Try.ntmps83
    go_wp2_with (first | (go_at_call 118; refine (vk_r _ _).mono ?_; rintro e wn ⟨rfl, rfl⟩) | (go_at_call 119; with_reducible refine (few_r e _ _ _ _ (by decide) (by decide) (by omega) hE).mono ?_; rintro e wn ⟨rfl, rfl⟩) | (go_at_call 119; with_reducible refine (few_r o _ _ _ _ (by decide) (by decide) (by omega) hO).mono ?_; rintro e wn ⟨rfl, rfl⟩))
    go_ret2
    exact ⟨none, 0, rfl, .inl rfl, Below.refl _ _, ⟨Nat.le_refl _, fun _ => rfl, fresh_none _⟩⟩
set_option maxRecDepth 100000 in
set_option maxHeartbeats 4000000 in
theorem inv_no4 (e o : List Int) (st kn : Int) (s t : Option Addr) (m m' : Nat) (w : World) (hk : kB kn = true) (hh : jnB st e.length o.length = true) (hf1 : fewB e 1125899906842624 = true) (hf2 : fewB o 1125899906842624 = true) (hc : jcB st e.length o.length = false) (hE : HoldsI w s e) (hO : HoldsI w t o) : Calls Try.prog 83 #[.slice s e.length m, .slice t o.length m', .int .i64 st, .int .i64 kn] w (GivesE [] 4 w) := by
  obtain ⟨h1, h2, h3⟩ := jn_iff.1 hh
  have n1 : ¬ st < 0 := by omega
  have n2 : ¬ 4096 < st := by omega
  have n3 : ¬ (4096 : Int) < (e.length : Int) := by omega
  have n4 : ¬ (4096 : Int) < (o.length : Int) := by omega
  have w1 : IntKind.i64.wrap ((e.length : Int) + (o.length : Int)) = (e.length : Int) + (o.length : Int) := IntWalk.i64_in _ (by omega)
  have n5 : ¬ (4096 : Int) < (e.length : Int) + (o.length : Int) := by omega
  go_enter Try.func83, Try.ntmps83
  go_wp2_with (first | (go_at_call 118; refine (vk_r _ _).mono ?_; rintro e wn ⟨rfl, rfl⟩) | (go_at_call 119; with_reducible refine (few_r e _ _ _ _ (by decide) (by decide) (by omega) hE).mono ?_; rintro e wn ⟨rfl, rfl⟩) | (go_at_call 119; with_reducible refine (few_r o _ _ _ _ (by decide) (by decide) (by omega) hO).mono ?_; rintro e wn ⟨rfl, rfl⟩) | (go_at_call 125; refine (join_no2 e o st s t m m' w hh hc).mono ?_; rintro e wj ⟨sj, mj, rfl, aj, bj, cj⟩))
  go_ret2
  exact ⟨sj, mj, rfl, aj, bj, cj⟩
set_option maxRecDepth 100000 in
set_option maxHeartbeats 4000000 in
theorem inv_yes (e o : List Int) (st kn : Int) (s t : Option Addr) (m m' : Nat) (w : World) (hk : kB kn = true) (hh : jnB st e.length o.length = true) (hf1 : fewB e 1125899906842624 = true) (hf2 : fewB o 1125899906842624 = true) (hc : jcB st e.length o.length = true) (hE : HoldsI w s e) (hO : HoldsI w t o) : Calls Try.prog 83 #[.slice s e.length m, .slice t o.length m', .int .i64 st, .int .i64 kn] w (GivesE (Ex.invL st (Ex.joinL st e o) kn) 0 w) := by
  obtain ⟨h1, h2, h3⟩ := jn_iff.1 hh
  have n1 : ¬ st < 0 := by omega
  have n2 : ¬ 4096 < st := by omega
  have n3 : ¬ (4096 : Int) < (e.length : Int) := by omega
  have n4 : ¬ (4096 : Int) < (o.length : Int) := by omega
  have w1 : IntKind.i64.wrap ((e.length : Int) + (o.length : Int)) = (e.length : Int) + (o.length : Int) := IntWalk.i64_in _ (by omega)
  have n5 : ¬ (4096 : Int) < (e.length : Int) + (o.length : Int) := by omega
  obtain ⟨i0, hi, hz0, hz1, hz2⟩ := info_parts infoI
  have hkk := k_iff.1 hk
  have hwl := joinL_within (st := st) (show (0 : Int) ≤ 1125899906842624 by decide) (few_iff.1 hf1) (few_iff.1 hf2)
  have hll : (Ex.joinL st e o).length ≤ 4096 := by rw [Ex.joinL_len]; exact h3
  have cJ := fun W (a : HoldsI W s e) (b : HoldsI W t o) => join_own e o st s t m m' W hh hc a b
  have cJ1 := cJ w hE hO
  clear cJ
  generalize Ex.joinL st e o = l at *
  by_cases hn : 1 < l.length
  · have hni : ¬ (l.length : Int) < 2 := by omega
    have lU : (Ex.unst2 st l kn).length = l.length := Ex.unst2_len _ _ _
    have hwU := un2_within (st := st) (kn := kn) hkk hwl
    have hwV := un1_within (st := st) (kn := kn) hkk hwU
    go_enter Try.func83, Try.ntmps83
    go_wp2_with (first | (go_at_call 118; refine (vk_r _ _).mono ?_; rintro e wn ⟨rfl, rfl⟩) | (go_at_call 119; with_reducible refine (few_r e _ _ _ _ (by decide) (by decide) (by omega) hE).mono ?_; rintro e wn ⟨rfl, rfl⟩) | (go_at_call 119; with_reducible refine (few_r o _ _ _ _ (by decide) (by decide) (by omega) hO).mono ?_; rintro e wn ⟨rfl, rfl⟩) | (go_at_call 125; refine cJ1.mono ?_; rintro e wj ⟨vj, rfl, GJ⟩; clear cJ1; obtain ⟨g, mg, rfl, hmg, Y0⟩ := Yr.of GJ (by omega); have HNz : Hid _ := holdsI_list (Y0.holds.alloc (.cells #[] 3))) | (at_builtin; refine wpList_append_own _ rfl _ _ 28 rfl wj.heap.size 3 i0 (.int .i64 0) 1 8 Try.underlying28 hi hz0 hz1 hz2 rfl (by decide) _ 0 [] rfl (World.ownsRow_made wj #[] 0 (Nat.le_refl _) (by decide) (by simp)) ⟨g, 0, none⟩ l.length mg (l.map (Value.int .i64)) rfl (by simp) HNz.out (oneI _) (by unfold maxLen; omega) (by omega) (by simp) ?_))
    intro v'' w2 hown hgrow _
    have GZ : Gl wj v'' l w2 := ⟨(below_alloc (Below.refl _ wj) _).grown hgrow (below_alloc (Below.refl _ wj) _).size (fun k hk => by simp [Value.ownBlock] at hk; omega), by simpa using hown⟩
    obtain ⟨gz, mz, rfl, hmz, Z0⟩ := Yr.of GZ (by omega)
    have hgz : g < gz := by have := Z0.hg; have := Y0.lt; omega
    obtain ⟨padz, hrz⟩ := Z0.row
    have Y1 := Y0.step GZ.below
    clear hown hgrow GZ HNz Y0 Z0 GJ
    go_wp2_with fail
    go_loopw [71] (fun i wr => ∃ k : Nat, k ≤ l.length ∧ i = .int .i64 k ∧ Yr w wr g (mixT (Ex.unst2 st l kn) l k) ∧ RowP wr gz l padz) (fun i _ => l.length - (intOf i).toNat)
    case atStart => exact ⟨0, Nat.zero_le _, rfl, by rw [mix_zero]; exact Y1, hrz⟩
    case round =>
      obtain ⟨k, hk3, rfl, hY, hZ⟩ := hrel
      clear Y1 hrz
      by_cases hlt : k < l.length
      · have hki : (k : Int) < (l.length : Int) := by omega
        have w1 : IntKind.i64.wrap (st + (k : Int)) = st + (k : Int) := IntWalk.i64_in _ (by omega)
        have w2 : IntKind.i64.wrap ((k : Int) + 1) = (k : Int) + 1 := IntWalk.i64_in _ (by omega)
        have hltY : k < l.length := by omega
        obtain ⟨g1, g2⟩ := un2_get (st := st) (kn := kn) hltY
        have hltZ : k < (Ex.unst2 st l kn).length := by omega
        by_cases hp : (st + (k : Int)) % 2 = 0
        · have t1 : (st + (k : Int)).tmod 2 = 0 := by rw [Int.tmod_eq_emod_of_nonneg (by omega)]; exact hp
          have gx := g1 hp
          have y0 := hY.at (k := k) (by rw [mix_len lU]; exact hltY)
          rw [mix_at lU hltY] at y0
          have z1 := hY.free k
          have hset := hY.drew.set (k := k) (by rw [mix_len lU]; exact hltY) ((Ex.unst2 st l kn)[k]'hltZ)
          rw [mix_next lU hltY] at hset
          have hsz := hZ.far ⟨g, k, none⟩ (.int .i64 ((Ex.unst2 st l kn)[k]'hltZ)) (show gz ≠ g by omega)
          have cP := upd_r l st (st + (k : Int)) kn (some ⟨gz, 0, none⟩) mz wr.drew hkk h1 h2 (by omega) (by omega) (by omega) (by omega) (within_mono hwl (by decide)) hZ.holds
          have hS := hwU _ (List.getElem_mem hltZ)
          generalize Ex.updF (Ex.ex st l) (st + (k : Int)) kn = P at *
          generalize (Ex.unst2 st l kn)[k]'hltZ = S at *
          generalize l[k]'hltY = X at *
          have w3 : IntKind.i64.wrap (X - P) = S := by rw [IntWalk.i64_in _ (by omega)]; exact gx.symm
          have HY : Hid _ := hset
          have HZ : Hid _ := hsz
          clear g1 g2 gx hset hS hY hsz hZ
          go_wp2_with fail
          go_region_law (first | (go_simp; go_at_call 121; (with_reducible refine cP.mono ?_); rintro e wn ⟨rfl, rfl⟩; go_wp2_with fail))
          all_goals
            go_wp2
            go_roundw
            case rel => first | exact ⟨k + 1, by omega, by go_num, HY.out, HZ.out⟩ | ((repeat apply Exists.intro); exact ⟨⟨k + 1, by omega, by go_num, HY.out, HZ.out⟩, rfl⟩)
            case measure => simp [intOf]; omega
        · have t1 : (st + (k : Int)).tmod 2 = 1 := by rw [Int.tmod_eq_emod_of_nonneg (by omega)]; omega
          have HY : Hid (Yr w wr g (mixT (Ex.unst2 st l kn) l (k + 1))) := by rw [← mix_same lU hltY (g2 hp)]; exact hY
          have HZ : Hid _ := hZ
          clear g1 g2 hY hZ
          go_wp2
          go_roundw
          case rel => exact ⟨k + 1, by omega, by go_num, HY.out, HZ.out⟩
          case measure => simp [intOf]; omega
      · obtain rfl : k = l.length := by omega
        rw [mix_all lU] at hY
        obtain ⟨Y, hYe⟩ : ∃ Y, Y = Ex.unst2 st l kn := ⟨_, rfl⟩
        have HE : Hid _ := hYe
        rw [← hYe] at hY lU hwU hwV
        clear hYe
        have lY := lU
        have lZ : (Ex.unst1 st Y kn).length = Y.length := Ex.unst1_len _ _ _
        have hwZ := hwV
        have HNz : Hid _ := holdsI_list (hY.holds.alloc (.cells #[] 3))
        have hYlt := hY.lt
        go_wp2_with (first | (at_builtin; refine wpList_append_own _ rfl _ _ 28 rfl wr.heap.size 3 i0 (.int .i64 0) 1 8 Try.underlying28 hi hz0 hz1 hz2 rfl (by decide) _ 0 [] rfl (World.ownsRow_made wr #[] 0 (Nat.le_refl _) (by decide) (by simp)) ⟨g, 0, none⟩ l.length mg (Y.map (Value.int .i64)) rfl (by rw [List.length_map, lY, Nat.mul_one]) HNz.out (oneI _) (by unfold maxLen; omega) (by omega) (by simp) ?_))
        intro v'' w2 hown hgrow _
        have GZ : Gl wr v'' Y w2 := ⟨(below_alloc (Below.refl _ wr) _).grown hgrow (below_alloc (Below.refl _ wr) _).size (fun k hk => by simp [Value.ownBlock] at hk; omega), by rw [lY]; first | exact hown | simpa using hown⟩
        obtain ⟨gx, mx, hvx, hmx, X0⟩ := Yr.of GZ (by omega)
        rw [lY] at hvx
        subst hvx
        have hgx : g < gx := by have := X0.hg; omega
        obtain ⟨padx, hrx⟩ := X0.row
        have Y2 := hY.step GZ.below
        clear hown hgrow GZ HNz hY X0 hYlt hZ
        go_wp2_with fail
        go_loopw [98] (fun i wr => ∃ k : Nat, k ≤ l.length ∧ i = .int .i64 k ∧ Yr w wr g (mixT (Ex.unst1 st Y kn) Y k) ∧ RowP wr gx Y padx) (fun i _ => l.length - (intOf i).toNat)
        case atStart => exact ⟨0, Nat.zero_le _, rfl, by rw [mix_zero]; exact Y2, hrx⟩
        case round =>
          obtain ⟨k, hk3, rfl, hY, hZ⟩ := hrel
          clear Y2 hrx
          by_cases hlt : k < l.length
          · have hki : (k : Int) < (l.length : Int) := by omega
            have w1 : IntKind.i64.wrap (st + (k : Int)) = st + (k : Int) := IntWalk.i64_in _ (by omega)
            have w2 : IntKind.i64.wrap ((k : Int) + 1) = (k : Int) + 1 := IntWalk.i64_in _ (by omega)
            have hltY : k < Y.length := by omega
            obtain ⟨g1, g2⟩ := un1_get (st := st) (kn := kn) hltY
            have hltZ : k < (Ex.unst1 st Y kn).length := by omega
            by_cases hp : (st + (k : Int)) % 2 ≠ 0
            · have t1 : (st + (k : Int)).tmod 2 = 1 := by rw [Int.tmod_eq_emod_of_nonneg (by omega)]; omega
              have gq := g2 hp
              have y0 := hY.at (k := k) (by rw [mix_len lZ]; exact hltY)
              rw [mix_at lZ hltY] at y0
              have z1 := hY.free k
              have hset := hY.drew.set (k := k) (by rw [mix_len lZ]; exact hltY) ((Ex.unst1 st Y kn)[k]'hltZ)
              rw [mix_next lZ hltY] at hset
              have hsz := hZ.far ⟨g, k, none⟩ (.int .i64 ((Ex.unst1 st Y kn)[k]'hltZ)) (show gx ≠ g by omega)
              have cP := pred_r Y st (st + (k : Int)) kn (some ⟨gx, 0, none⟩) mx wr.drew hkk h1 h2 (by omega) (by omega) (by omega) (by omega) (within_mono hwU (by decide)) hZ.holds
              rw [lY] at cP
              have hS := hwZ _ (List.getElem_mem hltZ)
              generalize Ex.predF (Ex.ex st Y) (st + (k : Int)) kn = P at *
              generalize (Ex.unst1 st Y kn)[k]'hltZ = S at *
              generalize Y[k]'hltY = X at *
              have w3 : IntKind.i64.wrap (X + P) = S := by rw [IntWalk.i64_in _ (by omega)]; exact gq.symm
              have HY : Hid _ := hset
              have HZ : Hid _ := hsz
              clear g1 g2 gq hset hS hY hsz hZ
              go_wp2_with fail
              go_region_law (first | (go_simp; go_at_call 120; (with_reducible refine cP.mono ?_); rintro e wn ⟨rfl, rfl⟩; go_wp2_with fail))
              all_goals
                go_wp2
                go_roundw
                case rel => first | exact ⟨k + 1, by omega, by go_num, HY.out, HZ.out⟩ | ((repeat apply Exists.intro); exact ⟨⟨k + 1, by omega, by go_num, HY.out, HZ.out⟩, rfl⟩)
                case measure => simp [intOf]; omega
            · have t1 : (st + (k : Int)).tmod 2 = 0 := by rw [Int.tmod_eq_emod_of_nonneg (by omega)]; omega
              have HY : Hid (Yr w wr g (mixT (Ex.unst1 st Y kn) Y (k + 1))) := by rw [← mix_same lZ hltY (g1 (Classical.not_not.1 hp))]; exact hY
              have HZ : Hid _ := hZ
              clear g1 g2 hY hZ
              go_wp2
              go_roundw
              case rel => exact ⟨k + 1, by omega, by go_num, HY.out, HZ.out⟩
              case measure => simp [intOf]; omega
          · obtain rfl : k = l.length := by omega
            rw [← lY, mix_all lZ] at hY
            have hfin : Ex.invL st l kn = Ex.unst1 st Y kn := by rw [HE.out, Ex.invL, if_pos hn]
            generalize Ex.unst1 st Y kn = Z at *
            have HFin : Hid _ := hfin
            have HY : Hid _ := hY
            have hZl : Z.length = l.length := by omega
            have HZl : Hid _ := hZl
            clear hfin hY hZ hZl lZ hwZ hwV
            go_wp2
            go_ret2
            rw [HFin.out]
            exact ⟨some ⟨g, 0, none⟩, mg, by rw [HZl.out]; rfl, HY.out.holds, HY.out.below, by rw [HZl.out]; exact hmg, fun h => by simp at h, fresh_some HY.out.hg⟩
  · have hni : (l.length : Int) < 2 := by omega
    have hfin : Ex.invL st l kn = l := by rw [Ex.invL, if_neg hn]
    have HFin : Hid _ := hfin
    clear hfin
    go_enter Try.func83, Try.ntmps83
    go_wp2_with (first | (go_at_call 118; refine (vk_r _ _).mono ?_; rintro e wn ⟨rfl, rfl⟩) | (go_at_call 119; with_reducible refine (few_r e _ _ _ _ (by decide) (by decide) (by omega) hE).mono ?_; rintro e wn ⟨rfl, rfl⟩) | (go_at_call 119; with_reducible refine (few_r o _ _ _ _ (by decide) (by decide) (by omega) hO).mono ?_; rintro e wn ⟨rfl, rfl⟩) | (go_at_call 125; refine cJ1.mono ?_; rintro e wj ⟨vj, rfl, GJ⟩; clear cJ1; obtain ⟨sj, mj, rfl, lj, hmj⟩ := GJ.holds; have HJ : Hid _ := lj; clear lj))
    go_ret2
    rw [HFin.out]
    exact ⟨sj, mj, rfl, HJ.out, GJ.below, hmj⟩
set_option maxHeartbeats 1000000 in
def mgI (k : Int) : Int := if k = 1 ∨ k = 2 then 2 else if k = 3 then 4 else 0
set_option maxHeartbeats 1000000 in
theorem mg_r (k : Int) (w : World) : Calls Try.prog 98 #[.int .i64 k] w fun e w' => e = .returned (.int .i64 (mgI k)) ∧ w = w' := by
  by_cases k1 : k = 1
  · subst k1
    go_enter Try.func98, Try.ntmps98
    go_wp2_with fail
    go_ret
    exact ⟨ret_int (by simp [mgI]), rfl⟩
  · by_cases k2 : k = 2
    · subst k2
      go_enter Try.func98, Try.ntmps98
      go_wp2_with fail
      go_ret
      exact ⟨ret_int (by simp [mgI]), rfl⟩
    · by_cases k3 : k = 3
      · subst k3
        go_enter Try.func98, Try.ntmps98
        go_wp2_with fail
        go_ret
        exact ⟨ret_int (by simp [mgI]), rfl⟩
      · go_enter Try.func98, Try.ntmps98
        go_wp2_with fail
        go_ret
        exact ⟨ret_int (by simp [mgI, k1, k2, k3]), rfl⟩
def hbV (b k : Int) : Int := if 0 ≤ b ∧ b ≤ 281474976710656 ∧ kB k = true then Ex.hbI b k else 0
set_option maxRecDepth 100000 in
set_option maxHeartbeats 4000000 in
theorem hb_r (b k : Int) (w : World) : Calls Try.prog 102 #[.int .i64 b, .int .i64 k] w fun e w' => e = .returned (.int .i64 (hbV b k)) ∧ w = w' := by
  by_cases h1 : b < 0
  · have e0 : hbV b k = 0 := if_neg (by omega)
    rw [e0]
    clear e0
    go_enter Try.func102, Try.ntmps102
    go_wp2_with (go_at_call 118; refine (vk_r _ _).mono ?_; rintro e wn ⟨rfl, rfl⟩)
    go_ret
    exact ⟨rfl, rfl⟩
  · by_cases h2 : 281474976710656 < b
    · have e0 : hbV b k = 0 := if_neg (by omega)
      rw [e0]
      clear e0
      go_enter Try.func102, Try.ntmps102
      go_wp2_with (go_at_call 118; refine (vk_r _ _).mono ?_; rintro e wn ⟨rfl, rfl⟩)
      go_ret
      exact ⟨rfl, rfl⟩
    · cases hk : kB k with
      | false =>
        have e0 : hbV b k = 0 := if_neg (by rw [hk]; simp)
        rw [e0]
        clear e0
        go_enter Try.func102, Try.ntmps102
        go_wp2_with (go_at_call 118; refine (vk_r _ _).mono ?_; rintro e wn ⟨rfl, rfl⟩)
        go_ret
        exact ⟨rfl, rfl⟩
      | true =>
        have e0 : hbV b k = Ex.hbI b k := if_pos ⟨by omega, by omega, hk⟩
        rw [e0]
        clear e0
        have hk1 := k_iff.1 hk
        have v0 : IntKind.i64.wrap (20 * b) = 20 * b := IntWalk.i64_in _ (by omega)
        have v0' : wrap64 (20 * b) = 20 * b := IntWalk.wrap64_in _ ⟨by omega, by omega⟩
        have v1 : IntKind.i64.wrap (20 * b + 8) = 20 * b + 8 := IntWalk.i64_in _ (by omega)
        have v1' : wrap64 (20 * b + 8) = 20 * b + 8 := IntWalk.wrap64_in _ ⟨by omega, by omega⟩
        have v2 : IntKind.i64.wrap (2 * b) = 2 * b := IntWalk.i64_in _ (by omega)
        have v2' : wrap64 (2 * b) = 2 * b := IntWalk.wrap64_in _ ⟨by omega, by omega⟩
        have v3 : IntKind.i64.wrap (b + (20 * b + 8) / 16) = b + (20 * b + 8) / 16 := IntWalk.i64_in _ (by omega)
        have v3' : wrap64 (b + (20 * b + 8) / 16) = b + (20 * b + 8) / 16 := IntWalk.wrap64_in _ ⟨by omega, by omega⟩
        have v4 : IntKind.i64.wrap ((20 * b + 8) / 16) = (20 * b + 8) / 16 := IntWalk.i64_in _ (by omega)
        have v4' : wrap64 ((20 * b + 8) / 16) = (20 * b + 8) / 16 := IntWalk.wrap64_in _ ⟨by omega, by omega⟩
        have t1 : (20 * b + 8).tdiv 16 = (20 * b + 8) / 16 := Int.tdiv_eq_ediv_of_nonneg (by omega)
        rcases hk1 with rfl | rfl | rfl
        · rw [show Ex.hbI b 1 = 2 * b from rfl]
          go_enter Try.func102, Try.ntmps102
          go_wp2_with (go_at_call 118; refine (vk_r _ _).mono ?_; rintro e wn ⟨rfl, rfl⟩)
          go_ret
          exact ⟨rfl, rfl⟩
        · rw [show Ex.hbI b 2 = 2 * b from rfl]
          go_enter Try.func102, Try.ntmps102
          go_wp2_with (go_at_call 118; refine (vk_r _ _).mono ?_; rintro e wn ⟨rfl, rfl⟩)
          go_ret
          exact ⟨rfl, rfl⟩
        · rw [show Ex.hbI b 3 = b + (20 * b + 8) / 16 from rfl]
          go_enter Try.func102, Try.ntmps102
          go_wp2_with (go_at_call 118; refine (vk_r _ _).mono ?_; rintro e wn ⟨rfl, rfl⟩)
          go_ret
          exact ⟨rfl, rfl⟩
def lbV (b k : Int) : Int := if 0 ≤ b ∧ b ≤ 281474976710656 ∧ kB k = true then Ex.lbI b k else 0
set_option maxRecDepth 100000 in
set_option maxHeartbeats 4000000 in
theorem lb_r (b k : Int) (w : World) : Calls Try.prog 101 #[.int .i64 b, .int .i64 k] w fun e w' => e = .returned (.int .i64 (lbV b k)) ∧ w = w' := by
  by_cases h1 : b < 0
  · have e0 : lbV b k = 0 := if_neg (by omega)
    rw [e0]
    clear e0
    go_enter Try.func101, Try.ntmps101
    go_wp2_with (first | (go_at_call 118; refine (vk_r _ _).mono ?_; rintro e wn ⟨rfl, rfl⟩) | (go_at_call 102; refine (hb_r _ _ _).mono ?_; rintro e wn ⟨rfl, rfl⟩))
    go_ret
    exact ⟨rfl, rfl⟩
  · by_cases h2 : 281474976710656 < b
    · have e0 : lbV b k = 0 := if_neg (by omega)
      rw [e0]
      clear e0
      go_enter Try.func101, Try.ntmps101
      go_wp2_with (first | (go_at_call 118; refine (vk_r _ _).mono ?_; rintro e wn ⟨rfl, rfl⟩) | (go_at_call 102; refine (hb_r _ _ _).mono ?_; rintro e wn ⟨rfl, rfl⟩))
      go_ret
      exact ⟨rfl, rfl⟩
    · cases hk : kB k with
      | false =>
        have e0 : lbV b k = 0 := if_neg (by rw [hk]; simp)
        rw [e0]
        clear e0
        go_enter Try.func101, Try.ntmps101
        go_wp2_with (first | (go_at_call 118; refine (vk_r _ _).mono ?_; rintro e wn ⟨rfl, rfl⟩) | (go_at_call 102; refine (hb_r _ _ _).mono ?_; rintro e wn ⟨rfl, rfl⟩))
        go_ret
        exact ⟨rfl, rfl⟩
      | true =>
        have e0 : lbV b k = Ex.lbI b k := if_pos ⟨by omega, by omega, hk⟩
        rw [e0]
        clear e0
        have hk1 := k_iff.1 hk
        have hH : hbV b k = Ex.hbI b k := if_pos ⟨by omega, by omega, hk⟩
        obtain ⟨b1, b2, b3, b4⟩ := hb_bd hk1 (show 0 ≤ b by omega)
        have hl : Ex.lbI b k = if k = 1 then 2 * b else b + (2 * Ex.hbI b k + 2) / 4 := rfl
        rw [hl]
        generalize Ex.hbI b k = H at *
        clear hl b3 b4
        have v0 : IntKind.i64.wrap (2 * b) = 2 * b := IntWalk.i64_in _ (by omega)
        have v0' : wrap64 (2 * b) = 2 * b := IntWalk.wrap64_in _ ⟨by omega, by omega⟩
        have v1 : IntKind.i64.wrap (2 * H) = 2 * H := IntWalk.i64_in _ (by omega)
        have v1' : wrap64 (2 * H) = 2 * H := IntWalk.wrap64_in _ ⟨by omega, by omega⟩
        have v2 : IntKind.i64.wrap (2 * H + 2) = 2 * H + 2 := IntWalk.i64_in _ (by omega)
        have v2' : wrap64 (2 * H + 2) = 2 * H + 2 := IntWalk.wrap64_in _ ⟨by omega, by omega⟩
        have v3 : IntKind.i64.wrap (b + (2 * H + 2) / 4) = b + (2 * H + 2) / 4 := IntWalk.i64_in _ (by omega)
        have v3' : wrap64 (b + (2 * H + 2) / 4) = b + (2 * H + 2) / 4 := IntWalk.wrap64_in _ ⟨by omega, by omega⟩
        have v4 : IntKind.i64.wrap ((2 * H + 2) / 4) = (2 * H + 2) / 4 := IntWalk.i64_in _ (by omega)
        have v4' : wrap64 ((2 * H + 2) / 4) = (2 * H + 2) / 4 := IntWalk.wrap64_in _ ⟨by omega, by omega⟩
        have t1 : (2 * H + 2).tdiv 4 = (2 * H + 2) / 4 := Int.tdiv_eq_ediv_of_nonneg (by omega)
        rcases hk1 with rfl | rfl | rfl
        · rw [if_pos rfl]
          go_enter Try.func101, Try.ntmps101
          go_wp2_with (first | (go_at_call 118; refine (vk_r _ _).mono ?_; rintro e wn ⟨rfl, rfl⟩) | (go_at_call 102; refine (hb_r _ _ _).mono ?_; rintro e wn ⟨rfl, rfl⟩))
          go_ret
          exact ⟨rfl, rfl⟩
        · rw [if_neg (by decide)]
          go_enter Try.func101, Try.ntmps101
          go_wp2_with (first | (go_at_call 118; refine (vk_r _ _).mono ?_; rintro e wn ⟨rfl, rfl⟩) | (go_at_call 102; refine (hb_r _ _ _).mono ?_; rintro e wn ⟨rfl, rfl⟩))
          go_ret
          exact ⟨rfl, rfl⟩
        · rw [if_neg (by decide)]
          go_enter Try.func101, Try.ntmps101
          go_wp2_with (first | (go_at_call 118; refine (vk_r _ _).mono ?_; rintro e wn ⟨rfl, rfl⟩) | (go_at_call 102; refine (hb_r _ _ _).mono ?_; rintro e wn ⟨rfl, rfl⟩))
          go_ret
          exact ⟨rfl, rfl⟩
end Go.Proofs.Ytnfnidgabgdphaa
