/-
  slices.Equal and slices.Clone at components, points and integers: contracts.
-/
import Derived.Test.YtkcjbehfhcmiaaaHh
import Derived.Test.YtkcjbehfhcmiaaaJg
import Derived.Test.YtkcjbehfhcmiaaaHz2
import Derived.Lib.SliceRun
import Derived.Deep.Draws
set_option maxRecDepth 100000
namespace Go.Proofs.Ytkcjbehfhcmiaaa
open Go.RowKit

theorem eqPt' (a b : Hp.Pt) (w : World) : (Op.equalIn 10000 41 (.agg #[.int .i64 a.x, .int .i64 a.y]) (.agg #[.int .i64 b.x, .int .i64 b.y])).run Try.prog w = .ok (decide (a = b)) w := by
  rw [eqPt]
  obtain ⟨a1, a2⟩ := a
  obtain ⟨b1, b2⟩ := b
  simp [eqP]
theorem eqCm' (a b : Hp.Cm) (w : World) : (Op.equalIn 10000 56 (.agg #[.int .i64 a.depth, .bool a.sg, .int .i64 a.dx, .int .i64 a.dy]) (.agg #[.int .i64 b.depth, .bool b.sg, .int .i64 b.dx, .int .i64 b.dy])).run Try.prog w = .ok (decide (a = b)) w := eqCm a b w
theorem infoCm : (Try.prog.info? 56).map (fun i => (i.zero, i.size, i.bytes)) = some (some (.agg #[.int .i64 0, .bool false, .int .i64 0, .int .i64 0]), 4, 32) := by kernel_rfl
theorem infoPt : (Try.prog.info? 41).map (fun i => (i.zero, i.size, i.bytes)) = some (some (.agg #[.int .i64 0, .int .i64 0]), 2, 16) := by kernel_rfl
/-- What Clone gives. -/
def GivesCl {α : Type} (f : α → List Value) (T : TypeId) (l : List α) (w : World) (e : Ending) (w' : World) : Prop :=
  ∃ s m, e = .returned (.slice s l.length m) ∧ (l.length ≤ m ∧ (s = none → l.length = 0 ∧ m = 0)) ∧ OwnG f T w' w.heap.size s l ∧ Below w.heap.size w w'
theorem list_ne {α : Type} [DecidableEq α] {l m : List α} {k : Nat} (h1 : k < l.length) (h2 : k < m.length) (h : l[k] ≠ m[k]) : decide (l = m) = false := by
  rw [decide_eq_false_iff_not]
  intro e; subst e; exact h rfl
theorem list_len {α : Type} [DecidableEq α] {l m : List α} (h : l.length ≠ m.length) : decide (l = m) = false := by
  rw [decide_eq_false_iff_not]
  intro e; subst e; exact h rfl
theorem list_all {α : Type} [DecidableEq α] {l m : List α} (hl : l.length = m.length) (h : ∀ k (h1 : k < l.length) (h2 : k < m.length), l[k] = m[k]) : decide (l = m) = true := by
  rw [decide_eq_true_eq]
  exact List.ext_getElem hl h
set_option maxHeartbeats 2000000 in
theorem equalC_c (a1 a2 : Option Addr) (c1 c2 : Nat) (l m : List Hp.Cm) (w : World) (hl : l.length ≤ 4398046511104) (hm : m.length ≤ 4398046511104) (h1 : HoldsC w a1 l) (h2 : HoldsC w a2 m) :
    Calls Try.prog 93 #[.slice a1 l.length c1, .slice a2 m.length c2] w fun e w' => e = .returned (.bool (decide (l = m))) ∧ ∃ n, w' = w.drewN n := by
  have heq := eqCm'
  by_cases hlen : l.length = m.length
  · have HL : Hid _ := hlen
    have hlen1 : l.length ≤ m.length := by omega
    have hlen2 : m.length ≤ l.length := by omega
    have hd : (((l.length : Int)) == (m.length : Int)) = true := by simp [hlen]
    have hd' : (((l.length : Int)) != (m.length : Int)) = false := by simp [hlen]
    have hd2 : decide ((l.length : Int) = (m.length : Int)) = true := by simp [hlen]
    clear hlen
    go_enter Try.func93, Try.ntmps93
    go_wp2_with fail
    clear hd hd' hd2
    go_loopw [13] (fun i wr => ∃ k : Nat, k ≤ l.length ∧ i = .int .i64 k ∧ Hid (∀ j (h1 : j < l.length) (h2 : j < m.length), j < k → l[j] = m[j]) ∧ ∃ nn, wr = w.drewN nn) (fun i _ => l.length - (intOf i).toNat)
    case atStart => exact ⟨0, by omega, rfl, Lib.hid (fun j _ _ hj => absurd hj (Nat.not_lt_zero _)), 0, rfl⟩
    case round =>
      obtain ⟨k, hk, rfl, HA, nn, rfl⟩ := hrel
      by_cases hlt : k < l.length
      · have hlt2 : k < m.length := by omega
        rcases h1 with rfl | ⟨b, off, rfl, hr⟩
        · simp at hlt
        rcases h2 with rfl | ⟨b', off', rfl, hr'⟩
        · simp at hlt2
        obtain ⟨c0, c1, c2, c3⟩ := hr k hlt
        obtain ⟨d0, d1, d2, d3⟩ := hr' k hlt2
        clear hr hr'
        have hi : (k : Int) < (l.length : Int) := by omega
        have hi2 : (k : Int) < (m.length : Int) := by omega
        have HN := Lib.hid (show l[k] ≠ m[k] → decide (l = m) = false from list_ne hlt hlt2)
        have HY := Lib.hid (show l[k] = m[k] → ∀ j (h1 : j < l.length) (h2 : j < m.length), j < k + 1 → l[j] = m[j] from fun he j h1 h2 hj => if hjk : j = k then by subst hjk; exact he else HA.out j h1 h2 (by omega))
        generalize l[k] = U at *
        generalize m[k] = V at *
        by_cases he : U = V
        · have HZ := Lib.hid (HY.out he)
          have g1 : (decide (U = V)) = true := by simp [he]
          have g2 : (U != V) = false := by simp [he]
          have g3 : (U == V) = true := by simp [he]
          clear HN HY HA he
          go_wp2_with fail
          go_quiet (fail)
          go_wp2_with fail
          go_roundw
          case rel => exact ⟨k + 1, by omega, by go_num, HZ, _, by first | rfl | (simp only [World.drewN_drewN]; rfl)⟩
          case measure => simp [intOf]; omega
        · have g1 : (decide (U = V)) = false := by simp [he]
          have g2 : (U != V) = true := by simp [he]
          have g3 : (U == V) = false := by simp [he]
          have hf := HN.out he
          clear HN HY HA he
          go_wp2_with fail
          go_quiet (fail)
          go_wp2_with fail
          go_ret
          exact ⟨by rw [hf]; rfl, nn + nq, by simp⟩
      · have hf := list_all HL.out (fun j h1 h2 => HA.out j h1 h2 (by omega))
        go_wp2_with fail
        go_ret
        exact ⟨by rw [hf]; rfl, _, rfl⟩
  · have hd : (((l.length : Int)) == (m.length : Int)) = false := by simp; omega
    have hd' : (((l.length : Int)) != (m.length : Int)) = true := by simp; omega
    have hd2 : decide ((l.length : Int) = (m.length : Int)) = false := by simp; omega
    have hf := list_len hlen
    clear hlen
    go_enter Try.func93, Try.ntmps93
    go_wp2_with fail
    go_ret
    exact ⟨by rw [hf]; rfl, 0, rfl⟩
set_option maxHeartbeats 2000000 in
theorem cloneC_c (s : Option Addr) (m : Nat) (l : List Hp.Cm) (w : World) (hl : l.length ≤ 1048576) (hH : HoldsC w s l) (hs : s = none → l.length = 0 ∧ m = 0) :
    Calls Try.prog 51 #[.slice s l.length m] w (GivesCl cmV 56 l w) := by
  obtain ⟨i0, hi, hz0, hz1, hz2⟩ := info_parts infoCm
  have hnil := fun (W : World) (a : Option Addr) (n c : Nat) => Lib.run_eql_slice_nil (P := Try.prog) W 24 56 a n c 0 0 Try.underlying24
  cases s with
  | none =>
    obtain ⟨h0, h1⟩ := hs rfl
    obtain rfl := List.length_eq_zero_iff.1 h0
    subst h1
    go_enter Try.func51, Try.ntmps51
    go_wp2
    go_ret
    exact ⟨none, 0, rfl, ⟨Nat.le_refl _, fun _ => ⟨rfl, rfl⟩⟩, .inl rfl, Below.refl _ _⟩
  | some p =>
    have hnews : ∀ (X : Obj) j u, (l.flatMap cmV)[j]? = some u → (w.alloc X).cell? (p.add j) = some u := by
      intro X j u hj
      rcases gC.1 hH with q | ⟨b, off, e, hr⟩
      · subst q; simp at hj
      · injection e with e
        subst e
        have := hr j u hj
        rw [show ((⟨b, off, none⟩ : Addr).add j) = ⟨b, off + j, none⟩ from Go.WideShapes.add_plain _ _ _]
        exact cell_alloc this X
    have HN := Lib.hid hnews
    have hfl := flat_len cmV_len l
    have HFL := Lib.hid hfl
    clear hfl hnews
    go_enter Try.func51, Try.ntmps51
    go_wp2_with (first | (at_builtin; refine wpList_append_own _ rfl _ _ 24 rfl w.heap.size 56 i0 _ 4 32 Try.underlying24 hi hz0 hz1 hz2 rfl (by decide) _ 0 [] rfl (World.ownsRow_made w #[] 0 (Nat.le_refl _) (by decide) (by simp)) p l.length m (l.flatMap cmV) rfl HFL.out (HN.out _) (flat_one cmV_one l) (by unfold maxLen; omega) (by omega) (by simp) ?_))
    intro v' w' hown hgrow _
    have B1 : Below w.heap.size w w' := (((Below.refl _ w).alloc (Nat.le_refl _) _).grown hgrow (by simp) (fun k hk => by simp [Value.ownBlock] at hk; omega))
    obtain ⟨s', m', rfl, hm', hres⟩ := own_ownG cmV_len hown (by omega)
    have HR := Lib.hid (And.intro hm' (And.intro hres B1))
    clear hown hgrow HN hres hm' B1 HFL
    go_wp2
    go_ret
    exact ⟨s', m', rfl, HR.out⟩
set_option maxHeartbeats 2000000 in
theorem equalP_c (a1 a2 : Option Addr) (c1 c2 : Nat) (l m : List Hp.Pt) (w : World) (hl : l.length ≤ 4398046511104) (hm : m.length ≤ 4398046511104) (h1 : HoldsP w a1 l) (h2 : HoldsP w a2 m) :
    Calls Try.prog 94 #[.slice a1 l.length c1, .slice a2 m.length c2] w fun e w' => e = .returned (.bool (decide (l = m))) ∧ ∃ n, w' = w.drewN n := by
  have heq := eqPt'
  by_cases hlen : l.length = m.length
  · have HL : Hid _ := hlen
    have hlen1 : l.length ≤ m.length := by omega
    have hlen2 : m.length ≤ l.length := by omega
    have hd : (((l.length : Int)) == (m.length : Int)) = true := by simp [hlen]
    have hd' : (((l.length : Int)) != (m.length : Int)) = false := by simp [hlen]
    have hd2 : decide ((l.length : Int) = (m.length : Int)) = true := by simp [hlen]
    clear hlen
    go_enter Try.func94, Try.ntmps94
    go_wp2_with fail
    clear hd hd' hd2
    go_loopw [13] (fun i wr => ∃ k : Nat, k ≤ l.length ∧ i = .int .i64 k ∧ Hid (∀ j (h1 : j < l.length) (h2 : j < m.length), j < k → l[j] = m[j]) ∧ ∃ nn, wr = w.drewN nn) (fun i _ => l.length - (intOf i).toNat)
    case atStart => exact ⟨0, by omega, rfl, Lib.hid (fun j _ _ hj => absurd hj (Nat.not_lt_zero _)), 0, rfl⟩
    case round =>
      obtain ⟨k, hk, rfl, HA, nn, rfl⟩ := hrel
      by_cases hlt : k < l.length
      · have hlt2 : k < m.length := by omega
        rcases h1 with rfl | ⟨b, off, rfl, hr⟩
        · simp at hlt
        rcases h2 with rfl | ⟨b', off', rfl, hr'⟩
        · simp at hlt2
        obtain ⟨c0, c1⟩ := hr k hlt
        obtain ⟨d0, d1⟩ := hr' k hlt2
        clear hr hr'
        have hi : (k : Int) < (l.length : Int) := by omega
        have hi2 : (k : Int) < (m.length : Int) := by omega
        have HN := Lib.hid (show l[k] ≠ m[k] → decide (l = m) = false from list_ne hlt hlt2)
        have HY := Lib.hid (show l[k] = m[k] → ∀ j (h1 : j < l.length) (h2 : j < m.length), j < k + 1 → l[j] = m[j] from fun he j h1 h2 hj => if hjk : j = k then by subst hjk; exact he else HA.out j h1 h2 (by omega))
        generalize l[k] = U at *
        generalize m[k] = V at *
        by_cases he : U = V
        · have HZ := Lib.hid (HY.out he)
          have g1 : (decide (U = V)) = true := by simp [he]
          have g2 : (U != V) = false := by simp [he]
          have g3 : (U == V) = true := by simp [he]
          clear HN HY HA he
          go_wp2_with fail
          go_quiet (fail)
          go_wp2_with fail
          go_roundw
          case rel => exact ⟨k + 1, by omega, by go_num, HZ, _, by first | rfl | (simp only [World.drewN_drewN]; rfl)⟩
          case measure => simp [intOf]; omega
        · have g1 : (decide (U = V)) = false := by simp [he]
          have g2 : (U != V) = true := by simp [he]
          have g3 : (U == V) = false := by simp [he]
          have hf := HN.out he
          clear HN HY HA he
          go_wp2_with fail
          go_quiet (fail)
          go_wp2_with fail
          go_ret
          exact ⟨by rw [hf]; rfl, nn + nq, by simp⟩
      · have hf := list_all HL.out (fun j h1 h2 => HA.out j h1 h2 (by omega))
        go_wp2_with fail
        go_ret
        exact ⟨by rw [hf]; rfl, _, rfl⟩
  · have hd : (((l.length : Int)) == (m.length : Int)) = false := by simp; omega
    have hd' : (((l.length : Int)) != (m.length : Int)) = true := by simp; omega
    have hd2 : decide ((l.length : Int) = (m.length : Int)) = false := by simp; omega
    have hf := list_len hlen
    clear hlen
    go_enter Try.func94, Try.ntmps94
    go_wp2_with fail
    go_ret
    exact ⟨by rw [hf]; rfl, 0, rfl⟩
set_option maxHeartbeats 2000000 in
theorem cloneP_c (s : Option Addr) (m : Nat) (l : List Hp.Pt) (w : World) (hl : l.length ≤ 1048576) (hH : HoldsP w s l) (hs : s = none → l.length = 0 ∧ m = 0) :
    Calls Try.prog 52 #[.slice s l.length m] w (GivesCl ptV 41 l w) := by
  obtain ⟨i0, hi, hz0, hz1, hz2⟩ := info_parts infoPt
  have hnil := fun (W : World) (a : Option Addr) (n c : Nat) => Lib.run_eql_slice_nil (P := Try.prog) W 29 41 a n c 0 0 Try.underlying29
  cases s with
  | none =>
    obtain ⟨h0, h1⟩ := hs rfl
    obtain rfl := List.length_eq_zero_iff.1 h0
    subst h1
    go_enter Try.func52, Try.ntmps52
    go_wp2
    go_ret
    exact ⟨none, 0, rfl, ⟨Nat.le_refl _, fun _ => ⟨rfl, rfl⟩⟩, .inl rfl, Below.refl _ _⟩
  | some p =>
    have hnews : ∀ (X : Obj) j u, (l.flatMap ptV)[j]? = some u → (w.alloc X).cell? (p.add j) = some u := by
      intro X j u hj
      rcases gP.1 hH with q | ⟨b, off, e, hr⟩
      · subst q; simp at hj
      · injection e with e
        subst e
        have := hr j u hj
        rw [show ((⟨b, off, none⟩ : Addr).add j) = ⟨b, off + j, none⟩ from Go.WideShapes.add_plain _ _ _]
        exact cell_alloc this X
    have HN := Lib.hid hnews
    have hfl := flat_len ptV_len l
    have HFL := Lib.hid hfl
    clear hfl hnews
    go_enter Try.func52, Try.ntmps52
    go_wp2_with (first | (at_builtin; refine wpList_append_own _ rfl _ _ 29 rfl w.heap.size 41 i0 _ 2 16 Try.underlying29 hi hz0 hz1 hz2 rfl (by decide) _ 0 [] rfl (World.ownsRow_made w #[] 0 (Nat.le_refl _) (by decide) (by simp)) p l.length m (l.flatMap ptV) rfl HFL.out (HN.out _) (flat_one ptV_one l) (by unfold maxLen; omega) (by omega) (by simp) ?_))
    intro v' w' hown hgrow _
    have B1 : Below w.heap.size w w' := (((Below.refl _ w).alloc (Nat.le_refl _) _).grown hgrow (by simp) (fun k hk => by simp [Value.ownBlock] at hk; omega))
    obtain ⟨s', m', rfl, hm', hres⟩ := own_ownG ptV_len hown (by omega)
    have HR := Lib.hid (And.intro hm' (And.intro hres B1))
    clear hown hgrow HN hres hm' B1 HFL
    go_wp2
    go_ret
    exact ⟨s', m', rfl, HR.out⟩
set_option maxHeartbeats 2000000 in
theorem equalI_c (a1 a2 : Option Addr) (c1 c2 : Nat) (l m : List Int) (w : World) (hl : l.length ≤ 4398046511104) (hm : m.length ≤ 4398046511104) (h1 : HoldsI w a1 l) (h2 : HoldsI w a2 m) :
    Calls Try.prog 95 #[.slice a1 l.length c1, .slice a2 m.length c2] w fun e w' => e = .returned (.bool (decide (l = m))) ∧ ∃ n, w' = w.drewN n := by
  by_cases hlen : l.length = m.length
  · have HL : Hid _ := hlen
    have hlen1 : l.length ≤ m.length := by omega
    have hlen2 : m.length ≤ l.length := by omega
    have hd : (((l.length : Int)) == (m.length : Int)) = true := by simp [hlen]
    have hd' : (((l.length : Int)) != (m.length : Int)) = false := by simp [hlen]
    have hd2 : decide ((l.length : Int) = (m.length : Int)) = true := by simp [hlen]
    clear hlen
    go_enter Try.func95, Try.ntmps95
    go_wp2_with fail
    clear hd hd' hd2
    go_loopw [13] (fun i wr => ∃ k : Nat, k ≤ l.length ∧ i = .int .i64 k ∧ Hid (∀ j (h1 : j < l.length) (h2 : j < m.length), j < k → l[j] = m[j]) ∧ ∃ nn, wr = w.drewN nn) (fun i _ => l.length - (intOf i).toNat)
    case atStart => exact ⟨0, by omega, rfl, Lib.hid (fun j _ _ hj => absurd hj (Nat.not_lt_zero _)), 0, rfl⟩
    case round =>
      obtain ⟨k, hk, rfl, HA, nn, rfl⟩ := hrel
      by_cases hlt : k < l.length
      · have hlt2 : k < m.length := by omega
        rcases h1 with rfl | ⟨b, off, rfl, hr⟩
        · simp at hlt
        rcases h2 with rfl | ⟨b', off', rfl, hr'⟩
        · simp at hlt2
        have e0 := hr k hlt
        have f0 := hr' k hlt2
        clear hr hr'
        have hi : (k : Int) < (l.length : Int) := by omega
        have hi2 : (k : Int) < (m.length : Int) := by omega
        have HN := Lib.hid (show l[k] ≠ m[k] → decide (l = m) = false from list_ne hlt hlt2)
        have HY := Lib.hid (show l[k] = m[k] → ∀ j (h1 : j < l.length) (h2 : j < m.length), j < k + 1 → l[j] = m[j] from fun he j h1 h2 hj => if hjk : j = k then by subst hjk; exact he else HA.out j h1 h2 (by omega))
        generalize l[k] = U at *
        generalize m[k] = V at *
        by_cases he : U = V
        · have HZ := Lib.hid (HY.out he)
          have g1 : (decide (U = V)) = true := by simp [he]
          have g2 : (U != V) = false := by simp [he]
          have g3 : (U == V) = true := by simp [he]
          clear HN HY HA he
          go_wp2_with fail
          go_quiet (fail)
          go_wp2_with fail
          go_roundw
          case rel => exact ⟨k + 1, by omega, by go_num, HZ, _, by first | rfl | (simp only [World.drewN_drewN]; rfl)⟩
          case measure => simp [intOf]; omega
        · have g1 : (decide (U = V)) = false := by simp [he]
          have g2 : (U != V) = true := by simp [he]
          have g3 : (U == V) = false := by simp [he]
          have hf := HN.out he
          clear HN HY HA he
          go_wp2_with fail
          go_quiet (fail)
          go_wp2_with fail
          go_ret
          exact ⟨by rw [hf]; rfl, nn + nq, by simp⟩
      · have hf := list_all HL.out (fun j h1 h2 => HA.out j h1 h2 (by omega))
        go_wp2_with fail
        go_ret
        exact ⟨by rw [hf]; rfl, _, rfl⟩
  · have hd : (((l.length : Int)) == (m.length : Int)) = false := by simp; omega
    have hd' : (((l.length : Int)) != (m.length : Int)) = true := by simp; omega
    have hd2 : decide ((l.length : Int) = (m.length : Int)) = false := by simp; omega
    have hf := list_len hlen
    clear hlen
    go_enter Try.func95, Try.ntmps95
    go_wp2_with fail
    go_ret
    exact ⟨by rw [hf]; rfl, 0, rfl⟩
set_option maxHeartbeats 2000000 in
theorem cloneI_c (s : Option Addr) (m : Nat) (l : List Int) (w : World) (hl : l.length ≤ 1048576) (hH : HoldsI w s l) (hs : s = none → l.length = 0 ∧ m = 0) :
    Calls Try.prog 53 #[.slice s l.length m] w (GivesCl inV 3 l w) := by
  obtain ⟨i0, hi, hz0, hz1, hz2⟩ := info_parts infoI
  have hnil := fun (W : World) (a : Option Addr) (n c : Nat) => Lib.run_eql_slice_nil (P := Try.prog) W 33 3 a n c 0 0 Try.underlying33
  cases s with
  | none =>
    obtain ⟨h0, h1⟩ := hs rfl
    obtain rfl := List.length_eq_zero_iff.1 h0
    subst h1
    go_enter Try.func53, Try.ntmps53
    go_wp2
    go_ret
    exact ⟨none, 0, rfl, ⟨Nat.le_refl _, fun _ => ⟨rfl, rfl⟩⟩, .inl rfl, Below.refl _ _⟩
  | some p =>
    have hnews : ∀ (X : Obj) j u, (l.flatMap inV)[j]? = some u → (w.alloc X).cell? (p.add j) = some u := by
      intro X j u hj
      rcases gI.1 hH with q | ⟨b, off, e, hr⟩
      · subst q; simp at hj
      · injection e with e
        subst e
        have := hr j u hj
        rw [show ((⟨b, off, none⟩ : Addr).add j) = ⟨b, off + j, none⟩ from Go.WideShapes.add_plain _ _ _]
        exact cell_alloc this X
    have HN := Lib.hid hnews
    have hfl := flat_len inV_len l
    have HFL := Lib.hid hfl
    clear hfl hnews
    go_enter Try.func53, Try.ntmps53
    go_wp2_with (first | (at_builtin; refine wpList_append_own _ rfl _ _ 33 rfl w.heap.size 3 i0 _ 1 8 Try.underlying33 hi hz0 hz1 hz2 rfl (by decide) _ 0 [] rfl (World.ownsRow_made w #[] 0 (Nat.le_refl _) (by decide) (by simp)) p l.length m (l.flatMap inV) rfl HFL.out (HN.out _) (flat_one inV_one l) (by unfold maxLen; omega) (by omega) (by simp) ?_))
    intro v' w' hown hgrow _
    have B1 : Below w.heap.size w w' := (((Below.refl _ w).alloc (Nat.le_refl _) _).grown hgrow (by simp) (fun k hk => by simp [Value.ownBlock] at hk; omega))
    obtain ⟨s', m', rfl, hm', hres⟩ := own_ownG inV_len hown (by omega)
    have HR := Lib.hid (And.intro hm' (And.intro hres B1))
    clear hown hgrow HN hres hm' B1 HFL
    go_wp2
    go_ret
    exact ⟨s', m', rfl, HR.out⟩
end Go.Proofs.Ytkcjbehfhcmiaaa
