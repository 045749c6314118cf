/-
  What each call of Forward, Inverse, Margin, HighBound and LowBound of the reference of layer 4 returns and leaves.
-/
import Derived.Test.YtnfnidgabgdphaaLiftR
set_option maxRecDepth 100000
namespace Go.Proofs.Ytnfnidgabgdphaa
open Go.RowKit

theorem RowP.at {w : World} {g : Nat} {l : List Int} {pad : List Value} (h : RowP w g l pad) {k : Nat} (hk : k < l.length) : w.cell? ⟨g, k, none⟩ = some (.int .i64 l[k]) := by
  have := holdsI_at h.holds hk
  rwa [Nat.zero_add] at this
theorem RowP.free {w : World} {g : Nat} {l : List Int} {pad : List Value} (h : RowP w g l pad) (j : Nat) : w.frozen? ⟨g, j, none⟩ = false := by
  unfold RowP at h
  simp [World.frozen?, h]
theorem RowP.set {w : World} {g : Nat} {l : List Int} {pad : List Value} (h : RowP w g l pad) (k : Nat) (hk : k < l.length) (v : Int) : RowP (w.setCell ⟨g, k, none⟩ (.int .i64 v)) g (l.set k v) pad := by
  unfold RowP at *
  simp only [World.setCell, Array.getElem?_modify, if_true, h, Option.map_some]
  simp [List.map_set, List.set_append_left, hk]
/-- A row of the call's own that is written in place. -/
structure Yr (w W : World) (g : Nat) (y : List Int) : Prop where
  below : Below w.heap.size w W
  row : ∃ pad, RowP W g y pad
  hg : w.heap.size ≤ g
theorem Yr.of {w W : World} {v : Value} {l : List Int} (h : Gl w v l W) (hne : 0 < l.length) : ∃ g m, v = .slice (some ⟨g, 0, none⟩) l.length m ∧ l.length ≤ m ∧ Yr w W g l := by
  obtain ⟨_, (⟨rfl, rfl⟩ | ⟨g, m', pad, rfl, hb, hr, hm⟩)⟩ := rowP_own h.own
  · simp at hne
  · exact ⟨g, m', rfl, hm, h.below, ⟨pad, hr⟩, hb⟩
theorem Yr.at {w W : World} {g : Nat} {y : List Int} (h : Yr w W g y) {k : Nat} (hk : k < y.length) : W.cell? ⟨g, k, none⟩ = some (.int .i64 y[k]) := h.row.elim fun _ r => r.at hk
theorem Yr.free {w W : World} {g : Nat} {y : List Int} (h : Yr w W g y) (j : Nat) : W.frozen? ⟨g, j, none⟩ = false := h.row.elim fun _ r => r.free j
theorem Yr.set {w W : World} {g : Nat} {y : List Int} (h : Yr w W g y) {k : Nat} (hk : k < y.length) (v : Int) : Yr w (W.setCell ⟨g, k, none⟩ (.int .i64 v)) g (y.set k v) :=
  ⟨h.below.setCell h.hg _, h.row.elim fun p r => ⟨p, r.set k hk v⟩, h.hg⟩
theorem Yr.drew {w W : World} {g : Nat} {y : List Int} (h : Yr w W g y) : Yr w W.drew g y := ⟨h.below.drew, h.row, h.hg⟩
theorem Yr.holds {w W : World} {g : Nat} {y : List Int} (h : Yr w W g y) : HoldsI W (some ⟨g, 0, none⟩) y := h.row.elim fun _ r => r.holds
theorem Yr.lt {w W : World} {g : Nat} {y : List Int} (h : Yr w W g y) : g < W.heap.size := h.row.elim fun _ r => r.lt
theorem Yr.step {w W W1 : World} {g : Nat} {y : List Int} (h : Yr w W g y) (hb : Below W.heap.size W W1) : Yr w W1 g y := ⟨below_call h.below hb, h.row.elim fun p r => ⟨p, r.below hb⟩, h.hg⟩
/-- The first of one list, the rest of another. -/
def mixT (A B : List Int) (k : Nat) : List Int := A.take k ++ B.drop k
theorem mix_len {A B : List Int} {k : Nat} (hl : A.length = B.length) : (mixT A B k).length = B.length := by simp [mixT]; omega
theorem mix_zero (A B : List Int) : mixT A B 0 = B := by simp [mixT]
theorem mix_all {A B : List Int} (hl : A.length = B.length) : mixT A B B.length = A := by simp [mixT, ← hl]
theorem mix_at {A B : List Int} {k : Nat} (hl : A.length = B.length) (hk : k < B.length) : (mixT A B k)[k]'(by rw [mix_len hl]; exact hk) = B[k] := by
  have e : (A.take k).length = k := by simp; omega
  simp only [mixT]
  rw [List.getElem_append_right (by omega)]
  simp [e]
theorem mix_next {A B : List Int} {k : Nat} (hl : A.length = B.length) (hk : k < B.length) : (mixT A B k).set k (A[k]'(by omega)) = mixT A B (k + 1) := by
  have e : (A.take k).length = k := by simp; omega
  simp only [mixT]
  rw [List.set_append_right _ _ (by omega), e, Nat.sub_self, List.take_succ_eq_append_getElem (by omega), List.append_assoc]
  congr 1
  rw [List.drop_eq_getElem_cons hk, List.set_cons_zero]
  rfl
theorem mix_same {A B : List Int} {k : Nat} (hl : A.length = B.length) (hk : k < B.length) (h : A[k]'(by omega) = B[k]) : mixT A B k = mixT A B (k + 1) := by
  rw [← mix_next hl hk]
  refine List.ext_getElem (by simp) fun j h1 h2 => ?_
  rw [List.getElem_set]
  split
  · subst_vars
    rw [mix_at hl hk, h]
  · rfl
def fwB (l : List Int) (st : Int) : Bool := decide (0 ≤ st ∧ st ≤ 4096 ∧ l.length ≤ 4096) && fewB l 281474976710656
theorem fw_iff {l : List Int} {st : Int} : fwB l st = true ↔ (0 ≤ st ∧ st ≤ 4096 ∧ l.length ≤ 4096) ∧ Ex.within 281474976710656 l := by simp [fwB, few_iff]
set_option maxHeartbeats 1000000 in
theorem fwd_no1 (l : List Int) (st kn : Int) (s : Option Addr) (m : Nat) (w : World) (hk : kB kn = false) : Calls Try.prog 75 #[.slice s l.length m, .int .i64 st, .int .i64 kn] w (GivesSplit [] [] 3 w) := by
  go_enter Try.func75, Try.ntmps75
  go_wp2_with (go_at_call 118; refine (vk_r _ _).mono ?_; rintro e wn ⟨rfl, rfl⟩)
  go_ret3
  exact ⟨none, 0, none, 0, rfl, .inl rfl, .inl rfl, Below.refl _ _, ⟨Nat.le_refl _, fun _ => rfl, fresh_none _⟩, ⟨Nat.le_refl _, fun _ => rfl, fresh_none _⟩⟩
set_option maxHeartbeats 1000000 in
theorem fwd_no2 (l : List Int) (st kn : Int) (s : Option Addr) (m : Nat) (w : World) (hk : kB kn = true) (hh : fwB l st = false) (hl : l.length ≤ 140737488351232) (hH : HoldsI w s l) : Calls Try.prog 75 #[.slice s l.length m, .int .i64 st, .int .i64 kn] w (GivesSplit [] [] 2 w) := by
  by_cases h1 : st < 0
  · go_enter Try.func75, Try.ntmps75
    go_wp2_with (go_at_call 118; refine (vk_r _ _).mono ?_; rintro e wn ⟨rfl, rfl⟩)
    go_ret3
    exact ⟨none, 0, none, 0, rfl, .inl rfl, .inl rfl, Below.refl _ _, ⟨Nat.le_refl _, fun _ => rfl, fresh_none _⟩, ⟨Nat.le_refl _, fun _ => rfl, fresh_none _⟩⟩
  · by_cases h2 : 4096 < st
    · go_enter Try.func75, Try.ntmps75
      go_wp2_with (go_at_call 118; refine (vk_r _ _).mono ?_; rintro e wn ⟨rfl, rfl⟩)
      go_ret3
      exact ⟨none, 0, none, 0, rfl, .inl rfl, .inl rfl, Below.refl _ _, ⟨Nat.le_refl _, fun _ => rfl, fresh_none _⟩, ⟨Nat.le_refl _, fun _ => rfl, fresh_none _⟩⟩
    · by_cases h3 : (4096 : Int) < (l.length : Int)
      · go_enter Try.func75, Try.ntmps75
        go_wp2_with (go_at_call 118; refine (vk_r _ _).mono ?_; rintro e wn ⟨rfl, rfl⟩)
        go_ret3
        exact ⟨none, 0, none, 0, rfl, .inl rfl, .inl rfl, Below.refl _ _, ⟨Nat.le_refl _, fun _ => rfl, fresh_none _⟩, ⟨Nat.le_refl _, fun _ => rfl, fresh_none _⟩⟩
      · have h4 : fewB l 281474976710656 = false := by
          cases hf : fewB l 281474976710656 with
          | false => rfl
          | true => rw [fwB, hf, Bool.and_true, decide_eq_false_iff_not] at hh; exact absurd ⟨by omega, by omega, by omega⟩ hh
        go_enter Try.func75, Try.ntmps75
        go_wp2_with (first | (go_at_call 118; refine (vk_r _ _).mono ?_; rintro e wn ⟨rfl, rfl⟩) | (go_at_call 119; refine (few_r _ _ _ _ _ (by decide) (by decide) hl hH).mono ?_; rintro e wn ⟨rfl, rfl⟩))
        go_ret3
        exact ⟨none, 0, none, 0, rfl, .inl rfl, .inl rfl, Below.refl _ _, ⟨Nat.le_refl _, fun _ => rfl, fresh_none _⟩, ⟨Nat.le_refl _, fun _ => rfl, fresh_none _⟩⟩
theorem within_mono {b c : Int} {x : List Int} (h : Ex.within b x) (hbc : b ≤ c) : Ex.within c x := fun v hv => by have := h v hv; omega
theorem within_at {s b : Int} {x : List Int} (h : ∀ i, s ≤ i → i < s + x.length → -b ≤ Ex.sg s x i ∧ Ex.sg s x i ≤ b) : Ex.within b x := fun v hv => by
  obtain ⟨j, hj, rfl⟩ := List.getElem_of_mem hv
  rw [← Ex.sg_at (s := s) hj]
  exact h _ (by omega) (by omega)
theorem hb_bd {k : Int} (hk : k = 1 ∨ k = 2 ∨ k = 3) {b : Int} (hb : 0 ≤ b) : b ≤ Ex.hbI b k ∧ Ex.hbI b k ≤ 3 * b + 1 ∧ b ≤ Ex.lbI b k ∧ Ex.lbI b k ≤ 4 * b + 2 := by
  unfold Ex.lbI Ex.hbI
  rcases hk with rfl | rfl | rfl <;> simp only [Int.reduceEq, ↓reduceIte] <;> omega
/-- What the first step leaves at a place. -/
theorem st1_get {st kn : Int} {l : List Int} {k : Nat} (hk : k < l.length) : ((st + (k : Int)) % 2 = 0 → (Ex.step1 st l kn)[k]'(by rw [Ex.step1_len]; exact hk) = l[k]) ∧ ((st + (k : Int)) % 2 ≠ 0 → (Ex.step1 st l kn)[k]'(by rw [Ex.step1_len]; exact hk) = l[k] - Ex.predF (Ex.ex st l) (st + k) kn) := by
  have e : (Ex.step1 st l kn)[k]'(by rw [Ex.step1_len]; exact hk) = Ex.step1F st l kn (st + k) := Ex.tb_at (by rw [Ex.tb_len]; exact hk)
  rw [e, Ex.step1F, Ex.sg_at hk]
  exact ⟨fun h => if_pos h, fun h => if_neg h⟩
theorem st2_get {st kn : Int} {l : List Int} {k : Nat} (hk : k < l.length) : ((st + (k : Int)) % 2 = 0 → (Ex.step2 st l kn)[k]'(by rw [Ex.step2_len]; exact hk) = l[k] + Ex.updF (Ex.ex st l) (st + k) kn) ∧ ((st + (k : Int)) % 2 ≠ 0 → (Ex.step2 st l kn)[k]'(by rw [Ex.step2_len]; exact hk) = l[k]) := by
  have e : (Ex.step2 st l kn)[k]'(by rw [Ex.step2_len]; exact hk) = Ex.step2F st l kn (st + k) := Ex.tb_at (by rw [Ex.tb_len]; exact hk)
  rw [e, Ex.step2F, Ex.sg_at hk]
  exact ⟨fun h => if_pos h, fun h => if_neg h⟩
theorem fwd_within {st kn : Int} {l : List Int} (hk : kn = 1 ∨ kn = 2 ∨ kn = 3) (hw : Ex.within 281474976710656 l) (hn : 1 < l.length) : Ex.within 1125899906842624 (Ex.step1 st l kn) ∧ Ex.within 1125899906842626 (Ex.step2 st (Ex.step1 st l kn) kn) := by
  obtain ⟨b1, b2, b3, b4⟩ := hb_bd hk (show (0 : Int) ≤ 281474976710656 by decide)
  refine ⟨within_at (s := st) fun i h0 h1 => ?_, within_at (s := st) fun i h0 h1 => ?_⟩
  · rw [Ex.step1_len] at h1
    obtain ⟨e1, e2⟩ := Ex.step1_bd hk hw h0 h1
    by_cases hp : i % 2 = 0
    · have := e1 hp; omega
    · have := e2 hp; omega
  · rw [Ex.step2_len, Ex.step1_len] at h1
    obtain ⟨e1, e2⟩ := Ex.fwd_bd hk (by decide) hw h0 h1
    rw [Ex.fwdL, if_pos hn] at e1 e2
    by_cases hp : i % 2 = 0
    · have := e1 hp; omega
    · have := e2 hp; omega
theorem split_n (l : List Int) (n : Nat) (hn : n = l.length) (st : Int) (s : Option Addr) (m : Nat) (w : World) (hh : spB st l.length = true) (hH : HoldsI w s l) :
    Calls Try.prog 122 #[.slice s n m, .int .i64 st] w (GivesSplit (Ex.splitE st l) (Ex.splitO st l) 0 w) := by
  subst hn
  exact split_yes l st s m w hh hH
set_option maxRecDepth 100000 in
set_option maxHeartbeats 2000000 in
theorem fwd_yes (l : List Int) (st kn : Int) (s : Option Addr) (m : Nat) (w : World) (hk : kB kn = true) (hh : fwB l st = true) (hs : s = none → l.length = 0 ∧ m = 0) (hH : HoldsI w s l) : Calls Try.prog 75 #[.slice s l.length m, .int .i64 st, .int .i64 kn] w (GivesSplit (Ex.splitE st (Ex.fwdL st l kn)) (Ex.splitO st (Ex.fwdL st l kn)) 0 w) := by
  obtain ⟨⟨h1, h2, h3⟩, hw⟩ := fw_iff.1 hh
  obtain ⟨i0, hi, hz0, hz1, hz2⟩ := info_parts infoI
  have hkk := k_iff.1 hk
  have n1 : ¬ st < 0 := by omega
  have n2 : ¬ 4096 < st := by omega
  have n3 : ¬ (4096 : Int) < (l.length : Int) := by omega
  have hfew := few_iff.2 hw
  by_cases hn : 1 < l.length
  · rcases hH with rfl | ⟨bb, off, rfl, hr⟩
    · simp at hn
    have hH : HoldsI w (some ⟨bb, off, none⟩) l := .inr ⟨bb, off, rfl, hr⟩
    have hni : (1 : Int) < (l.length : Int) := by omega
    have HNw : Hid _ := holdsI_list (hH.alloc (.cells #[] 3))
    go_enter Try.func75, Try.ntmps75
    go_wp2_with (first | (go_at_call 118; refine (vk_r _ _).mono ?_; rintro e wn ⟨rfl, rfl⟩) | (go_at_call 119; refine (few_r _ _ _ _ _ (by decide) (by decide) (by omega) hH).mono ?_; rintro e wn ⟨rfl, rfl⟩) | (at_builtin; refine wpList_append_own _ rfl _ _ 28 rfl w.heap.size 3 i0 (.int .i64 0) 1 8 Try.underlying28 hi hz0 hz1 hz2 rfl (by decide) _ 0 [] rfl (World.ownsRow_made w #[] 0 (Nat.le_refl _) (by decide) (by simp)) ⟨bb, off, none⟩ _ m (l.map (Value.int .i64)) rfl (by simp) HNw.out (oneI _) (by unfold maxLen; omega) (by omega) (by simp) ?_))
    intro v' w0 hown hgrow _
    have GB : Gl w v' l w0 := ⟨(below_alloc (Below.refl _ w) _).grown hgrow (below_alloc (Below.refl _ w) _).size (fun k hk => by simp [Value.ownBlock] at hk; omega), by simpa using hown⟩
    obtain ⟨g, mg, rfl, hmg, Y0⟩ := Yr.of GB (by omega)
    clear hown hgrow GB n1 n2 n3 HNw
    go_wp2_with fail
    obtain ⟨hwY, hwZ⟩ := fwd_within (st := st) hkk hw hn
    have lY : (Ex.step1 st l kn).length = l.length := Ex.step1_len _ _ _
    have lZ : (Ex.step2 st (Ex.step1 st l kn) kn).length = (Ex.step1 st l kn).length := Ex.step2_len _ _ _
    go_loopw [40] (fun i wr => ∃ k : Nat, k ≤ l.length ∧ i = .int .i64 k ∧ Yr w wr g (mixT (Ex.step1 st l kn) l k)) (fun i _ => l.length - (intOf i).toNat)
    case atStart => exact ⟨0, Nat.zero_le _, rfl, by rw [mix_zero]; exact Y0⟩
    case round =>
      obtain ⟨k, hk2, rfl, hY⟩ := hrel
      clear Y0
      by_cases hlt : k < l.length
      · have hki : (k : Int) < (l.length : Int) := by omega
        have w1 : IntKind.i64.wrap (st + (k : Int)) = st + (k : Int) := IntWalk.i64_in _ (by omega)
        have w2 : IntKind.i64.wrap ((k : Int) + 1) = (k : Int) + 1 := IntWalk.i64_in _ (by omega)
        obtain ⟨g1, g2⟩ := st1_get (st := st) (kn := kn) hlt
        have hltY : k < (Ex.step1 st l kn).length := by omega
        by_cases hp : (st + (k : Int)) % 2 = 0
        · have t1 : (st + (k : Int)).tmod 2 = 0 := by rw [Int.tmod_eq_emod_of_nonneg (by omega)]; exact hp
          have HY : Hid (Yr w wr g (mixT (Ex.step1 st l kn) l (k + 1))) := by rw [← mix_same lY hlt (g1 hp)]; exact hY
          clear g1 g2 hY
          go_wp2
          go_roundw
          case rel => exact ⟨k + 1, by omega, by go_num, HY.out⟩
          case measure => simp [intOf]; omega
        · have t1 : (st + (k : Int)).tmod 2 = 1 := by rw [Int.tmod_eq_emod_of_nonneg (by omega)]; omega
          have gx := g2 hp
          have y0 := hY.at (k := k) (by rw [mix_len lY]; exact hlt)
          rw [mix_at lY hlt] at y0
          have z1 := hY.free k
          have hset := hY.drew.set (k := k) (by rw [mix_len lY]; exact hlt) ((Ex.step1 st l kn)[k]'hltY)
          rw [mix_next lY hlt] at hset
          have cP := pred_r l st (st + (k : Int)) kn (some ⟨bb, off, none⟩) m wr.drew hkk h1 h2 (by omega) h3 (by omega) (by omega) (within_mono hw (by decide)) (hH.below hY.below.drew (Nat.le_refl _))
          have hS := hwY _ (List.getElem_mem hltY)
          generalize Ex.predF (Ex.ex st l) (st + (k : Int)) kn = P at *
          generalize (Ex.step1 st l kn)[k]'hltY = S at *
          generalize l[k] = X at *
          have w3 : IntKind.i64.wrap (X - P) = S := by rw [IntWalk.i64_in _ (by omega)]; exact gx.symm
          have HY : Hid _ := hset
          clear g1 g2 gx hset hS hY
          go_wp2_with fail
          go_region_law (first | (go_simp; go_at_call 120; (with_reducible refine cP.mono ?_); rintro e wn ⟨rfl, rfl⟩; go_wp2_with fail))
          all_goals
            go_wp2
            go_roundw
            case rel => exact ⟨k + 1, by omega, by go_num, HY.out⟩
            case measure => simp [intOf]; omega
      · obtain rfl : k = l.length := by omega
        rw [mix_all lY] at hY
        obtain ⟨Y, hYe⟩ : ∃ Y, Y = Ex.step1 st l kn := ⟨_, rfl⟩
        have HE : Hid _ := hYe
        rw [← hYe] at hY lY lZ hwY hwZ
        clear hYe
        have HNz : Hid _ := holdsI_list (hY.holds.alloc (.cells #[] 3))
        have hYlt := hY.lt
        have hYs := hY.below.size
        go_wp2_with (first | (at_builtin; refine wpList_append_own _ rfl _ _ 28 rfl wr.heap.size 3 i0 (.int .i64 0) 1 8 Try.underlying28 hi hz0 hz1 hz2 rfl (by decide) _ 0 [] rfl (World.ownsRow_made wr #[] 0 (Nat.le_refl _) (by decide) (by simp)) ⟨g, 0, none⟩ l.length mg (Y.map (Value.int .i64)) rfl (by rw [List.length_map, lY, Nat.mul_one]) HNz.out (oneI _) (by unfold maxLen; omega) (by omega) (by simp) ?_))
        intro v'' w2 hown hgrow _
        have GZ : Gl wr v'' Y w2 := ⟨(below_alloc (Below.refl _ wr) _).grown hgrow (below_alloc (Below.refl _ wr) _).size (fun k hk => by simp [Value.ownBlock] at hk; omega), by rw [lY]; first | exact hown | simpa using hown⟩
        obtain ⟨gz, mz, hvz, hmz, Z0⟩ := Yr.of GZ (by omega)
        rw [lY] at hvz
        subst hvz
        have hgz : g < gz := by have := Z0.hg; omega
        obtain ⟨padz, hrz⟩ := Z0.row
        have Y1 := hY.step GZ.below
        clear hown hgrow GZ HNz hY Z0 hYlt hYs
        go_wp2_with fail
        go_loopw [67] (fun i wr => ∃ k : Nat, k ≤ l.length ∧ i = .int .i64 k ∧ Yr w wr g (mixT (Ex.step2 st Y kn) Y k) ∧ RowP wr gz Y padz) (fun i _ => l.length - (intOf i).toNat)
        case atStart => exact ⟨0, Nat.zero_le _, rfl, by rw [mix_zero]; exact Y1, hrz⟩
        case round =>
          obtain ⟨k, hk3, rfl, hY, hZ⟩ := hrel
          clear Y1 hrz
          by_cases hlt : k < l.length
          · have hki : (k : Int) < (l.length : Int) := by omega
            have w1 : IntKind.i64.wrap (st + (k : Int)) = st + (k : Int) := IntWalk.i64_in _ (by omega)
            have w2 : IntKind.i64.wrap ((k : Int) + 1) = (k : Int) + 1 := IntWalk.i64_in _ (by omega)
            have hltY : k < Y.length := by omega
            obtain ⟨g1, g2⟩ := st2_get (st := st) (kn := kn) hltY
            have hltZ : k < (Ex.step2 st Y kn).length := by omega
            by_cases hp : (st + (k : Int)) % 2 = 0
            · have t1 : (st + (k : Int)).tmod 2 = 0 := by rw [Int.tmod_eq_emod_of_nonneg (by omega)]; exact hp
              have gx := g1 hp
              have y0 := hY.at (k := k) (by rw [mix_len lZ]; exact hltY)
              rw [mix_at lZ hltY] at y0
              have z1 := hY.free k
              have hset := hY.drew.set (k := k) (by rw [mix_len lZ]; exact hltY) ((Ex.step2 st Y kn)[k]'hltZ)
              rw [mix_next lZ hltY] at hset
              have hsz := hZ.far ⟨g, k, none⟩ (.int .i64 ((Ex.step2 st Y kn)[k]'hltZ)) (show gz ≠ g by omega)
              have cP := upd_r Y st (st + (k : Int)) kn (some ⟨gz, 0, none⟩) mz wr.drew hkk h1 h2 (by omega) (by omega) (by omega) (by omega) (within_mono hwY (by decide)) hZ.holds
              rw [lY] at cP
              have hS := hwZ _ (List.getElem_mem hltZ)
              generalize Ex.updF (Ex.ex st Y) (st + (k : Int)) kn = P at *
              generalize (Ex.step2 st Y kn)[k]'hltZ = S at *
              generalize Y[k]'hltY = X at *
              have w3 : IntKind.i64.wrap (X + P) = S := by rw [IntWalk.i64_in _ (by omega)]; exact gx.symm
              have HY : Hid _ := hset
              have HZ : Hid _ := hsz
              clear g1 g2 gx hset hS hY hsz hZ
              go_wp2_with fail
              go_region_law (first | (go_simp; go_at_call 121; (with_reducible refine cP.mono ?_); rintro e wn ⟨rfl, rfl⟩; go_wp2_with fail))
              all_goals
                go_wp2
                go_roundw
                case rel => first | exact ⟨k + 1, by omega, by go_num, HY.out, HZ.out⟩ | ((repeat apply Exists.intro); exact ⟨⟨k + 1, by omega, by go_num, HY.out, HZ.out⟩, rfl⟩)
                case measure => simp [intOf]; omega
            · have t1 : (st + (k : Int)).tmod 2 = 1 := by rw [Int.tmod_eq_emod_of_nonneg (by omega)]; omega
              have HY : Hid (Yr w wr g (mixT (Ex.step2 st Y kn) Y (k + 1))) := by rw [← mix_same lZ hltY (g2 hp)]; exact hY
              have HZ : Hid _ := hZ
              clear g1 g2 hY hZ
              go_wp2
              go_roundw
              case rel => exact ⟨k + 1, by omega, by go_num, HY.out, HZ.out⟩
              case measure => simp [intOf]; omega
          · obtain rfl : k = l.length := by omega
            rw [← lY, mix_all lZ] at hY
            have hfin : Ex.fwdL st l kn = Ex.step2 st Y kn := by rw [HE.out, Ex.fwdL, if_pos hn]
            generalize Ex.step2 st Y kn = Z at *
            have HFin : Hid _ := hfin
            clear hfin
            have hsp := split_n Z l.length (by omega) st (some ⟨g, 0, none⟩) mg wr (sp_iff.2 ⟨h1, h2, by omega⟩) hY.holds
            have HB : Hid _ := hY.below
            clear hY hZ
            go_wp2_with fail
            refine hsp.mono ?_
            rintro e w5 ⟨s1, m1, s2, m2, rfl, a1, a2, hb, b1, b2⟩
            have HA1 : Hid _ := a1
            have HA2 : Hid _ := a2
            have HBB : Hid _ := below_call HB.out hb
            clear a1 a2 hb
            go_wp2
            go_ret3
            rw [HFin.out]
            exact ⟨s1, m1, s2, m2, rfl, HA1.out, HA2.out, HBB.out, fresh_up HB.out b1, fresh_up HB.out b2⟩
  · have hfin : Ex.fwdL st l kn = l := by rw [Ex.fwdL, if_neg hn]
    have HFin : Hid _ := hfin
    have hni : ¬ (1 : Int) < (l.length : Int) := by omega
    clear hfin
    cases s with
    | some p =>
      have HNw : Hid _ := holdsI_list (hH.alloc (.cells #[] 3))
      go_enter Try.func75, Try.ntmps75
      go_wp2_with (first | (go_at_call 118; refine (vk_r _ _).mono ?_; rintro e wn ⟨rfl, rfl⟩) | (go_at_call 119; refine (few_r _ _ _ _ _ (by decide) (by decide) (by omega) hH).mono ?_; rintro e wn ⟨rfl, rfl⟩) | (at_builtin; refine wpList_append_own _ rfl _ _ 28 rfl w.heap.size 3 i0 (.int .i64 0) 1 8 Try.underlying28 hi hz0 hz1 hz2 rfl (by decide) _ 0 [] rfl (World.ownsRow_made w #[] 0 (Nat.le_refl _) (by decide) (by simp)) p _ m (l.map (Value.int .i64)) rfl (by simp) HNw.out (oneI _) (by unfold maxLen; omega) (by omega) (by simp) ?_))
      intro v' w0 hown hgrow _
      have GB : Gl w v' l w0 := ⟨(below_alloc (Below.refl _ w) _).grown hgrow (below_alloc (Below.refl _ w) _).size (fun k hk => by simp [Value.ownBlock] at hk; omega), by simpa using hown⟩
      obtain ⟨sb, mb, rfl, lb, _⟩ := GB.holds
      have HB : Hid _ := GB.below
      have hsp := split_yes l st sb mb w0 (sp_iff.2 ⟨h1, h2, h3⟩) lb
      clear hown hgrow GB
      go_wp2_with fail
      refine hsp.mono ?_
      rintro e w5 ⟨s1, m1, s2, m2, rfl, a1, a2, hb, b1, b2⟩
      have HA1 : Hid _ := a1
      have HA2 : Hid _ := a2
      have HBB : Hid _ := below_call HB.out hb
      clear a1 a2 hb
      go_wp2
      go_ret3
      rw [HFin.out]
      exact ⟨s1, m1, s2, m2, rfl, HA1.out, HA2.out, HBB.out, fresh_up HB.out b1, fresh_up HB.out b2⟩
    | none =>
      obtain ⟨h0, h00⟩ := hs rfl
      obtain rfl := List.length_eq_zero_iff.1 h0
      subst h00
      have hsp := split_yes [] st (some ⟨w.heap.size, 0, none⟩) 0 (w.alloc (.cells #[] 3)) (sp_iff.2 ⟨h1, h2, h3⟩) (.inl rfl)
      go_enter Try.func75, Try.ntmps75
      go_wp2_with (first | (go_at_call 118; refine (vk_r _ _).mono ?_; rintro e wn ⟨rfl, rfl⟩) | (go_at_call 119; refine (few_r [] _ _ _ _ (by decide) (by decide) (by decide) (.inl rfl)).mono ?_; rintro e wn ⟨rfl, rfl⟩) | (at_builtin; refine wpList_append_own_none rfl _ _ 28 rfl w.heap.size 3 i0 1 Try.underlying28 hi _ 0 [] rfl (World.ownsRow_made w #[] 0 (Nat.le_refl _) (by decide) (by simp)) rfl ?_))
      go_wp2_with fail
      refine hsp.mono ?_
      rintro e w5 ⟨s1, m1, s2, m2, rfl, a1, a2, hb, b1, b2⟩
      have HA1 : Hid _ := a1
      have HA2 : Hid _ := a2
      have HBB : Hid _ := below_call (below_alloc (Below.refl _ w) _) hb
      clear a1 a2 hb
      go_wp2
      go_ret3
      rw [HFin.out]
      exact ⟨s1, m1, s2, m2, rfl, HA1.out, HA2.out, HBB.out, fresh_up (below_alloc (Below.refl _ w) _) b1, fresh_up (below_alloc (Below.refl _ w) _) b2⟩
end Go.Proofs.Ytnfnidgabgdphaa
