/-
  Layer 16: the first passes of a block: what Values makes of them; kept.
-/
import Derived.Test.YtbhjapgioaiocaaDoorMH
set_option maxRecDepth 100000
namespace Go.Proofs.YtbhjapgioaiocaaDoor
open Go.RowKit

theorem kept_facts6 (v : Int) (k : Nat) (hv : okV v) : (v < 0 → ∃ a b c : Int, IntKind.i64.wrap (-v) = a ∧ a / 2 ^ k = b ∧ IntKind.i64.wrap (b * 2 ^ k) = c ∧ IntKind.i64.wrap (-c) = keptM v k) ∧ (0 ≤ v → ∃ b : Int, v / 2 ^ k = b ∧ IntKind.i64.wrap (b * 2 ^ k) = keptM v k) := by
  have e1 : ∀ n : Nat, (n : Int) / 2 ^ k = ((n / 2 ^ k : Nat) : Int) := fun n => by rw [Int.natCast_ediv, Int.natCast_pow]; rfl
  have e2 : ∀ n : Nat, (n : Int) * 2 ^ k = ((n * 2 ^ k : Nat) : Int) := fun n => by rw [Int.natCast_mul, Int.natCast_pow]; rfl
  have hle := Nat.div_mul_le_self v.natAbs (2 ^ k)
  unfold okV at hv
  constructor
  · intro h
    refine ⟨(v.natAbs : Int), ((v.natAbs / 2 ^ k : Nat) : Int), ((v.natAbs / 2 ^ k * 2 ^ k : Nat) : Int), ?_, e1 _, ?_, ?_⟩
    · rw [IntWalk.i64_left]; unfold wrap64; omega
    · rw [e2, IntWalk.i64_left]; unfold wrap64; omega
    · unfold keptM
      rw [if_pos h, IntWalk.i64_left]; unfold wrap64; omega
  · intro h
    refine ⟨((v.natAbs / 2 ^ k : Nat) : Int), ?_, ?_⟩
    · rw [← e1]; congr 1; omega
    · unfold keptM
      rw [if_neg (by omega), e2, IntWalk.i64_left]; unfold wrap64; omega
theorem kept_c (v : Int) (k : Nat) (hv : okV v) (hk : k ≤ 60) (W : World) : Calls Tryd.prog 36 #[.int .i64 v, .int .i64 (k : Int)] W fun e w' => e = .returned (.int .i64 (keptM v k)) ∧ w' = W := by
  obtain ⟨kf1, kf2⟩ := kept_facts6 v k hv
  have hmin : min k 64 = k := by omega
  have wu : IntKind.u64.wrap (k : Int) = (k : Int) := by unfold IntKind.wrap; simp [IntKind.bits, IntKind.signed]; omega
  generalize keptM v k = kv at *
  by_cases h0 : v < 0
  · obtain ⟨x1, x2, x3, y1, y2, y3, y4⟩ := kf1 h0
    clear kf1 kf2 hv hk
    go_enter Tryd.func36, Tryd.ntmps36
    go_wp2_with fail
    go_ret
    exact ⟨rfl, rfl⟩
  · obtain ⟨x1, y1, y2⟩ := kf2 (by omega)
    clear kf1 kf2 hv hk
    go_enter Tryd.func36, Tryd.ntmps36
    go_wp2_with fail
    go_ret
    exact ⟨rfl, rfl⟩
theorem symL_take (w h : Nat) (planes o : Int) (m : Mo) (q : St) (N n : Nat) (hn : n ≤ N) : (symL w h planes o m q N).take n = symL w h planes o m q n := by
  unfold symL
  rw [← List.map_take, List.take_range, Nat.min_eq_left hn]
/-- The first n passes. -/
theorem val_pre (w h : Nat) (l : List Int) (o : Int) (m : Mo) (hf : fits (w : Int) (h : Int)) (hl : ∀ v ∈ l, okV v) (hp : plnN l ≤ 60) (hn : l.length = w * h) (ho : 0 ≤ o ∧ o ≤ 3) (n : Nat) (hnp : n ≤ 3 * plnN l - 2) (Ls : List (List Sy)) (hLs : Ls = symL w h (plnN l) o m (setV w h l l.length) n) :
    ∃ vl ml : List Int, valC w h (plnN l) o m Ls = 0 ∧ valV w h (plnN l) o m Ls = vl ∧ valM2 w h (plnN l) o m Ls = ml ∧ vl.length = l.length ∧ ml.length = l.length ∧
      ∀ i, i < l.length → ∃ mi : Nat, ml.getD i 0 = (mi : Int) ∧ vl.getD i 0 = keptM (l.getD i 0) mi ∧ okV (l.getD i 0) ∧ mi ≤ plnN l ∧ ((n = 0 ∧ mi = plnN l) ∨ (0 < n ∧ (mi : Int) = (plnN l : Int) - 1 - plnP ((n : Int) - 1)) ∨ (0 < n ∧ kndP ((n : Int) - 1) ≠ 2 ∧ (mi : Int) = (plnN l : Int) - plnP ((n : Int) - 1))) := by
  have hlen : Ls.length = n := by rw [hLs, symL_len]
  have hR := rdd_ok w h l o m hl hp n hnp
  have hw : 0 < w := by unfold fits at hf; omega
  obtain ⟨c1, c2⟩ := valC_is (planes := (plnN l : Int)) (m := m) (Ls := Ls) hf (by omega) (by omega) ho 0 (by rw [hLs]; exact hR.val)
  refine ⟨_, _, c1, rfl, rfl, ?_, ?_, fun i hi => ?_⟩
  · unfold valV
    rw [if_pos c1, rowL_len, hn]
    rfl
  · unfold valM2
    rw [if_pos c1, rowL_len, hn]
    rfl
  · have e1 : valV w h (plnN l) o m Ls = rowL w (decP w h (plnN l) o m (setV w h l l.length) n).v (w * h) := by unfold valV; rw [if_pos c1, c2]; rfl
    have e2 : valM2 w h (plnN l) o m Ls = rowL w (lftM (plnN l) n (decP w h (plnN l) o m (setV w h l l.length) n)) (w * h) := by unfold valM2; rw [if_pos c1, c2, hlen]; rfl
    obtain ⟨X, hX⟩ : ∃ X, X = i % w := ⟨_, rfl⟩
    obtain ⟨Y, hY⟩ : ∃ X, X = i / w := ⟨_, rfl⟩
    have hd : ∀ f : Int → Int → Int, (rowL w f (w * h)).getD i 0 = f (X : Int) (Y : Int) := fun f => by
      have hi2 : i < (rowL w f (w * h)).length := by rw [rowL_len]; omega
      rw [List.getD_eq_getElem?_getD, List.getElem?_eq_getElem hi2, rowL_at, hX, hY]
      rfl
    have hs : (setV w h l l.length).v (X : Int) (Y : Int) = l.getD i 0 := by
      rw [hX, hY, setV_at w h hw l hl _ (by omega) i hi, List.getD_eq_getElem?_getD]
    obtain ⟨q1, q2⟩ := lft_is (plnN l) n hnp (decP w h (plnN l) o m (setV w h l l.length) n) (X : Int) (Y : Int)
    have ht := hR.bs.l.t
    have hv := hR.bs.l.v (X : Int) (Y : Int)
    rw [← ht, hs] at hv
    refine ⟨misM (plnN l) n (decP w h (plnN l) o m (setV w h l l.length) n).t (X : Int) (Y : Int), by rw [e2, hd, q1], by rw [e1, hd, hv], ?_, q2, ?_⟩
    · rw [List.getD_eq_getElem?_getD, List.getElem?_eq_getElem hi]
      exact hl _ (List.getElem_mem hi)
    · rw [← q1]
      unfold lftM
      by_cases h0 : n = 0
      · subst h0
        left
        refine ⟨rfl, ?_⟩
        unfold misM
        rw [if_pos rfl]
      · by_cases hc : (kndP ((n : Int) - 1) = 0 ∨ kndP ((n : Int) - 1) = 1) ∧ (decP w h (plnN l) o m (setV w h l l.length) n).t (X : Int) (Y : Int) = false
        · right; right
          refine ⟨by omega, by rcases hc.1 with z | z <;> rw [z] <;> decide, ?_⟩
          rw [if_pos hc]
          omega
        · right; left
          refine ⟨by omega, ?_⟩
          rw [if_neg hc]
          omega
end Go.Proofs.YtbhjapgioaiocaaDoor
