/-
  What each call of slices.Clone, of Paste returns and leaves.
-/
import Derived.Test.YtadkcgpkbcgeoaaPlnI
import Derived.WalkSpells
set_option maxRecDepth 100000
namespace Go.Proofs.Ytadkcgpkbcgeoaa
open Go.RowKit

/-- A row of the call's own. -/
theorem rowP_own {w : World} {base n : Nat} {v : Value} {l : List Int} (h : w.ownsRow base 3 1 v n (l.map (Value.int .i64))) :
    n = l.length ∧ ((v = .slice none 0 0 ∧ l = []) ∨ ∃ g m pad, v = .slice (some ⟨g, 0, none⟩) l.length m ∧ base ≤ g ∧ RowP w g l pad ∧ l.length ≤ m) := by
  obtain ⟨h1, h2⟩ := h
  have hn : n = l.length := by simpa using h1.symm
  subst hn
  refine ⟨rfl, ?_⟩
  rcases h2 with ⟨rfl, h0⟩ | ⟨g, cap, cur, rfl, hb, hg, hc, _, hs, ht⟩
  · exact .inl ⟨rfl, List.length_eq_zero_iff.1 h0⟩
  · refine .inr ⟨g, cap, cur.toList.drop l.length, rfl, hb, ?_, hc⟩
    unfold RowP
    rw [Nat.mul_one] at ht
    rw [← ht, List.take_append_drop, Array.toArray_toList]
    exact hg
theorem holdsI_list {w : World} {p : Addr} {l : List Int} (h : HoldsI w (some p) l) : ∀ j u, (l.map (Value.int .i64))[j]? = some u → w.cell? (p.add j) = some u := by
  rcases h with rfl | ⟨b, off, e, hr⟩
  · intro j u hj; simp at hj
  · simp at e; subst e
    have := holdsI_part (.inr ⟨b, off, rfl, hr⟩ : HoldsI w (some ⟨b, off, none⟩) l) 0 l.length (by omega)
    simpa using this
/-- A list of the call's own, or nothing. -/
def GivesRow (l : List Int) (w : World) (e : Ending) (w' : World) : Prop :=
  Below w.heap.size w w' ∧ ∃ s m, e = .returned (.slice s l.length m) ∧ l.length ≤ m ∧ (l = [] ∨ ∃ g pad, s = some ⟨g, 0, none⟩ ∧ w.heap.size ≤ g ∧ RowP w' g l pad)
set_option maxHeartbeats 1000000 in
theorem clone_c (s : Option Addr) (m : Nat) (l : List Int) (w : World) (hl : l.length ≤ 1048576) (hH : HoldsI w s l) (hs : s = none → l.length = 0 ∧ m = 0) :
    Calls Try.prog 91 #[.slice s l.length m] w (GivesRow l w) := by
  obtain ⟨i0, hi, hz0, hz1, hz2⟩ := info_parts infoI
  have hnil := fun (W : World) (a : Option Addr) (n c : Nat) => Lib.run_eql_slice_nil (P := Try.prog) W 38 3 a n c 0 0 Try.underlying38
  cases s with
  | none =>
    obtain ⟨h0, h1⟩ := hs rfl
    obtain rfl := List.length_eq_zero_iff.1 h0
    subst h1
    go_enter Try.func91, Try.ntmps91
    go_wp2
    go_ret
    exact ⟨Below.refl _ _, none, 0, rfl, Nat.le_refl _, .inl rfl⟩
  | some p =>
    have hnews := holdsI_list hH
    have HN : Hid _ := hnews
    go_enter Try.func91, Try.ntmps91
    go_wp2_with (first | (at_builtin; refine wpList_append_own _ rfl _ _ 38 rfl w.heap.size 3 i0 (.int .i64 0) 1 8 Try.underlying38 hi hz0 hz1 hz2 rfl (by decide) _ 0 [] rfl (World.ownsRow_made w #[] 0 (Nat.le_refl _) (by decide) (by simp)) p l.length m (l.map (Value.int .i64)) rfl (by simp) ?c1 (oneI _) (by unfold maxLen; omega) (by omega) (by simp) ?_))
    case c1 => exact holdsI_list (hH.below ((Below.refl _ _).alloc (Nat.le_refl _) _) (Nat.le_refl _))
    intro v' w' hown hgrow _
    have B1 : Below w.heap.size w w' := (((Below.refl _ w).alloc (Nat.le_refl _) _).grown hgrow (by simp) (fun k hk => by simp [Value.ownBlock] at hk; omega))
    obtain ⟨s', m', rfl, hm', hres⟩ : ∃ s' m', v' = .slice s' l.length m' ∧ l.length ≤ m' ∧ (l = [] ∨ ∃ g pad, s' = some ⟨g, 0, none⟩ ∧ w.heap.size ≤ g ∧ RowP w' g l pad) := by
      obtain ⟨_, (⟨rfl, rfl⟩ | ⟨g, mm, pad, rfl, hb, hrow, hm⟩)⟩ := rowP_own hown
      · exact ⟨none, 0, rfl, Nat.le_refl _, .inl rfl⟩
      · exact ⟨_, mm, rfl, hm, .inr ⟨g, pad, rfl, hb, hrow⟩⟩
    have HR : Hid _ := hres
    clear hown hgrow hnews HN hres
    go_wp2
    go_ret
    exact ⟨B1, s', m', rfl, hm', HR.out⟩
/-- A plane of the call's own, perhaps empty, stands in its variable. -/
structure Made2 (w : World) (P : Nat) (rp : Pl.R) (vp : Value) (q : Pl.R) (L : List Int) (W : World) (s' : Option Addr) (cap : Nat) (B : Nat) : Prop where
  p : QBox W P rp vp
  z : QBox W (w.heap.size + 2) ⟨0, 0, 0, 0⟩ (.slice none 0 0)
  part : QBox W B q (.slice s' L.length cap)
  row : L = [] ∨ ∃ g pad, s' = some ⟨g, 0, none⟩ ∧ RowP W g L pad ∧ w.heap.size + 2 < g ∧ g ≠ B
  below : Below w.heap.size w W
  hB : w.heap.size + 2 < B
  hcap : L.length ≤ cap
theorem madeA {w w4 : World} {P : Nat} {rp : Pl.R} {vp : Value} {L : List Int} {s' : Option Addr} {n cap : Nat} (p4 : QBox w4 P rp vp) (z4 : QBox w4 (w.heap.size + 2) ⟨0, 0, 0, 0⟩ (.slice none 0 0)) (B4 : Below w.heap.size w w4) (hz3 : w.heap.size + 2 < n)
    (hrow : L = [] ∨ ∃ g pad, s' = some ⟨g, 0, none⟩ ∧ n ≤ g ∧ RowP w4 g L pad) (hcap : L.length ≤ cap) (a b c d : Int) :
    Made2 w P rp vp ⟨a, b, c, d⟩ L (w4.alloc (.cells #[.int .i64 a, .int .i64 b, .int .i64 c, .int .i64 d, .slice s' L.length cap] 40)) s' cap w4.heap.size := by
  have hz := z4.lt
  refine ⟨p4.alloc _, z4.alloc _, QBox.fresh w4 a b c d s' L.length cap 40, ?_, B4.alloc (by omega) _, hz, hcap⟩
  rcases hrow with h | ⟨g, pad, e, hg, hr⟩
  · exact .inl h
  · exact .inr ⟨g, pad, e, hr.below ((Below.refl _ _).alloc (Nat.le_refl _) _), by omega, Nat.ne_of_lt hr.lt⟩
theorem madeB {w w4 : World} {P B : Nat} {rp : Pl.R} {vp : Value} {L : List Int} {s' : Option Addr} {n cap : Nat} (hP : P < w.heap.size + 2) (hB : w.heap.size + 2 < B) (p4 : QBox w4 P rp vp) (z4 : QBox w4 (w.heap.size + 2) ⟨0, 0, 0, 0⟩ (.slice none 0 0)) (q4 : QBox w4 B ⟨0, 0, 0, 0⟩ (.slice none 0 0)) (B4 : Below w.heap.size w w4) (hn : B < n)
    (hrow : L = [] ∨ ∃ g pad, s' = some ⟨g, 0, none⟩ ∧ n ≤ g ∧ RowP w4 g L pad) (hcap : L.length ≤ cap) (a b c d : Int) :
    Made2 w P rp vp ⟨a, b, c, d⟩ L (((((w4.setCell ⟨B, 0, none⟩ (.int .i64 a)).setCell ⟨B, 1, none⟩ (.int .i64 b)).setCell ⟨B, 2, none⟩ (.int .i64 c)).setCell ⟨B, 3, none⟩ (.int .i64 d)).setCell ⟨B, 4, none⟩ (.slice s' L.length cap)) s' cap B := by
  have hz := z4.lt
  refine ⟨p4.far5 (by omega) _ _ _ _ _, z4.far5 (by omega) _ _ _ _ _, q4.store a b c d _, ?_, below5 B4 (by omega) _ _ _ _ _, hB, hcap⟩
  rcases hrow with h | ⟨g, pad, e, hg, hr⟩
  · exact .inl h
  · exact .inr ⟨g, pad, e, hr.far5 (by omega) _ _ _ _ _, by omega, by omega⟩
end Go.Proofs.Ytadkcgpkbcgeoaa
