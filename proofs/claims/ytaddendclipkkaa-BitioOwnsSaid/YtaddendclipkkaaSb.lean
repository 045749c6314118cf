/-
  The reference's reader of layer 9: Get at any place of the code's reader.
-/
import Derived.Test.YtaddendclipkkaaSa
set_option maxRecDepth 100000
namespace Go.Proofs.Ytaddendclipkkaa
open Go.RowKit

/-- The reference's reader at a place of the code's reader. -/
def Sd (w : World) (B b : Nat) (bs : List Int) (t : Nat) : Prop := Sp w B b bs ((t + 7) / 8) (8 * ((t + 7) / 8) - t)
def SGives (B b : Nat) (bs : List Int) (t : Nat) (v c : Int) (w : World) (e : Ending) (w' : World) : Prop := e = .returned (.tuple #[.int .i64 v, .int .i64 c]) ∧ Sd w' B b bs t ∧ Kp b w w'
theorem SpGives.to {B b : Nat} {bs : List Int} {p q t : Nat} {v c : Int} {w w' : World} {e : Ending} (h : SpGives B b bs p q v c w e w') (hp : (t + 7) / 8 = p) (hq : 8 * p - t = q) : SGives B b bs t v c w e w' := by
  subst hp
  subst hq
  exact h
theorem sget_c (w : World) (B b : Nat) (bs : List Int) (t : Nat) (hR : Sd w B b bs t) (ht : t ≤ 8 * bs.length) (hb : Bi.bytes bs) (hl : bs.length ≤ 100000000) :
    Calls Try.prog 17 #[.pointer (some ⟨b, 0, none⟩)] w (SGives B b bs (Bi.gN bs t) (Bi.gR bs t) (Bi.gE bs t) w) := by
  unfold Sd at hR
  by_cases h0 : t / 8 = bs.length
  · have e : Bi.gE bs t = 7 := by simp [Bi.gE, h0]
    have e1 : (t + 7) / 8 = bs.length := by omega
    have e2 : 8 * bs.length - t = 0 := by omega
    rw [e1, e2] at hR
    have hg := sget_t w B b bs bs.length hR rfl hl
    have eN : Bi.gN bs t = t := by simp [Bi.gN, e]
    have eR : Bi.gR bs t = 0 := by simp [Bi.gR, e]
    rw [eN, eR, e]
    exact hg.mono fun _ _ h => h.to e1 e2
  obtain ⟨n, hn⟩ : ∃ n, n = t / 8 := ⟨_, rfl⟩
  have hnl : n < bs.length := by omega
  have hx := hb bs[n] (List.getElem_mem _)
  have eD : bs[t / 8]?.getD 0 = bs[n] := by rw [← hn, List.getElem?_eq_getElem hnl]; rfl
  by_cases hr : t % 8 = 0
  · have ht8 : t = 8 * n := by omega
    have e1 : (t + 7) / 8 = n := by omega
    have e2 : 8 * n - t = 0 := by omega
    rw [e1, e2] at hR
    cases n with
    | zero =>
      have eS : Bi.gS bs t = false := by simp [Bi.gS, ← hn, Bi.lst]
      have e : Bi.gE bs t = 0 := by simp [Bi.gE, h0, eS]
      have hg := sget_0 w B b bs 0 hR rfl hnl hx hl
      have eN : Bi.gN bs t = t + 1 := by simp [Bi.gN, Bi.gA, e, eS]
      have eR : Bi.gR bs t = bs[0] / 128 % 2 := by simp [Bi.gR, Bi.gV, Bi.gA, e, eS, eD, hr]
      rw [eN, eR, e]
      exact hg.mono fun _ _ h => h.to (by omega) (by omega)
    | succ k =>
      have eL : Bi.lst (bs.take (k + 1)) = bs[k]'(by omega) := by
        have e : (bs.take (k + 1)).length = k + 1 := by simp; omega
        unfold Bi.lst
        rw [e, Nat.add_sub_cancel, List.getD_eq_getElem?_getD, List.getElem?_take_of_lt (by omega), List.getElem?_eq_getElem (by omega)]
        rfl
      by_cases hs : bs[k]'(by omega) = 255
      · have eS : Bi.gS bs t = true := by simp [Bi.gS, hr, ← hn, eL, hs]
        by_cases h1 : 128 ≤ bs[k + 1]
        · have e : Bi.gE bs t = 8 := by simp [Bi.gE, h0, eS, eD, h1]
          have hg := sget_s w B b bs k hR hnl hs h1 hx hl
          have eN : Bi.gN bs t = t := by simp [Bi.gN, e]
          have eR : Bi.gR bs t = 0 := by simp [Bi.gR, e]
          rw [eN, eR, e]
          exact hg.mono fun _ _ h => h.to (by omega) (by omega)
        · have e : Bi.gE bs t = 0 := by simp [Bi.gE, h0, eD]; omega
          have hg := sget_k w B b bs k hR hnl hs (by omega) hx hl
          have e3 : (t + 1) % 8 = 1 := by omega
          have eN : Bi.gN bs t = t + 2 := by simp [Bi.gN, Bi.gA, e, eS]
          have eR : Bi.gR bs t = bs[k + 1] / 64 % 2 := by simp [Bi.gR, Bi.gV, Bi.gA, e, eS, eD, e3]
          rw [eN, eR, e]
          exact hg.mono fun _ _ h => h.to (by omega) (by omega)
      · have eS : Bi.gS bs t = false := by simp [Bi.gS, ← hn, eL, hs]
        have e : Bi.gE bs t = 0 := by simp [Bi.gE, h0, eS]
        have hg := sget_n w B b bs k hR hnl hs hx hl
        have eN : Bi.gN bs t = t + 1 := by simp [Bi.gN, Bi.gA, e, eS]
        have eR : Bi.gR bs t = bs[k + 1] / 128 % 2 := by simp [Bi.gR, Bi.gV, Bi.gA, e, eS, eD, hr]
        rw [eN, eR, e]
        exact hg.mono fun _ _ h => h.to (by omega) (by omega)
  · have eS : Bi.gS bs t = false := by simp [Bi.gS, hr]
    have e : Bi.gE bs t = 0 := by simp [Bi.gE, h0, eS]
    obtain ⟨r, hrr⟩ : ∃ r, r = t % 8 := ⟨_, rfl⟩
    have e1 : (t + 7) / 8 = n + 1 := by omega
    have e2 : 8 * (n + 1) - t = 7 - r + 1 := by omega
    rw [e1, e2] at hR
    have hg := sget_r w B b bs n (7 - r) hR hnl (by omega) hx hl
    have eN : Bi.gN bs t = t + 1 := by simp [Bi.gN, Bi.gA, e, eS]
    have eR : Bi.gR bs t = bs[n] / 2 ^ (7 - r) % 2 := by simp [Bi.gR, Bi.gV, Bi.gA, e, eS, eD, ← hrr]
    rw [eN, eR, e]
    exact hg.mono fun _ _ h => h.to (by omega) (by omega)
end Go.Proofs.Ytaddendclipkkaa
