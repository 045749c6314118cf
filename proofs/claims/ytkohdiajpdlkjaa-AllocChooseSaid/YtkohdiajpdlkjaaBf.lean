/-
  Layer 21: copy at elements of four cells; an insertion in memory.
-/
import Derived.Test.YtkohdiajpdlkjaaAf
import Derived.Shelf.GgSortFunc.RowK
import Derived.Laws.CopyOwn
set_option maxRecDepth 100000
namespace Go.Proofs.Ytkohdiajpdlkjaa
open Go.RowKit Go.Sort

theorem run_copy4 {P : Program} (w : World) (dT sT ty elem : TypeId) (b o dLen dCap : Nat) (a : Addr) (sLen sCap q : Nat) (cs : List Value) (hq : Nat.min sLen dLen = q)
    (hu : P.underlying dT = some (.slice elem)) (hs : (P.info? elem).map (·.size) = some 4) (hn : cs.length = q * 4)
    (hsrc : ∀ j v, cs[j]? = some v → w.cell? (a.add j) = some v) (hc : ∀ j, j < cs.length → (w.cell? ⟨b, o + j, none⟩).isSome = true) (hf : ∀ j, j < cs.length → w.frozen? ⟨b, o + j, none⟩ = false) (h1 : ∀ v ∈ cs, v.oneCell' = true) :
    (Builtin.copy_ #[dT, sT] ty #[.slice (some ⟨b, o, none⟩) dLen dCap, .slice (some a) sLen sCap]).run P w = .ok (goInt q) (w.setCells b o cs) := by
  have hl := run_loadCells_list (P := P) w a cs hsrc
  have hst := run_storeCells_cells (P := P) b o cs 0 w (by simpa using hc) (by simpa using hf) h1
  cases hx : P.info? elem with
  | none => simp [hx] at hs
  | some i =>
    have hi : i.size = 4 := by simpa [hx] using hs
    rw [hn] at hl
    simp [Builtin.copy_, run_underlying hu, Builtin.lenOf, Builtin.firstCells, sizeOf, typeInfo, hx, hi, hq, hl, hst]
theorem run_copy_zero {P : Program} (w : World) (dT sT ty elem : TypeId) (d a : Option Addr) (dLen dCap sLen sCap : Nat) (hn : Nat.min sLen dLen = 0) (hu : P.underlying dT = some (.slice elem)) (hs : (P.info? elem).map (·.size) = some 4) :
    (Builtin.copy_ #[dT, sT] ty #[.slice d dLen dCap, .slice a sLen sCap]).run P w = .ok (goInt (0 : Nat)) w := by
  cases hq : P.info? elem with
  | none => simp [hq] at hs
  | some i =>
    have hl : ∀ (x : Addr), (loadCells x 0).run P w = .ok #[] w := fun x => by simpa using run_loadCells_list (P := P) w x [] (by simp)
    cases d <;> cases a <;> simp [Builtin.copy_, run_underlying hu, Builtin.lenOf, Builtin.firstCells, sizeOf, typeInfo, hq, hn, storeCells, hl]
theorem blk_setCells {g : Nat} {t : TypeId} : ∀ (vs : List Value) (o : Nat) (w : World) (cs : Array Value), Blk w g t cs → Blk (w.setCells g o vs) g t (setMany cs o vs)
  | [], _, _, _, h => h
  | v :: r, o, _, _, h => blk_setCells r (o + 1) _ _ (h.set o v)
theorem own_blk {w : World} {base n : Nat} {t : TypeId} {s : Option Addr} {m : Nat} {xs : List Value} (h : w.ownsRow base t 4 (.slice s n m) n xs) (hn : 0 < n) :
    ∃ g cur, s = some ⟨g, 0, none⟩ ∧ base ≤ g ∧ Blk w g t cur ∧ n ≤ m ∧ m ≤ maxLen ∧ cur.size = m * 4 ∧ cur.toList.take (n * 4) = xs := by
  rcases h.2 with ⟨_, h0⟩ | ⟨g, cap, cur, e, h1, h2, h3, h4, h5, h6⟩
  · omega
  · injection e with e1 _ e3
    subst e1 e3
    exact ⟨g, cur, rfl, h1, h2, h3, h4, h5, h6⟩
/-- The list with s at its place. -/
def insAt (s : Stp) (L : List Stp) (k : Nat) : List Stp := L.take k ++ s :: L.drop k
theorem insAt_len (s : Stp) (L : List Stp) (k : Nat) : (insAt s L k).length = L.length + 1 := by
  unfold insAt
  rw [List.length_append, List.length_cons, List.length_take, List.length_drop]
  omega
theorem insAt_get (s : Stp) (L : List Stp) (k q : Nat) (hk : k ≤ L.length) : (insAt s L k).getD q default = if q < k then L.getD q default else if q = k then s else L.getD (q - 1) default := by
  unfold insAt
  rw [List.getD_eq_getElem?_getD]
  by_cases h1 : q < k
  · rw [if_pos h1, List.getElem?_append_left (by rw [List.length_take]; omega), List.getElem?_take_of_lt h1, List.getD_eq_getElem?_getD]
  · rw [if_neg h1, List.getElem?_append_right (by rw [List.length_take]; omega), List.length_take, Nat.min_eq_left hk]
    by_cases h2 : q = k
    · rw [if_pos h2, h2, Nat.sub_self]; rfl
    · rw [if_neg h2]
      obtain ⟨d, rfl⟩ : ∃ d, q = k + (d + 1) := ⟨q - k - 1, by omega⟩
      rw [Nat.add_sub_cancel_left, List.getElem?_cons_succ, List.getElem?_drop, List.getD_eq_getElem?_getD]
      rfl
theorem ins_take (s : Stp) (L : List Stp) (k : Nat) (hk : k ≤ L.length) (cur : Array Value) (hz : (L.length + 1) * 4 ≤ cur.size) (ht : cur.toList.take (L.length * 4) = flatE encB L) :
    (setMany (setMany cur ((k + 1) * 4) (flatE encB (L.drop k))) (k * 4) (encB s)).toList.take ((L.length + 1) * 4) = flatE encB (insAt s L k) := by
  apply List.ext_getElem?
  intro t
  by_cases h : t < (L.length + 1) * 4
  · rw [List.getElem?_take_of_lt h, Array.getElem?_toList, Array.getElem?_eq_getElem (by simp; omega)]
    have hg := get_setMany (encB s) (k * 4) (setMany cur ((k + 1) * 4) (flatE encB (L.drop k))) t (by simp; omega)
    rw [getElem!_pos _ t (by simp; omega)] at hg
    rw [hg, get_setMany _ _ _ t (by omega), flatE_len, List.length_drop]
    have hr := flatE_at (enc := encB) (insAt s L k) (t / 4) (t % 4) (by rw [insAt_len]; omega) (Nat.mod_lt _ (by decide))
    rw [show t / 4 * 4 + t % 4 = t by omega, insAt_get _ _ _ _ hk] at hr
    rw [hr]
    have l4 : ∀ x : Stp, (encB x).length = 4 := fun x => rfl
    by_cases c1 : k * 4 ≤ t ∧ t < k * 4 + (encB s).length
    · have c2 := l4 s
      have e1 : t / 4 = k := by omega
      rw [if_pos c1, if_neg (by omega), if_pos e1, show t - k * 4 = t % 4 by omega]
      have hl : t % 4 < (encB s).length := by rw [l4]; exact Nat.mod_lt _ (by decide)
      rw [getElem!_pos (encB s) (t % 4) hl]
      exact (List.getElem?_eq_getElem hl).symm
    · rw [if_neg c1]
      rw [l4] at c1
      by_cases c2 : (k + 1) * 4 ≤ t ∧ t < (k + 1) * 4 + (L.length - k) * 4
      · rw [if_pos c2, if_neg (by omega), if_neg (by omega)]
        have hd := flatE_at (enc := encB) (L.drop k) (t / 4 - (k + 1)) (t % 4) (by rw [List.length_drop]; omega) (Nat.mod_lt _ (by decide))
        rw [show (t / 4 - (k + 1)) * 4 + t % 4 = t - (k + 1) * 4 by omega] at hd
        have hx : (L.drop k).getD (t / 4 - (k + 1)) default = L.getD (t / 4 - 1) default := by
          rw [List.getD_eq_getElem?_getD, List.getElem?_drop, List.getD_eq_getElem?_getD, show k + (t / 4 - (k + 1)) = t / 4 - 1 by omega]
        rw [hx] at hd
        rw [← hd]
        have hl : t - (k + 1) * 4 < (flatE encB (L.drop k)).length := by rw [flatE_len, List.length_drop]; omega
        rw [getElem!_pos (flatE encB (L.drop k)) (t - (k + 1) * 4) hl]
        exact (List.getElem?_eq_getElem hl).symm
      · rw [if_neg c2, if_pos (by omega)]
        have hd := flatE_at (enc := encB) L (t / 4) (t % 4) (by omega) (Nat.mod_lt _ (by decide))
        rw [show t / 4 * 4 + t % 4 = t by omega] at hd
        rw [← hd, ← ht, List.getElem?_take_of_lt (by omega), Array.getElem?_toList, getElem!_pos cur t (by omega)]
        exact (Array.getElem?_eq_getElem (by omega)).symm
  · rw [List.getElem?_eq_none (by simp; omega), List.getElem?_eq_none (by rw [flatE_len, insAt_len]; omega)]
theorem ins_own {w : World} {base g m : Nat} {t : TypeId} {cur : Array Value} (s : Stp) (L : List Stp) (k : Nat) (hk : k ≤ L.length) (hb : base ≤ g) (hB : Blk w g t cur) (h1 : L.length + 1 ≤ m) (h2 : m ≤ maxLen) (h3 : cur.size = m * 4) (ht : cur.toList.take (L.length * 4) = flatE encB L) :
    ((w.setCells g ((k + 1) * 4) (flatE encB (L.drop k))).setCells g (k * 4) (encB s)).ownsRow base t 4 (.slice (some ⟨g, 0, none⟩) (L.length + 1) m) (insAt s L k).length (flatE encB (insAt s L k)) := by
  refine ⟨by rw [flatE_len], .inr ⟨g, m, _, by rw [insAt_len], hb, blk_setCells _ _ _ _ (blk_setCells _ _ _ _ hB), by rw [insAt_len]; exact h1, h2, by simp [h3], ?_⟩⟩
  rw [insAt_len]
  exact ins_take s L k hk cur (by rw [h3]; exact Nat.mul_le_mul_right 4 h1) ht
end Go.Proofs.Ytkohdiajpdlkjaa
