/-
  Layer 28: lists of segments in memory; contracts of ends and of the code's All.
-/
import Derived.Test.YtagfmmkhgggfmaaMs
set_option maxRecDepth 100000
namespace Go.Proofs.Ytagfmmkhgggfmaa
open Go.RowKit

def sgV (x : Int × Value) : List Value := [.int .i64 x.1, x.2]
theorem sgV_flat (Q : List (Int × Value)) : (Q.flatMap sgV).length = Q.length * 2 := by
  induction Q with
  | nil => rfl
  | cons x Q ih => rw [List.flatMap_cons, List.length_append, ih, List.length_cons, Nat.succ_mul]; simp [sgV]; omega
theorem infoSg : (Try.prog.info? 26).map (fun i => (i.zero, i.size, i.bytes)) = some (some (.agg #[.int .i64 0, .slice none 0 0]), 2, 32) := by kernel_rfl
/-- What is in memory stands for a segment. -/
structure Sg (w : World) (B : Nat) (x : Int × Value) (y : Int × List Int) : Prop where
  code : x.1 = y.1
  own : w.ownsRow B 5 1 x.2 y.2.length (y.2.map (Value.int .u8))
structure Sgs (w : World) (B : Nat) (Q : List (Int × Value)) (l : List (Int × List Int)) : Prop where
  len : Q.length = l.length
  els : ∀ i (h1 : i < Q.length) (h2 : i < l.length), Sg w B Q[i] l[i]
theorem Sg.call {w w1 : World} {B : Nat} {x : Int × Value} {y : Int × List Int} (h : Sg w B x y) (hb : Below w.heap.size w w1) : Sg w1 B x y := ⟨h.code, own_below h.own hb⟩
theorem Sgs.call {w w1 : World} {B : Nat} {Q : List (Int × Value)} {l : List (Int × List Int)} (h : Sgs w B Q l) (hb : Below w.heap.size w w1) : Sgs w1 B Q l := ⟨h.len, fun i h1 h2 => (h.els i h1 h2).call hb⟩
theorem Sgs.nil (w : World) (B : Nat) : Sgs w B [] [] := ⟨rfl, fun i h1 _ => by simp at h1⟩
theorem Sgs.snoc {w : World} {B : Nat} {Q : List (Int × Value)} {l : List (Int × List Int)} (h : Sgs w B Q l) {x : Int × Value} {y : Int × List Int} (hx : Sg w B x y) : Sgs w B (Q ++ [x]) (l ++ [y]) := by
  refine ⟨by simp [h.len], fun i h1 h2 => ?_⟩
  by_cases hi : i < Q.length
  · rw [List.getElem_append_left hi, List.getElem_append_left (by rw [← h.len]; exact hi)]
    exact h.els i hi _
  · have e1 : i = Q.length := by simp at h1; omega
    have e2 : i = l.length := by rw [← h.len]; exact e1
    rw [List.getElem_append_right (by omega), List.getElem_append_right (by omega)]
    simp only [List.getElem_singleton]
    exact hx
theorem own_apart {w : World} {B1 B2 n1 n2 z1 z2 : Nat} {e1 e2 : TypeId} {v1 v2 : Value} {x1 x2 : List Value} (h1 : w.ownsRow B1 e1 z1 v1 n1 x1) (h2 : w.ownsRow B2 e2 z2 v2 n2 x2) (hne : e1 ≠ e2) (k : Nat) (hk : v1.ownBlock = some k) : v2.ownBlock ≠ some k := by
  intro hk2
  rcases h1.2 with ⟨rfl, _⟩ | ⟨g, cap, cur, rfl, _, hg, _⟩
  · simp [Value.ownBlock] at hk
  · rcases h2.2 with ⟨rfl, _⟩ | ⟨g', cap', cur', rfl, _, hg', _⟩
    · simp [Value.ownBlock] at hk2
    · have a1 : g = k := by simpa [Value.ownBlock] using hk
      have a2 : g' = k := by simpa [Value.ownBlock] using hk2
      subst a1
      subst a2
      rw [hg] at hg'
      injection hg' with hg'
      injection hg' with _ ht
      exact hne ht
theorem own_grown8 {w w1 : World} {B n z : Nat} {e : TypeId} {v : Value} {xs : List Value} {row : Option Nat} (h : w.ownsRow B e z v n xs) (hg : w.grownBy w1 row) (hr : ∀ k, v.ownBlock = some k → row ≠ some k) : w1.ownsRow B e z v n xs := by
  refine ⟨h.1, ?_⟩
  rcases h.2 with hn | ⟨g, cap, cur, rfl, hb', hgg, rest⟩
  · exact .inl hn
  · have := (Array.getElem?_eq_some_iff.1 hgg).1
    exact .inr ⟨g, cap, cur, rfl, hb', (hg.block g this (fun e => hr g rfl e.symm)).trans hgg, rest⟩
/-- A row of segments of the call's own. -/
structure RwS (B : Nat) (W : World) (v : Value) (Q : List (Int × Value)) (l : List (Int × List Int)) (w' : World) : Prop where
  own : w'.ownsRow B 26 2 v Q.length (Q.flatMap sgV)
  els : Sgs w' B Q l
  below : Below B W w'
  le : B ≤ W.heap.size
theorem RwS.nil (B : Nat) (W : World) (hB : B ≤ W.heap.size) : RwS B W (.slice none 0 0) [] [] W := ⟨World.ownsRow_nil _ _ _ _, Sgs.nil _ _, Below.refl _ _, hB⟩
theorem own2_below {w w1 : World} {base n z : Nat} {e : TypeId} {v : Value} {xs : List Value} (h : w.ownsRow base e z v n xs) (hb : Below w.heap.size w w1) : w1.ownsRow base e z v n xs := by
  refine ⟨h.1, ?_⟩
  rcases h.2 with h | ⟨g, cap, cur, rfl, h3, h4, h5⟩
  · exact .inl h
  · exact .inr ⟨g, cap, cur, rfl, h3, (hb.block g (Array.getElem?_eq_some_iff.1 h4).1).trans h4, h5⟩
theorem RwS.call {B : Nat} {W w' w2 : World} {v : Value} {Q : List (Int × Value)} {l : List (Int × List Int)} (h : RwS B W v Q l w') (hb : Below w'.heap.size w' w2) : RwS B W v Q l w2 :=
  ⟨own2_below h.own hb, h.els.call hb, bcall h.below hb (Nat.le_trans h.le h.below.size), h.le⟩
theorem RwS.alloc {B : Nat} {W w' : World} {v : Value} {Q : List (Int × Value)} {l : List (Int × List Int)} (h : RwS B W v Q l w') (X : Obj) : RwS B W v Q l (w'.alloc X) := h.call ((Below.refl _ _).alloc (Nat.le_refl _) X)
theorem wpAppS {ops : Array Oper} {rest : List Oper} {o : Oper} {a : Act} {Z : Exit → Act → World → Prop} {w W : World} (hgd : o.guard = none) (s x : Operand)
    (ho : o.op = .call { callee := .builtin .append, args := #[s, x], argTypes := #[33, 33] })
    (B : Nat) (v : Value) (Q : List (Int × Value)) (l : List (Int × List Int)) (hs : a.eval s = v) (hr : RwS B W v Q l w)
    (g c : Nat) (code : Int) (pv : Value) (p : List Int) (hx : a.eval x = .slice (some ⟨g, 0, none⟩) 1 c) (h0 : w.cell? ⟨g, 0, none⟩ = some (.int .i64 code)) (h1 : w.cell? ⟨g, 1, none⟩ = some pv) (hp : w.ownsRow B 5 1 pv p.length (p.map (Value.int .u8))) (hlen : Q.length ≤ 1000000000)
    (h : ∀ (v' : Value) (w' : World), Hid (RwS B W v' (Q ++ [(code, pv)]) (l ++ [(code, p)]) w') → wpList Try.prog ops Z rest (a.put o.dst v') w') :
    wpList Try.prog ops Z (o :: rest) a w := by
  obtain ⟨i0, hi, hz0, hz1, hz2⟩ := info_parts infoSg
  obtain ⟨_, sp, mp, rfl, _⟩ := HoldsB.of_own hp
  refine wpList_append_own _ hgd s x 33 ho B 26 i0 (.agg #[.int .i64 0, .slice none 0 0]) 2 32 Try.underlying33 hi hz0 hz1 hz2 rfl (by decide) v Q.length (Q.flatMap sgV) hs hr.own ⟨g, 0, none⟩ 1 c [.int .i64 code, .slice sp p.length mp] hx rfl ?_ ?_ (by unfold maxLen; omega) (by omega) (Nat.le_trans hr.le hr.below.size) ?_
  · intro j u hj
    match j, hj with
    | 0, hj => simp at hj; subst hj; simpa [Addr.add] using h0
    | 1, hj => simp at hj; subst hj; simpa [Addr.add] using h1
  · intro u hu
    simp at hu
    rcases hu with rfl | rfl <;> rfl
  · intro v' w' hown hgrow _
    refine h v' w' (Lib.hid ⟨?_, ?_, ?_, hr.le⟩)
    · have := hown
      rw [List.length_append, List.flatMap_append]
      simpa [sgV] using this
    · have e1 : Sgs w' B Q l := ⟨hr.els.len, fun i h1 h2 => ⟨(hr.els.els i h1 h2).code, own_grown8 (hr.els.els i h1 h2).own hgrow (fun k hk => own_apart (hr.els.els i h1 h2).own hr.own (by decide) k hk)⟩⟩
      exact e1.snoc ⟨rfl, own_grown8 hp hgrow (fun k hk => own_apart hp hr.own (by decide) k hk)⟩
    · exact hr.below.grown hgrow (Nat.le_trans hr.le hr.below.size) (fun k hk => (hr.own.lt k hk).1)
theorem ends_forms (bs : List Int) (a : Int) : (Mk.rdE bs a 2 ≠ 0 ∧ Mk.ends bs a = false) ∨ (Mk.rdE bs a 2 = 0 ∧ Mk.rdV bs a 2 = 65456 ∧ Mk.ends bs a = true) ∨ (Mk.rdE bs a 2 = 0 ∧ Mk.rdV bs a 2 = 65458 ∧ Mk.ends bs a = true) ∨ (Mk.rdE bs a 2 = 0 ∧ Mk.rdV bs a 2 = 65455 ∧ Mk.ends bs a = true) ∨
    (Mk.rdE bs a 2 = 0 ∧ Mk.rdV bs a 2 ≠ 65456 ∧ Mk.rdV bs a 2 ≠ 65458 ∧ Mk.rdV bs a 2 ≠ 65455 ∧ Mk.ends bs a = false) := by
  unfold Mk.ends
  by_cases h0 : Mk.rdE bs a 2 = 0
  · right
    by_cases h1 : Mk.rdV bs a 2 = 65456
    · left; simp [h0, h1]
    · right
      by_cases h2 : Mk.rdV bs a 2 = 65458
      · left; simp [h0, h2]
      · right
        by_cases h3 : Mk.rdV bs a 2 = 65455
        · left; simp [h0, h3]
        · right; simp [h0, h1, h2, h3]
  · left; simp [h0]
theorem ends_c (bs : List Int) (s : Option Addr) (m : Nat) (a : Int) (w : World) (hH : HoldsB w s bs) (hB : Mk.bytes bs) (hm : bs.length ≤ m) (hl2 : m ≤ maxLen) :
    Calls Try.prog 30 #[.slice s bs.length m, .int .i64 a] w fun e w' => e = .returned (.bool (Mk.ends bs a)) ∧ w = w' := by
  have k1 := readUint_c bs s m a 2 w hH hB hm hl2
  rcases ends_forms bs a with ⟨h, e⟩ | ⟨h, h1, e⟩ | ⟨h, h1, e⟩ | ⟨h, h1, e⟩ | ⟨h, h1, h2, h3, e⟩
  · rw [e]; clear e hH hB
    generalize Mk.rdE bs a 2 = E at *
    generalize Mk.rdV bs a 2 = C at *
    have b1 : (E == 0) = false := by simpa using h
    clear h
    go_enter Try.func30, Try.ntmps30
    go_wp2_with (first | (go_at_call 25; (with_reducible refine k1.mono ?_); rintro e wn ⟨rfl, rfl⟩) | fail)
    go_ret
    exact ⟨rfl, rfl⟩
  iterate 3
    · rw [e]; rw [h, h1] at k1; clear e hH hB h h1
      go_enter Try.func30, Try.ntmps30
      go_wp2_with (first | (go_at_call 25; (with_reducible refine k1.mono ?_); rintro e wn ⟨rfl, rfl⟩) | fail)
      go_ret
      exact ⟨rfl, rfl⟩
  · rw [e]; rw [h] at k1; clear e hH hB h
    generalize Mk.rdV bs a 2 = C at *
    have b1 : (C == 65456) = false := by simpa using h1
    have b2 : (C == 65458) = false := by simpa using h2
    have b3 : (C == 65455) = false := by simpa using h3
    clear h1 h2 h3
    go_enter Try.func30, Try.ntmps30
    go_wp2_with (first | (go_at_call 25; (with_reducible refine k1.mono ?_); rintro e wn ⟨rfl, rfl⟩) | fail)
    go_ret
    exact ⟨rfl, rfl⟩
end Go.Proofs.Ytagfmmkhgggfmaa
