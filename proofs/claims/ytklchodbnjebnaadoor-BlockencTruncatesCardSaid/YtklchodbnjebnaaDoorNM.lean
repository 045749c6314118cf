/-
  Layer 15: SameSymbols and SamePasses on equal lists; the chapter's examples.
  Layer 15: blocks that New did not return; the reference's Planes.
-/
import Derived.Test.YtklchodbnjebnaaDoorNL
import Derived.Laws.StructEq
set_option maxRecDepth 100000
namespace Go.Proofs.YtklchodbnjebnaaDoor
open Go.RowKit

def HoldsY (w : World) (s : Option Addr) (l : List Sy) : Prop := l = [] ∨ ∃ b off, s = some ⟨b, off, none⟩ ∧ ∀ k (h : k < l.length), w.cell? ⟨b, off + k * 2, none⟩ = some (.int .i64 l[k].1) ∧ w.cell? ⟨b, off + k * 2 + 1, none⟩ = some (.int .i64 l[k].2)
theorem HoldsY.call {w w1 : World} {s : Option Addr} {l : List Sy} (h : HoldsY w s l) (hb : Below w.heap.size w w1) : HoldsY w1 s l := by
  rcases h with h | ⟨b, off, rfl, hr⟩
  · exact .inl h
  · exact .inr ⟨b, off, rfl, fun k hk => ⟨(hb.cell (p := ⟨b, _, none⟩) (cell_lt (hr k hk).1)).trans (hr k hk).1, (hb.cell (p := ⟨b, _, none⟩) (cell_lt (hr k hk).2)).trans (hr k hk).2⟩⟩
theorem HoldsY.at {w : World} {s : Option Addr} {l : List Sy} (h : HoldsY w s l) {k : Nat} (hk : k < l.length) : ∃ b off, s = some ⟨b, off, none⟩ ∧ w.cell? ⟨b, off + k * 2, none⟩ = some (.int .i64 l[k].1) ∧ w.cell? ⟨b, off + k * 2 + 1, none⟩ = some (.int .i64 l[k].2) := by
  rcases h with rfl | ⟨b, off, rfl, hr⟩
  · simp at hk
  · exact ⟨b, off, rfl, hr k hk⟩
theorem own_holdsY {w : World} {base n m : Nat} {s : Option Addr} {l : List Sy} (h : w.ownsRow base 104 2 (.slice s n m) n (cellsP l)) : n = l.length ∧ HoldsY w s l := by
  have hn : n = l.length := by have := h.1; rw [cellsP_len] at this; omega
  refine ⟨hn, ?_⟩
  rcases h.2 with ⟨_, h0⟩ | ⟨g, cap, cur, he, hb, hg, hc, hm, hs, ht⟩
  · exact .inl (List.length_eq_zero_iff.1 (by omega))
  · simp at he
    obtain ⟨rfl, rfl⟩ := he
    refine .inr ⟨g, 0, rfl, fun k hk => ?_⟩
    obtain ⟨h1, h2⟩ := cellsP_at l k hk
    rw [← ht, List.getElem?_take_of_lt (by omega), Array.getElem?_toList] at h1 h2
    rw [Nat.zero_add]
    exact ⟨by simp [World.cell?, hg, h1], by simp [World.cell?, hg, h2]⟩
/-- A list of lists of symbols. -/
def HoldsZ (w : World) (s : Option Addr) (L : List (List Sy)) : Prop := L = [] ∨ ∃ b off, s = some ⟨b, off, none⟩ ∧ ∀ k (h : k < L.length), ∃ sk mk, w.cell? ⟨b, off + k, none⟩ = some (.slice sk L[k].length mk) ∧ HoldsY w sk L[k]
theorem HoldsZ.call {w w1 : World} {s : Option Addr} {L : List (List Sy)} (h : HoldsZ w s L) (hb : Below w.heap.size w w1) : HoldsZ w1 s L := by
  rcases h with h | ⟨b, off, rfl, hr⟩
  · exact .inl h
  · exact .inr ⟨b, off, rfl, fun k hk => (hr k hk).elim fun sk z => z.elim fun mk z => ⟨sk, mk, (hb.cell (p := ⟨b, _, none⟩) (cell_lt z.1)).trans z.1, z.2.call hb⟩⟩
theorem HoldsZ.at {w : World} {s : Option Addr} {L : List (List Sy)} (h : HoldsZ w s L) {k : Nat} (hk : k < L.length) : ∃ b off sk mk, s = some ⟨b, off, none⟩ ∧ w.cell? ⟨b, off + k, none⟩ = some (.slice sk L[k].length mk) ∧ HoldsY w sk L[k] := by
  rcases h with rfl | ⟨b, off, rfl, hr⟩
  · simp at hk
  · obtain ⟨sk, mk, z⟩ := hr k hk
    exact ⟨b, off, sk, mk, rfl, z⟩
theorem ss_holds {w W : World} {v : Value} {L : List (List Sy)} (H : SsAt w W v L) : ∃ s m, v = .slice s L.length m ∧ HoldsZ W s L := by
  obtain ⟨vs, h1, h2, h3⟩ := H.ex
  obtain ⟨s, m, rfl⟩ := own_slice h2
  refine ⟨s, m, rfl, ?_⟩
  rcases Nat.eq_zero_or_pos L.length with h0 | hp
  · exact .inl (List.length_eq_zero_iff.1 h0)
  · obtain ⟨g, rfl, _⟩ := own_at h2 0 hp
    refine .inr ⟨g, 0, rfl, fun k hk => ?_⟩
    obtain ⟨g', e, hc, _⟩ := own_at h2 k hk
    cases e
    have hv := h3 k (by omega) hk
    obtain ⟨sk, mk, e⟩ := own2_slice hv
    rw [e] at hv
    refine ⟨sk, mk, ?_, (own_holdsY hv).2⟩
    rw [Nat.zero_add, hc, List.getElem?_eq_getElem (by omega), e]
theorem fieldsSy : (Tryd.prog.fieldsOf 104).toList = [⟨"Context", 3, 0, false, "", "", 0⟩, ⟨"Bit", 3, 1, false, "", "", 8⟩] := by kernel_rfl
theorem eqSy (a b : Int) (w : World) : (Op.equalIn 10000 104 (.agg #[.int .i64 a, .int .i64 b]) (.agg #[.int .i64 a, .int .i64 b])).run Tryd.prog w = .ok true w := by
  have hu : Tryd.prog.underlying 104 = some (.struct (Tryd.prog.fieldsOf 104)) := by kernel_rfl
  have hp : Tryd.prog.stoodInHeld 104 = false := by kernel_rfl
  have h3 : Tryd.prog.underlying 3 = some (.int .i64) := by kernel_rfl
  have he := fun (x y : Int) => run_equalIn_int (P := Tryd.prog) w 9998 3 .i64 .i64 x y h3
  rw [run_equalIn_struct _ _ _ _ _ hu hp, fieldsSy]
  simp only [Op.eqFields, part]
  simp [he]
def exL : List (List Sy) := [[(17, 1), (18, 1), (18, 0), (9, 0), (3, 0)], [(3, 0), (3, 1), (10, 0)], [(15, 1)], [(0, 0)]]
def mo0 : Mo := ⟨false, false, false, false, false⟩
theorem exP : plnN [0, 0, 3, 1] = 2 ∧ plnN [0, 0] = 0 ∧ plnN [5, -8] = 4 := by decide +kernel
theorem exS : symL 1 4 ((2 : Nat) : Int) 0 mo0 (setV 1 4 [0, 0, 3, 1] 4) 4 = exL := by decide +kernel
theorem pair_new (w : World) (l : List Sy) (cs : Array Value) (hcs : cs = (cellsP l).toArray) : HoldsY (w.alloc (.cells cs 104)) (some ⟨w.heap.size, 0, none⟩) l := by
  subst hcs
  refine .inr ⟨_, 0, rfl, fun k hk => ?_⟩
  obtain ⟨h1, h2⟩ := cellsP_at l k hk
  have hb := Blk.new w 104 (cellsP l).toArray
  rw [Nat.zero_add]
  exact ⟨(hb.cell _).trans (by simpa using h1), (hb.cell _).trans (by simpa using h2)⟩
/-- The chapter's list, laid by the law. -/
def exW (w : World) : World := ((((w.alloc (.cells #[.int .i64 17, .int .i64 1, .int .i64 18, .int .i64 1, .int .i64 18, .int .i64 0, .int .i64 9, .int .i64 0, .int .i64 3, .int .i64 0] 104)).alloc (.cells #[.int .i64 3, .int .i64 0, .int .i64 3, .int .i64 1, .int .i64 10, .int .i64 0] 104)).alloc (.cells #[.int .i64 15, .int .i64 1] 104)).alloc (.cells #[.int .i64 0, .int .i64 0] 104)).alloc (.cells #[.slice (some ⟨w.heap.size, 0, none⟩) 5 5, .slice (some ⟨w.heap.size + 1, 0, none⟩) 3 3, .slice (some ⟨w.heap.size + 1 + 1, 0, none⟩) 1 1, .slice (some ⟨w.heap.size + 1 + 1 + 1, 0, none⟩) 1 1] 68)
theorem exW_holds (w : World) : HoldsZ (exW w) (some ⟨w.heap.size + 1 + 1 + 1 + 1, 0, none⟩) exL ∧ Below w.heap.size w (exW w) := by
  obtain ⟨w1, h1⟩ : ∃ x, x = w.alloc (.cells #[.int .i64 17, .int .i64 1, .int .i64 18, .int .i64 1, .int .i64 18, .int .i64 0, .int .i64 9, .int .i64 0, .int .i64 3, .int .i64 0] 104) := ⟨_, rfl⟩
  obtain ⟨w2, h2⟩ : ∃ x, x = w1.alloc (.cells #[.int .i64 3, .int .i64 0, .int .i64 3, .int .i64 1, .int .i64 10, .int .i64 0] 104) := ⟨_, rfl⟩
  obtain ⟨w3, h3⟩ : ∃ x, x = w2.alloc (.cells #[.int .i64 15, .int .i64 1] 104) := ⟨_, rfl⟩
  obtain ⟨w4, h4⟩ : ∃ x, x = w3.alloc (.cells #[.int .i64 0, .int .i64 0] 104) := ⟨_, rfl⟩
  obtain ⟨w5, h5⟩ : ∃ x, x = w4.alloc (.cells #[.slice (some ⟨w.heap.size, 0, none⟩) 5 5, .slice (some ⟨w.heap.size + 1, 0, none⟩) 3 3, .slice (some ⟨w.heap.size + 2, 0, none⟩) 1 1, .slice (some ⟨w.heap.size + 3, 0, none⟩) 1 1] 68) := ⟨_, rfl⟩
  have e : exW w = w5 := by rw [h5, h4, h3, h2, h1]; rfl
  have z1 : w1.heap.size = w.heap.size + 1 := by rw [h1, alloc_size]
  have z2 : w2.heap.size = w.heap.size + 2 := by rw [h2, alloc_size, z1]
  have z3 : w3.heap.size = w.heap.size + 3 := by rw [h3, alloc_size, z2]
  have z4 : w4.heap.size = w.heap.size + 4 := by rw [h4, alloc_size, z3]
  have b1 : Below w.heap.size w w1 := by rw [h1]; exact below_alloc (Below.refl _ _) _
  have b2 : Below w1.heap.size w1 w2 := by rw [h2]; exact below_alloc (Below.refl _ _) _
  have b3 : Below w2.heap.size w2 w3 := by rw [h3]; exact below_alloc (Below.refl _ _) _
  have b4 : Below w3.heap.size w3 w4 := by rw [h4]; exact below_alloc (Below.refl _ _) _
  have b5 : Below w4.heap.size w4 w5 := by rw [h5]; exact below_alloc (Below.refl _ _) _
  have y1 : HoldsY w1 (some ⟨w.heap.size, 0, none⟩) [(17, 1), (18, 1), (18, 0), (9, 0), (3, 0)] := by rw [h1]; exact pair_new w _ _ rfl
  have y2 : HoldsY w2 (some ⟨w.heap.size + 1, 0, none⟩) [(3, 0), (3, 1), (10, 0)] := by rw [h2, ← z1]; exact pair_new w1 _ _ rfl
  have y3 : HoldsY w3 (some ⟨w.heap.size + 2, 0, none⟩) [(15, 1)] := by rw [h3, ← z2]; exact pair_new w2 _ _ rfl
  have y4 : HoldsY w4 (some ⟨w.heap.size + 3, 0, none⟩) [(0, 0)] := by rw [h4, ← z3]; exact pair_new w3 _ _ rfl
  have hb : Blk w5 (w.heap.size + 4) 68 #[.slice (some ⟨w.heap.size, 0, none⟩) 5 5, .slice (some ⟨w.heap.size + 1, 0, none⟩) 3 3, .slice (some ⟨w.heap.size + 2, 0, none⟩) 1 1, .slice (some ⟨w.heap.size + 3, 0, none⟩) 1 1] := by rw [h5, ← z4]; exact Blk.new _ _ _
  rw [e]
  refine ⟨.inr ⟨_, 0, rfl, fun k hk => ?_⟩, below_call (below_call (below_call (below_call b1 b2) b3) b4) b5⟩
  have hk4 : k < 4 := hk
  match k, hk4 with
  | 0, _ => exact ⟨_, _, hb.cell 0, (((y1.call b2).call b3).call b4).call b5⟩
  | 1, _ => exact ⟨_, _, hb.cell 1, ((y2.call b3).call b4).call b5⟩
  | 2, _ => exact ⟨_, _, hb.cell 2, (y3.call b4).call b5⟩
  | 3, _ => exact ⟨_, _, hb.cell 3, y4.call b5⟩
instance (a : Int) : Decidable (i64R a) := by unfold i64R; infer_instance
theorem ss_holdsn {w W : World} {v : Value} {L : List (List Sy)} (n : Nat) (hn : L.length = n) (H : SsAt w W v L) : ∃ s m, v = .slice s n m ∧ HoldsZ W s L := by subst hn; exact ss_holds H
end Go.Proofs.YtklchodbnjebnaaDoor
set_option maxRecDepth 100000
namespace Go.Proofs.YtklchodbnjebnaaDoor
open Go.RowKit

/-- A block that made refuses, in all later worlds. -/
def NoB (p : Option Addr) (w : World) : Prop := ∀ W, Below w.heap.size w W → Calls Tryd.prog 62 #[.pointer p] W fun e w' => e = .returned (.bool false) ∧ W = w'
theorem NoB.step {p : Option Addr} {w w1 : World} (h : NoB p w) (hb : Below w.heap.size w w1) : NoB p w1 := fun W hW => h W (below_call hb hW)
theorem noB_nil (w : World) : NoB none w := fun W _ => made_n W
theorem noB_zero {w : World} {a : Nat} (h : w.cell? ⟨a, 6, none⟩ = some (.pointer none)) : NoB (some ⟨a, 0, none⟩) w := fun W hb => made_z a W ((hb.cell (p := ⟨a, 6, none⟩) (cell_lt h)).trans h)
section
variable {p : Option Addr} {W : World}
theorem nsize (h : NoB p W) : Calls Tryd.prog 55 #[.pointer p] W fun e w' => e = .returned (.tuple #[.int .i64 0, .int .i64 0]) ∧ W = w' := by
  have m := h W (Below.refl _ _)
  go_enter Tryd.func55, Tryd.ntmps55
  go_wp2_with (first | (go_at_call 62; (with_reducible refine m.mono ?_); rintro e wn ⟨rfl, rfl⟩))
  go_ret2
  exact ⟨rfl, rfl⟩
end
theorem check_n {p : Option Addr} {W : World} (h : NoB p W) (pass planes o : Int) : Calls Tryd.prog 45 #[.pointer p, .int .i64 pass, .int .i64 planes, .int .i64 o] W fun e w' => e = .returned (.int .i64 6) ∧ W = w' := by
  have ks := nsize h
  clear h
  go_enter Tryd.func45, Tryd.ntmps45
  go_wp2_with (first | (go_at_call 55; (with_reducible refine ks.mono ?_); rintro e wa ⟨rfl, rfl⟩))
  go_ret
  exact ⟨rfl, rfl⟩
theorem run_n {p : Option Addr} {W : World} (h : NoB p W) (pass planes o : Int) (m : Mo) : Calls Tryd.prog 33 #[.pointer p, .int .i64 pass, .int .i64 planes, .int .i64 o, m.val] W fun e w' => e = .returned (.tuple #[.slice none 0 0, .int .i64 6]) ∧ Below W.heap.size W w' := by
  unfold Mo.val
  have hM := below_alloc (Below.refl _ W) (.cells #[.bool m.b, .bool m.r, .bool m.s, .bool m.c, .bool m.y] 27)
  have kc := check_n (h.step hM) pass planes o
  have HM := Lib.hid hM
  clear h hM
  go_enter Tryd.func33, Tryd.ntmps33
  go_wp2_with (first | (go_at_call 45; (with_reducible refine kc.mono ?_); rintro e wa ⟨rfl, rfl⟩))
  go_ret2
  exact ⟨rfl, HM.out⟩
theorem aux_iff (f x n : Nat) (h : x < 2 ^ f) : Lib.bitLenAux f x ≤ n ↔ x < 2 ^ n := by
  induction f generalizing x n with
  | zero =>
    have : x = 0 := by simpa using h
    subst this
    simp [Lib.bitLenAux]
    exact Nat.two_pow_pos n
  | succ f ih =>
    unfold Lib.bitLenAux
    by_cases hx : x = 0
    · subst hx
      rw [if_pos rfl]
      simp
      exact Nat.two_pow_pos n
    · rw [if_neg hx]
      cases n with
      | zero => simp; omega
      | succ n =>
        have h2 : x / 2 < 2 ^ f := by rw [Nat.pow_succ] at h; omega
        have := ih (x / 2) n h2
        rw [Nat.pow_succ]
        omega
theorem bit_iff (x n : Nat) (h : x < 2 ^ 64) : Lib.bitLen x ≤ n ↔ x < 2 ^ n := aux_iff 64 x n h
theorem bit_max (x y : Nat) (hx : x < 2 ^ 64) (hy : y < 2 ^ 64) : Lib.bitLen (max x y) = max (Lib.bitLen x) (Lib.bitLen y) := by
  have hm : max x y < 2 ^ 64 := by omega
  have h1 := fun n => bit_iff x n hx
  have h2 := fun n => bit_iff y n hy
  have h3 := fun n => bit_iff (max x y) n hm
  have a1 := (h1 (Lib.bitLen (max x y))).2 (by have := (h3 _).1 (Nat.le_refl _); omega)
  have a2 := (h2 (Lib.bitLen (max x y))).2 (by have := (h3 _).1 (Nat.le_refl _); omega)
  have a3 := (h3 (max (Lib.bitLen x) (Lib.bitLen y))).2 (by
    have b1 := (h1 (max (Lib.bitLen x) (Lib.bitLen y))).1 (by omega)
    have b2 := (h2 (max (Lib.bitLen x) (Lib.bitLen y))).1 (by omega)
    omega)
  omega
theorem bit_le64 (x : Nat) (h : x < 2 ^ 64) : Lib.bitLen x ≤ 64 := (bit_iff x 64 h).2 h
end Go.Proofs.YtklchodbnjebnaaDoor
