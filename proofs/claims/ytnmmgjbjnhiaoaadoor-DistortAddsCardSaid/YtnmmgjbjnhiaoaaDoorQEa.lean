/-
  Layer 11: Adapt, isBit; the probabilities of a coder: has, zeros, adapt, reset.
-/
import Derived.Test.YtnmmgjbjnhiaoaaDoorQTb
set_option maxRecDepth 100000
namespace Go.Proofs.YtnmmgjbjnhiaoaaDoor
open Go.RowKit

def bitB1 (b : Int) : Bool := decide (b = 0 ∨ b = 1)
theorem isBit_c (b : Int) (w : World) : Calls Tryd.prog 132 #[.int .i64 b] w fun e w' => e = .returned (.bool (bitB1 b)) ∧ w = w' := by
  by_cases h0 : b = 0
  · subst h0
    go_enter Tryd.func132, Tryd.ntmps132
    go_wp2_with fail
    go_ret
    exact ⟨rfl, rfl⟩
  · by_cases h1 : b = 1
    · subst h1
      go_enter Tryd.func132, Tryd.ntmps132
      go_wp2_with fail
      go_ret
      exact ⟨rfl, rfl⟩
    · have hf : Hid (bitB1 b = false) := by show _ = _; simp [bitB1, h0, h1]
      have h0' : (b == 0) = false := by simpa using h0
      have h1' : (b == 1) = false := by simpa using h1
      clear h0 h1
      go_enter Tryd.func132, Tryd.ntmps132
      go_wp2_with fail
      go_ret
      exact ⟨by rw [hf.out]; rfl, rfl⟩
/-- What Adapt returns. -/
def adF (p b : Int) : Int := if p < 0 ∨ 4096 < p then 0 else if b = 0 then p + (4096 - p) / 32 else if b = 1 then p - p / 32 else 0
theorem adF_adp {p b : Int} (hp : Am.prob p) (hb : b = 0 ∨ b = 1) : adF p b = Am.adp p b := by
  unfold Am.prob at hp
  unfold adF Am.adp
  rw [if_neg (by omega)]
  rcases hb with rfl | rfl <;> simp
theorem adapt_c (p b : Int) (w : World) : Calls Tryd.prog 131 #[.int .i64 p, .int .i64 b] w fun e w' => e = .returned (.int .i64 (adF p b)) ∧ w = w' := by
  have hi := isBit_c b
  by_cases h0 : p < 0
  · have hf : Hid (adF p b = 0) := by show _ = _; simp [adF, h0]
    go_enter Tryd.func131, Tryd.ntmps131
    go_wp2_with fail
    go_ret
    exact ⟨by rw [hf.out]; rfl, rfl⟩
  by_cases h1 : 4096 < p
  · have hf : Hid (adF p b = 0) := by show _ = _; simp [adF, h1]
    go_enter Tryd.func131, Tryd.ntmps131
    go_wp2_with fail
    go_ret
    exact ⟨by rw [hf.out]; rfl, rfl⟩
  by_cases hb0 : b = 0
  · subst hb0
    have hf : Hid (adF p 0 = p + (4096 - p) / 32) := by show _ = _; unfold adF; rw [if_neg (by omega), if_pos rfl]
    rw [show bitB1 0 = true by decide] at hi
    go_enter Tryd.func131, Tryd.ntmps131
    go_wp2_with (first | (go_at_call 132; (with_reducible refine (hi _).mono ?_); rintro e wn ⟨rfl, rfl⟩))
    go_ret
    exact ⟨by rw [hf.out]; rfl, rfl⟩
  by_cases hb1 : b = 1
  · subst hb1
    have hf : Hid (adF p 1 = p - p / 32) := by show _ = _; unfold adF; rw [if_neg (by omega), if_neg (by decide), if_pos rfl]
    rw [show bitB1 1 = true by decide] at hi
    go_enter Tryd.func131, Tryd.ntmps131
    go_wp2_with (first | (go_at_call 132; (with_reducible refine (hi _).mono ?_); rintro e wn ⟨rfl, rfl⟩))
    go_ret
    exact ⟨by rw [hf.out]; rfl, rfl⟩
  · have hf : Hid (adF p b = 0) := by show _ = _; simp [adF, hb0, hb1]
    rw [show bitB1 b = false by simp [bitB1, hb0, hb1]] at hi
    clear hb0 hb1
    go_enter Tryd.func131, Tryd.ntmps131
    go_wp2_with (first | (go_at_call 132; (with_reducible refine (hi _).mono ?_); rintro e wn ⟨rfl, rfl⟩))
    go_ret
    exact ⟨by rw [hf.out]; rfl, rfl⟩
def hasB (n : Nat) (c : Int) : Bool := decide (0 ≤ c ∧ c < n)
theorem has_c (w : World) (a : Nat) (s : Option Addr) (n m : Nat) (c : Int) (c0 : w.cell? ⟨a, 0, none⟩ = some (.slice s n m)) : Calls Tryd.prog 128 #[.pointer (some ⟨a, 0, none⟩), .int .i64 c] w fun e w' => e = .returned (.bool (hasB n c)) ∧ w = w' := by
  by_cases h0 : 0 ≤ c
  · have hf : Hid (hasB n c = decide (c < (n : Int))) := by show _ = _; simp [hasB, h0]
    go_enter Tryd.func128, Tryd.ntmps128
    go_wp2_with fail
    go_ret
    exact ⟨by rw [hf.out]; rfl, rfl⟩
  · have hf : Hid (hasB n c = false) := by show _ = _; simp [hasB, h0]
    have h1 : c < 0 := by omega
    clear h0
    go_enter Tryd.func128, Tryd.ntmps128
    go_wp2_with fail
    go_ret
    exact ⟨by rw [hf.out]; rfl, rfl⟩
/-- The row of probabilities behind a slice. -/
theorem own_i {w : World} {B n : Nat} {v : Value} {P : List Int} (h : w.ownsRow B 3 1 v n (P.map (Value.int .i64))) : n = P.length := by have := h.1; simpa using this.symm
theorem zeros_c (w : World) (a g k : Nat) (n m : Nat) (p rg : Int) (c0 : w.cell? ⟨a, 0, none⟩ = some (.slice (some ⟨g, 0, none⟩) n m)) (hk : k < n) (hc : w.cell? ⟨g, k, none⟩ = some (.int .i64 p)) (hp : Am.prob p) (hr0 : 0 ≤ rg) (hr : rg ≤ 4294967295) :
    Calls Tryd.prog 129 #[.pointer (some ⟨a, 0, none⟩), .int .i64 (k : Int), .int .u64 rg] w fun e w' => e = .returned (.int .u64 (rg / 4096 * p)) ∧ w = w' := by
  have hp2 : 31 ≤ p ∧ p ≤ 4065 := hp
  have hq : 0 ≤ rg / 4096 ∧ rg / 4096 ≤ 1048575 := by omega
  have m1 : 0 ≤ rg / 4096 * p := Int.mul_nonneg hq.1 (by omega)
  have m2 : rg / 4096 * p ≤ 1048575 * 4065 := Int.mul_le_mul hq.2 hp2.2 (by omega) (by omega)
  have e1 : IntKind.u64.wrap (rg / 4096 * p) = rg / 4096 * p := by rw [IntKind.wrap_u64]; omega
  have hk2 : (k : Int) < (n : Int) := by omega
  go_enter Tryd.func129, Tryd.ntmps129
  go_wp2_with fail
  go_ret
  exact ⟨rfl, rfl⟩
/-- adapt: one cell of the row of probabilities. -/
theorem madapt_c (w : World) (a g k n m : Nat) (p b : Int) (c0 : w.cell? ⟨a, 0, none⟩ = some (.slice (some ⟨g, 0, none⟩) n m)) (hk : k < n) (hc : w.cell? ⟨g, k, none⟩ = some (.int .i64 p)) (hf : ∀ j, w.frozen? ⟨g, j, none⟩ = false) (hp : Am.prob p) (hb : b = 0 ∨ b = 1) (hn : n ≤ 64) :
    Calls Tryd.prog 130 #[.pointer (some ⟨a, 0, none⟩), .int .i64 (k : Int), .int .i64 b] w fun e w' => e = .returned (.tuple #[]) ∧ w' = (w.setCell ⟨g, k, none⟩ (.int .i64 (Am.adp p b))).drew := by
  have ha := fun W => adapt_c p b W
  rw [adF_adp hp hb] at ha
  generalize Am.adp p b = q at *
  have hk2 : (k : Int) < (n : Int) := by omega
  have hk0 : (0 : Int) ≤ (k : Int) := by omega
  have e6 : IntKind.i64.wrap (k : Int) = (k : Int) := IntWalk.i64_in _ (by omega)
  clear hp hb
  go_enter Tryd.func130, Tryd.ntmps130
  go_wp2_with fail
  go_region_law (first | (go_simp; go_at_call 131; (with_reducible refine (ha _).mono ?_); rintro e wn ⟨rfl, rfl⟩; go_wp2_with fail) | fail)
  all_goals
    go_wp2_with fail
    go_end0
    exact ⟨rfl, rfl⟩
/-- All blocks but one are as they were. -/
def Same1 (g : Nat) (w w' : World) : Prop := ∀ k, k ≠ g → w'.heap[k]? = w.heap[k]?
/-- reset: all probabilities are 2048. -/
theorem mreset_c (w : World) (B a g m n : Nat) (T : TypeId) (cs : Array Value) (P : List Int) (h : Core w B a T cs) (h0 : cs[0]? = some (.slice (some ⟨g, 0, none⟩) n m)) (ho : w.ownsRow B 3 1 (.slice (some ⟨g, 0, none⟩) n m) n (P.map (Value.int .i64))) (hn : n ≤ 64) :
    Calls Tryd.prog 79 #[.pointer (some ⟨a, 0, none⟩)] w fun e w' => e = .returned (.tuple #[]) ∧ Core w' B a T cs ∧ w'.ownsRow B 3 1 (.slice (some ⟨g, 0, none⟩) n m) n ((List.replicate n (2048 : Int)).map (Value.int .i64)) ∧ Kp a w w' ∧ Same1 g w w' := by
  have hPn := own_i ho
  have c0 : w.cell? ⟨a, 0, none⟩ = some (.slice (some ⟨g, 0, none⟩) n m) := (h.blk.cell 0).trans h0
  have hI : Hid (Core w B a T cs ∧ w.ownsRow B 3 1 (.slice (some ⟨g, 0, none⟩) n m) n ((List.replicate 0 (2048 : Int) ++ P.drop 0).map (Value.int .i64)) ∧ Kp a w w ∧ Same1 g w w) := ⟨h, by simpa using ho, Kp.refl _ _, fun _ _ => rfl⟩
  have H0 := Lib.hid h0
  have HP := Lib.hid hPn
  clear h ho hPn h0
  go_enter Tryd.func79, Tryd.ntmps79
  go_wp2_with fail
  go_loopw [8] (fun i wr => ∃ k : Nat, k ≤ n ∧ i = .int .i64 (k : Int) ∧ Hid (Core wr B a T cs ∧ wr.ownsRow B 3 1 (.slice (some ⟨g, 0, none⟩) n m) n ((List.replicate k (2048 : Int) ++ P.drop k).map (Value.int .i64)) ∧ Kp a w wr ∧ Same1 g w wr)) (fun i _ => n - (intOf i).toNat)
  case atStart => exact ⟨0, Nat.zero_le _, rfl, hI⟩
  case round =>
    obtain ⟨k, hk, rfl, hT⟩ := hrel
    by_cases hlt : k < n
    · have d0 : wr.cell? ⟨a, 0, none⟩ = some (.slice (some ⟨g, 0, none⟩) n m) := (hT.out.1.blk.cell 0).trans H0.out
      obtain ⟨g', he, hg, hf, _, _⟩ := own_at hT.out.2.1 k hlt
      obtain rfl : g = g' := by simpa using he
      have hlen : ((List.replicate k (2048 : Int) ++ P.drop k).map (Value.int .i64)).length = n := by simp; have := HP.out; omega
      obtain ⟨x, hx⟩ : ∃ x, ((List.replicate k (2048 : Int) ++ P.drop k).map (Value.int .i64))[k]? = some x := ⟨_, List.getElem?_eq_getElem (by omega)⟩
      rw [hx] at hg
      clear hx hlen he c0
      go_wp2_with fail
      go_roundw
      case rel =>
        have R := hT.out.1.row H0.out rfl k (.int .i64 2048)
        refine ⟨k + 1, by omega, by go_num, R.1, ?_, hT.out.2.2.1.trans R.2, fun j hj => (Below.heap_setCell _ _ _ _ hj).trans (hT.out.2.2.2 j hj)⟩
        have O := own_put hT.out.2.1 k (.int .i64 2048)
        have e : ((List.replicate k (2048 : Int) ++ P.drop k).map (Value.int .i64)).set k (.int .i64 2048) = (List.replicate (k + 1) (2048 : Int) ++ P.drop (k + 1)).map (Value.int .i64) := by
          have hd : P.drop k = P[k]'(by have := HP.out; omega) :: P.drop (k + 1) := List.drop_eq_getElem_cons (by have := HP.out; omega)
          rw [hd, List.replicate_succ', List.map_append, List.set_append_right _ _ (by simp), List.map_append, List.map_append, List.length_map, List.length_replicate, Nat.sub_self, List.map_cons, List.set_cons_zero, List.append_assoc]
          rfl
        rw [e] at O
        exact O
      case measure => simp [intOf]; omega
    · obtain rfl : k = n := by omega
      go_wp2_with fail
      go_end0
      refine ⟨rfl, hT.out.1, ?_, hT.out.2.2⟩
      have := hT.out.2.1
      rw [List.drop_of_length_le (by have := HP.out; omega), List.append_nil] at this
      exact this
end Go.Proofs.YtnmmgjbjnhiaoaaDoor
