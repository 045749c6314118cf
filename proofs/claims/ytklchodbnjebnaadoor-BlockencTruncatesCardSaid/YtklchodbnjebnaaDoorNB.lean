/-
  Layer 11: Adapt, isBit; the probabilities of a coder: has, zeros, adapt, reset.
  Layer 11: newModel, NewEncoder, NewDecoder; made, begin, Probability, Reset of the code.
  Layer 11, the code's encoder: its cells; begin, NewEncoder, Probability, Size, Reset, raise.
  Layer 11, the code's encoder: raise, Encode.
-/
import Derived.Test.YtklchodbnjebnaaDoorNA
set_option maxRecDepth 100000
namespace Go.Proofs.YtklchodbnjebnaaDoor
open Go.RowKit

def bitB1 (b : Int) : Bool := decide (b = 0 ∨ b = 1)
theorem isBit_c (b : Int) (w : World) : Calls Tryd.prog 134 #[.int .i64 b] w fun e w' => e = .returned (.bool (bitB1 b)) ∧ w = w' := by
  by_cases h0 : b = 0
  · subst h0
    go_enter Tryd.func134, Tryd.ntmps134
    go_wp2_with fail
    go_ret
    exact ⟨rfl, rfl⟩
  · by_cases h1 : b = 1
    · subst h1
      go_enter Tryd.func134, Tryd.ntmps134
      go_wp2_with fail
      go_ret
      exact ⟨rfl, rfl⟩
    · have hf : Hid (bitB1 b = false) := by show _ = _; simp [bitB1, h0, h1]
      have h0' : (b == 0) = false := by simpa using h0
      have h1' : (b == 1) = false := by simpa using h1
      clear h0 h1
      go_enter Tryd.func134, Tryd.ntmps134
      go_wp2_with fail
      go_ret
      exact ⟨by rw [hf.out]; rfl, rfl⟩
/-- What Adapt returns. -/
def adF (p b : Int) : Int := if p < 0 ∨ 4096 < p then 0 else if b = 0 then p + (4096 - p) / 32 else if b = 1 then p - p / 32 else 0
theorem adF_adp {p b : Int} (hp : Am.prob p) (hb : b = 0 ∨ b = 1) : adF p b = Am.adp p b := by
  unfold Am.prob at hp
  unfold adF Am.adp
  rw [if_neg (by omega)]
  rcases hb with rfl | rfl <;> simp
theorem adapt_c (p b : Int) (w : World) : Calls Tryd.prog 137 #[.int .i64 p, .int .i64 b] w fun e w' => e = .returned (.int .i64 (adF p b)) ∧ w = w' := by
  have hi := isBit_c b
  by_cases h0 : p < 0
  · have hf : Hid (adF p b = 0) := by show _ = _; simp [adF, h0]
    go_enter Tryd.func137, Tryd.ntmps137
    go_wp2_with fail
    go_ret
    exact ⟨by rw [hf.out]; rfl, rfl⟩
  by_cases h1 : 4096 < p
  · have hf : Hid (adF p b = 0) := by show _ = _; simp [adF, h1]
    go_enter Tryd.func137, Tryd.ntmps137
    go_wp2_with fail
    go_ret
    exact ⟨by rw [hf.out]; rfl, rfl⟩
  by_cases hb0 : b = 0
  · subst hb0
    have hf : Hid (adF p 0 = p + (4096 - p) / 32) := by show _ = _; unfold adF; rw [if_neg (by omega), if_pos rfl]
    rw [show bitB1 0 = true by decide] at hi
    go_enter Tryd.func137, Tryd.ntmps137
    go_wp2_with (first | (go_at_call 134; (with_reducible refine (hi _).mono ?_); rintro e wn ⟨rfl, rfl⟩))
    go_ret
    exact ⟨by rw [hf.out]; rfl, rfl⟩
  by_cases hb1 : b = 1
  · subst hb1
    have hf : Hid (adF p 1 = p - p / 32) := by show _ = _; unfold adF; rw [if_neg (by omega), if_neg (by decide), if_pos rfl]
    rw [show bitB1 1 = true by decide] at hi
    go_enter Tryd.func137, Tryd.ntmps137
    go_wp2_with (first | (go_at_call 134; (with_reducible refine (hi _).mono ?_); rintro e wn ⟨rfl, rfl⟩))
    go_ret
    exact ⟨by rw [hf.out]; rfl, rfl⟩
  · have hf : Hid (adF p b = 0) := by show _ = _; simp [adF, hb0, hb1]
    rw [show bitB1 b = false by simp [bitB1, hb0, hb1]] at hi
    clear hb0 hb1
    go_enter Tryd.func137, Tryd.ntmps137
    go_wp2_with (first | (go_at_call 134; (with_reducible refine (hi _).mono ?_); rintro e wn ⟨rfl, rfl⟩))
    go_ret
    exact ⟨by rw [hf.out]; rfl, rfl⟩
def hasB (n : Nat) (c : Int) : Bool := decide (0 ≤ c ∧ c < n)
theorem has_c (w : World) (a : Nat) (s : Option Addr) (n m : Nat) (c : Int) (c0 : w.cell? ⟨a, 0, none⟩ = some (.slice s n m)) : Calls Tryd.prog 133 #[.pointer (some ⟨a, 0, none⟩), .int .i64 c] w fun e w' => e = .returned (.bool (hasB n c)) ∧ w = w' := by
  by_cases h0 : 0 ≤ c
  · have hf : Hid (hasB n c = decide (c < (n : Int))) := by show _ = _; simp [hasB, h0]
    go_enter Tryd.func133, Tryd.ntmps133
    go_wp2_with fail
    go_ret
    exact ⟨by rw [hf.out]; rfl, rfl⟩
  · have hf : Hid (hasB n c = false) := by show _ = _; simp [hasB, h0]
    have h1 : c < 0 := by omega
    clear h0
    go_enter Tryd.func133, Tryd.ntmps133
    go_wp2_with fail
    go_ret
    exact ⟨by rw [hf.out]; rfl, rfl⟩
/-- The row of probabilities behind a slice. -/
theorem own_i {w : World} {B n : Nat} {v : Value} {P : List Int} (h : w.ownsRow B 3 1 v n (P.map (Value.int .i64))) : n = P.length := by have := h.1; simpa using this.symm
theorem zeros_c (w : World) (a g k : Nat) (n m : Nat) (p rg : Int) (c0 : w.cell? ⟨a, 0, none⟩ = some (.slice (some ⟨g, 0, none⟩) n m)) (hk : k < n) (hc : w.cell? ⟨g, k, none⟩ = some (.int .i64 p)) (hp : Am.prob p) (hr0 : 0 ≤ rg) (hr : rg ≤ 4294967295) :
    Calls Tryd.prog 135 #[.pointer (some ⟨a, 0, none⟩), .int .i64 (k : Int), .int .u64 rg] w fun e w' => e = .returned (.int .u64 (rg / 4096 * p)) ∧ w = w' := by
  have hp2 : 31 ≤ p ∧ p ≤ 4065 := hp
  have hq : 0 ≤ rg / 4096 ∧ rg / 4096 ≤ 1048575 := by omega
  have m1 : 0 ≤ rg / 4096 * p := Int.mul_nonneg hq.1 (by omega)
  have m2 : rg / 4096 * p ≤ 1048575 * 4065 := Int.mul_le_mul hq.2 hp2.2 (by omega) (by omega)
  have e1 : IntKind.u64.wrap (rg / 4096 * p) = rg / 4096 * p := by rw [IntKind.wrap_u64]; omega
  have hk2 : (k : Int) < (n : Int) := by omega
  go_enter Tryd.func135, Tryd.ntmps135
  go_wp2_with fail
  go_ret
  exact ⟨rfl, rfl⟩
/-- adapt: one cell of the row of probabilities. -/
theorem madapt_c (w : World) (a g k n m : Nat) (p b : Int) (c0 : w.cell? ⟨a, 0, none⟩ = some (.slice (some ⟨g, 0, none⟩) n m)) (hk : k < n) (hc : w.cell? ⟨g, k, none⟩ = some (.int .i64 p)) (hf : ∀ j, w.frozen? ⟨g, j, none⟩ = false) (hp : Am.prob p) (hb : b = 0 ∨ b = 1) (hn : n ≤ 64) :
    Calls Tryd.prog 136 #[.pointer (some ⟨a, 0, none⟩), .int .i64 (k : Int), .int .i64 b] w fun e w' => e = .returned (.tuple #[]) ∧ w' = (w.setCell ⟨g, k, none⟩ (.int .i64 (Am.adp p b))).drew := by
  have ha := fun W => adapt_c p b W
  rw [adF_adp hp hb] at ha
  generalize Am.adp p b = q at *
  have hk2 : (k : Int) < (n : Int) := by omega
  have hk0 : (0 : Int) ≤ (k : Int) := by omega
  have e6 : IntKind.i64.wrap (k : Int) = (k : Int) := IntWalk.i64_in _ (by omega)
  clear hp hb
  go_enter Tryd.func136, Tryd.ntmps136
  go_wp2_with fail
  go_region_law (first | (go_simp; go_at_call 137; (with_reducible refine (ha _).mono ?_); rintro e wn ⟨rfl, rfl⟩; go_wp2_with fail) | fail)
  all_goals
    go_wp2_with fail
    go_end0
    exact ⟨rfl, rfl⟩
/-- All blocks but one are as they were. -/
def Same1 (g : Nat) (w w' : World) : Prop := ∀ k, k ≠ g → w'.heap[k]? = w.heap[k]?
/-- reset: all probabilities are 2048. -/
theorem mreset_c (w : World) (B a g m n : Nat) (T : TypeId) (cs : Array Value) (P : List Int) (h : Core w B a T cs) (h0 : cs[0]? = some (.slice (some ⟨g, 0, none⟩) n m)) (ho : w.ownsRow B 3 1 (.slice (some ⟨g, 0, none⟩) n m) n (P.map (Value.int .i64))) (hn : n ≤ 64) :
    Calls Tryd.prog 74 #[.pointer (some ⟨a, 0, none⟩)] w fun e w' => e = .returned (.tuple #[]) ∧ Core w' B a T cs ∧ w'.ownsRow B 3 1 (.slice (some ⟨g, 0, none⟩) n m) n ((List.replicate n (2048 : Int)).map (Value.int .i64)) ∧ Kp a w w' ∧ Same1 g w w' := by
  have hPn := own_i ho
  have c0 : w.cell? ⟨a, 0, none⟩ = some (.slice (some ⟨g, 0, none⟩) n m) := (h.blk.cell 0).trans h0
  have hI : Hid (Core w B a T cs ∧ w.ownsRow B 3 1 (.slice (some ⟨g, 0, none⟩) n m) n ((List.replicate 0 (2048 : Int) ++ P.drop 0).map (Value.int .i64)) ∧ Kp a w w ∧ Same1 g w w) := ⟨h, by simpa using ho, Kp.refl _ _, fun _ _ => rfl⟩
  have H0 := Lib.hid h0
  have HP := Lib.hid hPn
  clear h ho hPn h0
  go_enter Tryd.func74, Tryd.ntmps74
  go_wp2_with fail
  go_loopw [8] (fun i wr => ∃ k : Nat, k ≤ n ∧ i = .int .i64 (k : Int) ∧ Hid (Core wr B a T cs ∧ wr.ownsRow B 3 1 (.slice (some ⟨g, 0, none⟩) n m) n ((List.replicate k (2048 : Int) ++ P.drop k).map (Value.int .i64)) ∧ Kp a w wr ∧ Same1 g w wr)) (fun i _ => n - (intOf i).toNat)
  case atStart => exact ⟨0, Nat.zero_le _, rfl, hI⟩
  case round =>
    obtain ⟨k, hk, rfl, hT⟩ := hrel
    by_cases hlt : k < n
    · have d0 : wr.cell? ⟨a, 0, none⟩ = some (.slice (some ⟨g, 0, none⟩) n m) := (hT.out.1.blk.cell 0).trans H0.out
      obtain ⟨g', he, hg, hf, _, _⟩ := own_at hT.out.2.1 k hlt
      obtain rfl : g = g' := by simpa using he
      have hlen : ((List.replicate k (2048 : Int) ++ P.drop k).map (Value.int .i64)).length = n := by simp; have := HP.out; omega
      obtain ⟨x, hx⟩ : ∃ x, ((List.replicate k (2048 : Int) ++ P.drop k).map (Value.int .i64))[k]? = some x := ⟨_, List.getElem?_eq_getElem (by omega)⟩
      rw [hx] at hg
      clear hx hlen he c0
      go_wp2_with fail
      go_roundw
      case rel =>
        have R := hT.out.1.row H0.out rfl k (.int .i64 2048)
        refine ⟨k + 1, by omega, by go_num, R.1, ?_, hT.out.2.2.1.trans R.2, fun j hj => (Below.heap_setCell _ _ _ _ hj).trans (hT.out.2.2.2 j hj)⟩
        have O := own_put hT.out.2.1 k (.int .i64 2048)
        have e : ((List.replicate k (2048 : Int) ++ P.drop k).map (Value.int .i64)).set k (.int .i64 2048) = (List.replicate (k + 1) (2048 : Int) ++ P.drop (k + 1)).map (Value.int .i64) := by
          have hd : P.drop k = P[k]'(by have := HP.out; omega) :: P.drop (k + 1) := List.drop_eq_getElem_cons (by have := HP.out; omega)
          rw [hd, List.replicate_succ', List.map_append, List.set_append_right _ _ (by simp), List.map_append, List.map_append, List.length_map, List.length_replicate, Nat.sub_self, List.map_cons, List.set_cons_zero, List.append_assoc]
          rfl
        rw [e] at O
        exact O
      case measure => simp [intOf]; omega
    · obtain rfl : k = n := by omega
      go_wp2_with fail
      go_end0
      refine ⟨rfl, hT.out.1, ?_, hT.out.2.2⟩
      have := hT.out.2.1
      rw [List.drop_of_length_le (by have := HP.out; omega), List.append_nil] at this
      exact this
end Go.Proofs.YtklchodbnjebnaaDoor
set_option maxRecDepth 100000
namespace Go.Proofs.YtklchodbnjebnaaDoor
open Go.RowKit

theorem ptrE (w : World) (a : Addr) : (binOp .eql 71 (.pointer (some a)) (.pointer (some a))).run Tryd.prog w = .ok (.bool true) w := by
  obtain ⟨j, hj⟩ : ∃ j, Tryd.prog.info? 114 = some j := ⟨_, rfl⟩
  exact run_eql_ptr_same w a (te := 114) Tryd.underlying71 hj
theorem ptrEz (w : World) (a : Addr) : (binOp .eql 71 (.pointer none) (.pointer (some a))).run Tryd.prog w = .ok (.bool false) w := by
  have h : ∀ d : Nat, (Op.equalIn (d + 1) 71 (.pointer none) (.pointer (some a))).run Tryd.prog w = .ok false w := fun d => by
    simp [Op.equalIn, run_underlying (P := Tryd.prog) (t := 71) Tryd.underlying71]
  simp only [binOp]
  simp [Op.equal, Op.maxDepth, h 9999]
theorem ptrD (w : World) (a : Addr) : (binOp .eql 88 (.pointer (some a)) (.pointer (some a))).run Tryd.prog w = .ok (.bool true) w := by
  obtain ⟨j, hj⟩ : ∃ j, Tryd.prog.info? 124 = some j := ⟨_, rfl⟩
  exact run_eql_ptr_same w a (te := 124) Tryd.underlying88 hj
theorem ptrDz (w : World) (a : Addr) : (binOp .eql 88 (.pointer none) (.pointer (some a))).run Tryd.prog w = .ok (.bool false) w := by
  have h : ∀ d : Nat, (Op.equalIn (d + 1) 88 (.pointer none) (.pointer (some a))).run Tryd.prog w = .ok false w := fun d => by
    simp [Op.equalIn, run_underlying (P := Tryd.prog) (t := 88) Tryd.underlying88]
  simp only [binOp]
  simp [Op.equal, Op.maxDepth, h 9999]
theorem emade_y (a : Nat) (w : World) (h0 : w.cell? ⟨a, 1, none⟩ = some (.pointer (some ⟨a, 0, none⟩))) : Calls Tryd.prog 114 #[.pointer (some ⟨a, 0, none⟩)] w fun e w' => e = .returned (.bool true) ∧ w = w' := by
  have hp := fun W => ptrE W ⟨a, 0, none⟩
  go_enter Tryd.func114, Tryd.ntmps114
  go_wp2_with fail
  go_ret
  exact ⟨rfl, rfl⟩
theorem emade_n (w : World) : Calls Tryd.prog 114 #[.pointer none] w fun e w' => e = .returned (.bool false) ∧ w = w' := by
  go_enter Tryd.func114, Tryd.ntmps114
  go_wp2_with fail
  go_ret
  exact ⟨rfl, rfl⟩
theorem emade_z (a : Nat) (w : World) (h0 : w.cell? ⟨a, 1, none⟩ = some (.pointer none)) : Calls Tryd.prog 114 #[.pointer (some ⟨a, 0, none⟩)] w fun e w' => e = .returned (.bool false) ∧ w = w' := by
  have hp := fun W => ptrEz W ⟨a, 0, none⟩
  go_enter Tryd.func114, Tryd.ntmps114
  go_wp2_with fail
  go_ret
  exact ⟨rfl, rfl⟩
theorem dmade_y (a : Nat) (w : World) (h0 : w.cell? ⟨a, 1, none⟩ = some (.pointer (some ⟨a, 0, none⟩))) : Calls Tryd.prog 75 #[.pointer (some ⟨a, 0, none⟩)] w fun e w' => e = .returned (.bool true) ∧ w = w' := by
  have hp := fun W => ptrD W ⟨a, 0, none⟩
  go_enter Tryd.func75, Tryd.ntmps75
  go_wp2_with fail
  go_ret
  exact ⟨rfl, rfl⟩
theorem dmade_n (w : World) : Calls Tryd.prog 75 #[.pointer none] w fun e w' => e = .returned (.bool false) ∧ w = w' := by
  go_enter Tryd.func75, Tryd.ntmps75
  go_wp2_with fail
  go_ret
  exact ⟨rfl, rfl⟩
theorem dmade_z (a : Nat) (w : World) (h0 : w.cell? ⟨a, 1, none⟩ = some (.pointer none)) : Calls Tryd.prog 75 #[.pointer (some ⟨a, 0, none⟩)] w fun e w' => e = .returned (.bool false) ∧ w = w' := by
  have hp := fun W => ptrDz W ⟨a, 0, none⟩
  go_enter Tryd.func75, Tryd.ntmps75
  go_wp2_with fail
  go_ret
  exact ⟨rfl, rfl⟩
/-- A new row of probabilities. -/
def NewRow (n : Nat) (w : World) (e : Ending) (w' : World) : Prop := ∃ g, e = .returned (.tuple #[.agg #[.slice (some ⟨g, 0, none⟩) n n], .int .i64 0]) ∧ w'.ownsRow w.heap.size 3 1 (.slice (some ⟨g, 0, none⟩) n n) n ((List.replicate n (2048 : Int)).map (Value.int .i64)) ∧ Below w.heap.size w w'
theorem madeI (n : Nat) : madeCells #[.int .i64 0] n = ((List.replicate n (0 : Int)).map (Value.int .i64)).toArray := by
  apply Array.ext
  · simp [madeCells]
  · intro i h1 h2
    simp [madeCells, Nat.mod_one]
theorem core1 {W : World} {B a g n : Nat} (hB : B ≤ a) (hg : B ≤ g) (hb : Blk W a 110 #[.slice (some ⟨g, 0, none⟩) n n]) (hr : Blk W g 3 ((List.replicate n (0 : Int)).map (Value.int .i64)).toArray) (hn : n ≤ 64) :
    Core W B a 110 #[.slice (some ⟨g, 0, none⟩) n n] ∧ W.ownsRow B 3 1 (.slice (some ⟨g, 0, none⟩) n n) n ((List.replicate n (0 : Int)).map (Value.int .i64)) := by
  have ho : W.ownsRow B 3 1 (.slice (some ⟨g, 0, none⟩) n n) n ((List.replicate n (0 : Int)).map (Value.int .i64)) := ⟨by simp, .inr ⟨g, n, _, rfl, hg, hr, Nat.le_refl _, by unfold maxLen; omega, by simp, by simp⟩⟩
  refine ⟨⟨hB, hb, fun i v k hv hk => ?_, fun i j v v' k hne hv hv' _ _ => ?_⟩, ho⟩
  · match i, hv with
    | 0, hv =>
      simp at hv; subst hv
      simp [Value.ownBlock] at hk; subst hk
      exact ⟨hg, _, _, hr, by decide⟩
    | i + 1, hv => simp at hv
  · match i, j, hv, hv' with
    | 0, 0, _, _ => exact hne rfl
    | 0, j + 1, _, hv' => simp at hv'
    | i + 1, _, hv, _ => simp at hv
set_option maxHeartbeats 1000000 in
theorem newModel_y (n : Nat) (w : World) (h1 : 1 ≤ n) (h2 : n ≤ 64) : Calls Tryd.prog 51 #[.int .i64 (n : Int)] w (NewRow n w) := by
  have hmk : ∀ W : World, (Instr.makeSlice 22 (.int .i64 (n : Int)) (.int .i64 (n : Int))).run Tryd.prog W = .ok (.slice (some ⟨W.heap.size, 0, none⟩) n n) (W.alloc (.cells (madeCells #[.int .i64 0] n) 3)) := fun W => by
    have := run_make_row' (P := Tryd.prog) 22 3 (.int .i64 0) 8 Tryd.underlying22 infoI rfl .i64 .i64 n (by omega) (by omega) W
    simpa using this
  have a1 : (1 : Int) ≤ (n : Int) := by omega
  have a2 : (n : Int) ≤ 64 := by omega
  go_enter Tryd.func51, Tryd.ntmps51
  go_upto_region 4 with fail
  obtain ⟨s, hs⟩ : ∃ s, s = w.heap.size := ⟨_, rfl⟩
  obtain ⟨W3, hW3⟩ : ∃ W3, W3 = ((w.alloc (.cells #[.slice none 0 0] 110)).alloc (.cells (madeCells #[.int .i64 0] n) 3)).alloc (.cells #[.slice (some ⟨w.heap.size + 1, 0, none⟩) n n] 110) := ⟨_, rfl⟩
  have hB3 : Below w.heap.size w W3 := by rw [hW3]; exact below_alloc (below_alloc (below_alloc (Below.refl _ _) _) _) _
  have b2 : Blk W3 s 110 #[.slice none 0 0] := by rw [hW3, hs]; exact ((Blk.new w 110 _).alloc _).alloc _
  have b3 : Blk W3 (s + 1) 3 ((List.replicate n (0 : Int)).map (Value.int .i64)).toArray := by
    rw [hW3, hs, ← madeI]
    have := (Blk.new (w.alloc (.cells #[.slice none 0 0] 110)) 3 (madeCells #[.int .i64 0] n)).alloc (.cells #[.slice (some ⟨w.heap.size + 1, 0, none⟩) n n] 110)
    simpa using this
  have b4 : Blk W3 (s + 2) 110 #[.slice (some ⟨s + 1, 0, none⟩) n n] := by
    rw [hW3, hs]
    have := Blk.new ((w.alloc (.cells #[.slice none 0 0] 110)).alloc (.cells (madeCells #[.int .i64 0] n) 3)) 110 #[.slice (some ⟨w.heap.size + 1, 0, none⟩) n n]
    simpa using this
  obtain ⟨hC, hO⟩ := core1 (B := s) (by omega) (by omega) b4 b3 h2
  have hr := mreset_c W3 s (s + 2) (s + 1) n n 110 _ _ hC rfl hO h2
  rw [← hW3, ← hs]
  have HB3 := Lib.hid hB3
  have HS := Lib.hid hs
  have HC := Lib.hid hC
  have HB2 := Lib.hid b2
  clear hW3 hmk hB3 b2 b3 b4 hC hO hs
  go_upto_region 5 with (first | (go_at_call 74; refine hr.mono ?_; rintro e W4 ⟨rfl, hC4, hO4, hK4, hS4⟩))
  have c2 : W4.cell? ⟨s, 0, none⟩ = some (.slice none 0 0) := (World.cell?_of_block (w := W3) (a := ⟨s, 0, none⟩) (hS4 s (by omega))).trans (HB2.out.cell 0)
  have f2 : ∀ i, W4.frozen? ⟨s, i, none⟩ = false := fun i => (World.frozen?_of_block (w := W3) (a := ⟨s, i, none⟩) (hS4 s (by omega))).trans (HB2.out.free i)
  have c4 : W4.cell? ⟨s + 1 + 1, 0, none⟩ = some (.slice (some ⟨s + 1, 0, none⟩) n n) := hC4.blk.cell 0
  have HO4 := Lib.hid hO4
  have hB4 : Hid (Below w.heap.size w W4) := HB3.out.trans (HC.out.out hK4 |>.mono (by have := HS.out; omega))
  clear hC4 hO4 hK4 hS4 hr
  go_wp2_with fail
  refine bodyPost_ret (v := .tuple #[.agg #[.slice (some ⟨s + 1, 0, none⟩) n n], .int .i64 0]) (by simp [results, Tryd.results51, go_sem, c2]) rfl ?_
  have hs := HS.out
  refine ⟨s + 1, rfl, ?_, hB4.out.setCell (by simp; omega) _⟩
  rw [← hs]
  exact own_far HO4.out ⟨s, 0, none⟩ _ (by simp [Value.ownBlock])
theorem newModel_n (c : Int) (w : World) (h : ¬ (1 ≤ c ∧ c ≤ 64)) : Calls Tryd.prog 51 #[.int .i64 c] w fun e w' => e = .returned (.tuple #[.agg #[.slice none 0 0], .int .i64 2]) ∧ Below w.heap.size w w' := by
  by_cases h1 : c < 1
  · go_enter Tryd.func51, Tryd.ntmps51
    go_wp2_with fail
    exact bodyPost_ret (v := .tuple #[.agg #[.slice none 0 0], .int .i64 2]) (by simp [results, Tryd.results51, go_sem]) rfl ⟨rfl, (Below.refl _ _).alloc (Nat.le_refl _) _⟩
  · have h2 : 64 < c := by omega
    clear h
    go_enter Tryd.func51, Tryd.ntmps51
    go_wp2_with fail
    exact bodyPost_ret (v := .tuple #[.agg #[.slice none 0 0], .int .i64 2]) (by simp [results, Tryd.results51, go_sem]) rfl ⟨rfl, (Below.refl _ _).alloc (Nat.le_refl _) _⟩
/-- The code's encoder at a block: its probabilities, its interval. -/
structure EcC (w : World) (B a : Nat) (pv hv : Value) (x : Am.X) : Prop where
  core : Core w B a 114 #[pv, .pointer (some ⟨a, 0, none⟩), hv, .int .u64 (x.2.lo % 4294967296), .int .u64 x.2.rg]
  ps : w.ownsRow B 3 1 pv x.1.length (x.1.map (Value.int .i64))
  hd : w.ownsRow B 5 1 hv x.2.n ((Am.dig x.2.n (x.2.lo / 4294967296)).map (Value.int .u8))
def AEc (w : World) (B a : Nat) (x : Am.X) : Prop := ∃ pv hv, EcC w B a pv hv x
section
variable {w w1 : World} {B B' a b : Nat} {x : Am.X}
theorem AEc.lt (h : AEc w B a x) : a < w.heap.size := h.elim fun _ h => h.elim fun _ h => h.core.lt
theorem AEc.fl (h : AEc w B a x) : ∀ k, Fp w a k → k < w.heap.size := h.elim fun _ h => h.elim fun _ h => h.core.fl
theorem AEc.fp (h : AEc w B a x) : ∀ k, Fp w a k → B ≤ k ∧ k < w.heap.size := h.elim fun _ h => h.elim fun _ h => h.core.fp
theorem AEc.out (h : AEc w B a x) (k : Kp a w w1) : Below B w w1 := h.elim fun _ h => h.elim fun _ h => h.core.out k
theorem AEc.keep (h : AEc w B a x) (hk : ∀ k, Fp w a k → w1.heap[k]? = w.heap[k]?) : AEc w1 B a x := by
  obtain ⟨pv, hv, h⟩ := h
  exact ⟨pv, hv, h.core.keep hk, own_keep h.ps fun k ho => hk k (h.core.of (i := 0) rfl ho), own_keep h.hd fun k ho => hk k (h.core.of (i := 2) rfl ho)⟩
theorem AEc.below (h : AEc w B a x) (hb : Below w.heap.size w w1) : AEc w1 B a x := h.keep fun k hk => hb.block k (h.fl k hk)
theorem AEc.kp (h : AEc w B b x) (hd : Dj w a b) (hk : Kp a w w1) : AEc w1 B b x ∧ Dj w1 a b := ⟨h.keep (hd.kp hk h.fl).2, (hd.kp hk h.fl).1⟩
theorem AEc.lower (h : AEc w B a x) (hB : B' ≤ B) : AEc w B' a x := by
  obtain ⟨pv, hv, h⟩ := h
  exact ⟨pv, hv, h.core.lower hB, own_lower h.ps hB, own_lower h.hd hB⟩
end
/-- A coder's cells: two rows and numbers. -/
theorem core_two {w : World} {B a : Nat} {T : TypeId} {pv hv x y z : Value} {n m : Nat} {xs ys : List Value} (hB : B ≤ a) (hb : Blk w a T #[pv, x, hv, y, z]) (h1 : 3 ≠ T) (h2 : 5 ≠ T) (hp : w.ownsRow B 3 1 pv n xs) (hh : w.ownsRow B 5 1 hv m ys)
    (hx : x.ownBlock = none) (hy : y.ownBlock = none) (hz : z.ownBlock = none) : Core w B a T #[pv, x, hv, y, z] := by
  have key : ∀ (i : Nat) (v : Value) (k : Nat), (#[pv, x, hv, y, z] : Array Value)[i]? = some v → v.ownBlock = some k → (i = 0 ∧ v = pv) ∨ (i = 2 ∧ v = hv) := by
    intro i v k hv' hk
    match i, hv' with
    | 0, h => simp at h; exact .inl ⟨rfl, h.symm⟩
    | 1, h => simp at h; subst h; rw [hx] at hk; simp at hk
    | 2, h => simp at h; exact .inr ⟨rfl, h.symm⟩
    | 3, h => simp at h; subst h; rw [hy] at hk; simp at hk
    | 4, h => simp at h; subst h; rw [hz] at hk; simp at hk
    | i + 5, h => simp at h
  refine ⟨hB, hb, fun i v k hv' hk => ?_, fun i j v v' k hne hv' hv2 hk hk' => ?_⟩
  · rcases key i v k hv' hk with ⟨_, rfl⟩ | ⟨_, rfl⟩
    · obtain ⟨e1, ds, e2⟩ := own_foot hp hk
      exact ⟨e1, _, ds, e2, h1⟩
    · obtain ⟨e1, ds, e2⟩ := own_foot hh hk
      exact ⟨e1, _, ds, e2, h2⟩
  · have hap : ∀ k, pv.ownBlock = some k → hv.ownBlock = some k → False := fun k e1 e2 => by
      obtain ⟨_, ds, b1⟩ := own_foot hp e1
      obtain ⟨_, es, b2⟩ := own_foot hh e2
      exact Blk.ne (t := 3) b1 b2 (by decide) rfl
    rcases key i v k hv' hk with ⟨rfl, rfl⟩ | ⟨rfl, rfl⟩ <;> rcases key j v' k hv2 hk' with ⟨rfl, rfl⟩ | ⟨rfl, rfl⟩
    · exact hne rfl
    · exact hap k hk hk'
    · exact hap k hk' hk
    · exact hne rfl
/-- The state of a new coder. -/
def x0 (n : Nat) : Am.X := (List.replicate n 2048, Am.St.init)
theorem x0_ok (n : Nat) : Am.OkX (x0 n) := ⟨fun p hp => by obtain rfl := List.eq_of_mem_replicate hp; exact ⟨by decide, by decide⟩, Am.ok_init⟩
theorem x0_len (n : Nat) : (x0 n).1.length = n := by simp [x0]
end Go.Proofs.YtklchodbnjebnaaDoor
set_option maxRecDepth 100000
namespace Go.Proofs.YtklchodbnjebnaaDoor
open Go.RowKit

/-- The code's encoder in memory: probabilities, the bytes of head, tail, range. -/
structure EcR (w : World) (B a : Nat) (pv hv : Value) (P R : List Int) (t rg : Int) : Prop where
  core : Core w B a 114 #[pv, .pointer (some ⟨a, 0, none⟩), hv, .int .u64 t, .int .u64 rg]
  ps : w.ownsRow B 3 1 pv P.length (P.map (Value.int .i64))
  hd : w.ownsRow B 5 1 hv R.length (R.map (Value.int .u8))
section
variable {w w1 : World} {B a : Nat} {pv hv : Value} {P R : List Int} {t rg : Int} {x : Am.X}
theorem EcC.r (h : EcC w B a pv hv x) : EcR w B a pv hv x.1 (Am.dig x.2.n (x.2.lo / 4294967296)) (x.2.lo % 4294967296) x.2.rg := ⟨h.core, h.ps, by rw [Am.dig_len]; exact h.hd⟩
theorem EcR.c (h : EcR w B a pv hv x.1 (Am.dig x.2.n (x.2.lo / 4294967296)) (x.2.lo % 4294967296) x.2.rg) : EcC w B a pv hv x := ⟨h.core, h.ps, by have := h.hd; rwa [Am.dig_len] at this⟩
theorem EcR.cells (h : EcR w B a pv hv P R t rg) : w.cell? ⟨a, 0, none⟩ = some pv ∧ w.cell? ⟨a, 1, none⟩ = some (.pointer (some ⟨a, 0, none⟩)) ∧ w.cell? ⟨a, 2, none⟩ = some hv ∧ w.cell? ⟨a, 3, none⟩ = some (.int .u64 t) ∧ w.cell? ⟨a, 4, none⟩ = some (.int .u64 rg) := ⟨h.core.blk.cell 0, h.core.blk.cell 1, h.core.blk.cell 2, h.core.blk.cell 3, h.core.blk.cell 4⟩
theorem EcR.keep (h : EcR w B a pv hv P R t rg) (hk : ∀ k, Fp w a k → w1.heap[k]? = w.heap[k]?) : EcR w1 B a pv hv P R t rg :=
  ⟨h.core.keep hk, own_keep h.ps fun k ho => hk k (h.core.of (i := 0) rfl ho), own_keep h.hd fun k ho => hk k (h.core.of (i := 2) rfl ho)⟩
theorem EcR.below (h : EcR w B a pv hv P R t rg) (hb : Below w.heap.size w w1) : EcR w1 B a pv hv P R t rg := h.keep fun k hk => hb.block k (h.core.fl k hk)
theorem EcR.pa (h : EcR w B a pv hv P R t rg) : pv.ownBlock ≠ some a ∧ hv.ownBlock ≠ some a := ⟨own_blk_ne h.ps h.core.blk (by decide), own_blk_ne h.hd h.core.blk (by decide)⟩
theorem EcR.apart (h : EcR w B a pv hv P R t rg) (k : Nat) (h1 : pv.ownBlock = some k) (h2 : hv.ownBlock = some k) : False := h.core.dis 0 2 pv hv k (by decide) rfl rfl h1 h2
theorem EcR.tail (h : EcR w B a pv hv P R t rg) (t' : Int) : EcR (w.setCell ⟨a, 3, none⟩ (.int .u64 t')) B a pv hv P R t' rg ∧ Kp a w (w.setCell ⟨a, 3, none⟩ (.int .u64 t')) := by
  have N := h.core.num 3 (.int .u64 t') rfl
  exact ⟨⟨by simpa using N.1, own_far h.ps ⟨a, 3, none⟩ _ h.pa.1, own_far h.hd ⟨a, 3, none⟩ _ h.pa.2⟩, N.2⟩
theorem EcR.width (h : EcR w B a pv hv P R t rg) (r' : Int) : EcR (w.setCell ⟨a, 4, none⟩ (.int .u64 r')) B a pv hv P R t r' ∧ Kp a w (w.setCell ⟨a, 4, none⟩ (.int .u64 r')) := by
  have N := h.core.num 4 (.int .u64 r') rfl
  exact ⟨⟨by simpa using N.1, own_far h.ps ⟨a, 4, none⟩ _ h.pa.1, own_far h.hd ⟨a, 4, none⟩ _ h.pa.2⟩, N.2⟩
theorem EcR.byte {g n m : Nat} (h : EcR w B a pv (.slice (some ⟨g, 0, none⟩) n m) P R t rg) (k : Nat) (v : Int) : EcR (w.setCell ⟨g, k, none⟩ (.int .u8 v)) B a pv (.slice (some ⟨g, 0, none⟩) n m) P (R.set k v) t rg ∧ Kp a w (w.setCell ⟨g, k, none⟩ (.int .u8 v)) := by
  have N := h.core.row (i := 2) (g := g) rfl rfl k (.int .u8 v)
  have hn : n = R.length := by
    have h1 := h.hd
    rcases h1.2 with ⟨h2, _⟩ | ⟨g', cap, cur, h2, _⟩
    · simp at h2
    · simp at h2; exact h2.2.1
  subst hn
  refine ⟨⟨N.1, own_far h.ps ⟨g, k, none⟩ _ (fun e => h.apart g e rfl), ?_⟩, N.2⟩
  have := own_put h.hd k (.int .u8 v)
  rw [List.length_set, List.map_set]
  exact this
theorem EcR.prob {g n m : Nat} (h : EcR w B a (.slice (some ⟨g, 0, none⟩) n m) hv P R t rg) (k : Nat) (v : Int) : EcR (w.setCell ⟨g, k, none⟩ (.int .i64 v)) B a (.slice (some ⟨g, 0, none⟩) n m) hv (P.set k v) R t rg ∧ Kp a w (w.setCell ⟨g, k, none⟩ (.int .i64 v)) := by
  have N := h.core.row (i := 0) (g := g) rfl rfl k (.int .i64 v)
  have hn : n = P.length := by
    have h1 := h.ps
    rcases h1.2 with ⟨h2, _⟩ | ⟨g', cap, cur, h2, _⟩
    · simp at h2
    · simp at h2; exact h2.2.1
  subst hn
  refine ⟨⟨N.1, ?_, own_far h.hd ⟨g, k, none⟩ _ (fun e => h.apart g rfl e)⟩, N.2⟩
  have := own_put h.ps k (.int .i64 v)
  rw [List.length_set, List.map_set]
  exact this
theorem EcR.ecr (h : EcR w B a pv hv P R t rg) {v' : Value} {w2 : World} {X : Obj} {y : Int} (hown : w2.ownsRow B 5 1 v' (R.length + 1) (R.map (Value.int .u8) ++ [.int .u8 y])) (hg : (w.alloc X).grownBy w2 hv.ownBlock) (hat : v'.ownBlock = hv.ownBlock ∨ v'.ownBlock = some (w.heap.size + 1)) :
    EcR (w2.setCell ⟨a, 2, none⟩ v') B a pv v' P (R ++ [y]) t rg ∧ Kp a w (w2.setCell ⟨a, 2, none⟩ v') ∧ Blk w2 a 114 #[pv, .pointer (some ⟨a, 0, none⟩), hv, .int .u64 t, .int .u64 rg] := by
  obtain ⟨x1, x2, x3, x4⟩ := h.core.grow (i := 2) rfl h.hd (by decide) hown hg (hat.imp id fun he k hk => by rw [he] at hk; have := Option.some.inj hk; omega)
  refine ⟨⟨by simpa using x1, ?_, by rw [List.length_append, List.length_singleton, List.map_append]; exact x2⟩, x3, x4⟩
  refine own_far (own_keep h.ps fun k ho => ?_) ⟨a, 2, none⟩ _ h.pa.1
  obtain ⟨_, ds, hb⟩ := own_foot h.ps ho
  exact (hg.block k (by have := hb.lt; simp; omega) (fun e => h.apart k ho e.symm)).trans (Below.heap_alloc w X k hb.lt)
end
/-- begin: a codeword of no bits. -/
theorem begin_c (w : World) (B a : Nat) (pv hv tv gv : Value) (P : List Int) (hB : B ≤ a) (hb : Blk w a 114 #[pv, .pointer (some ⟨a, 0, none⟩), hv, tv, gv]) (hp : w.ownsRow B 3 1 pv P.length (P.map (Value.int .i64))) :
    Calls Tryd.prog 52 #[.pointer (some ⟨a, 0, none⟩)] w fun e w' => e = .returned (.tuple #[]) ∧ EcC w' B a pv (.slice none 0 0) (P, Am.St.init) ∧ Kp a w w' ∧ w' = ((w.setCell ⟨a, 2, none⟩ (.slice none 0 0)).setCell ⟨a, 3, none⟩ (.int .u64 0)).setCell ⟨a, 4, none⟩ (.int .u64 4294967295) := by
  have c2 : w.cell? ⟨a, 2, none⟩ = some hv := hb.cell 2
  have c3 : w.cell? ⟨a, 3, none⟩ = some tv := hb.cell 3
  have c4 : w.cell? ⟨a, 4, none⟩ = some gv := hb.cell 4
  have f := hb.free
  have H := Lib.hid hb
  have HP := Lib.hid hp
  clear hb hp
  go_enter Tryd.func52, Tryd.ntmps52
  go_wp2_with fail
  go_end0
  have hpa := own_blk_ne HP.out H.out (by decide)
  have lt := H.out.lt
  have N1 := (Kp.refl a w).num lt (i := 2) (.slice none 0 0) rfl
  have N2 := N1.num (by simpa [World.setCell] using lt) (i := 3) (.int .u64 0) rfl
  have N3 := N2.num (by simpa [World.setCell] using lt) (i := 4) (.int .u64 4294967295) rfl
  have O := own_far (own_far (own_far HP.out ⟨a, 2, none⟩ (.slice none 0 0) hpa) ⟨a, 3, none⟩ (.int .u64 0) hpa) ⟨a, 4, none⟩ (.int .u64 4294967295) hpa
  have b := ((H.out.set 2 (.slice none 0 0)).set 3 (.int .u64 0)).set 4 (.int .u64 4294967295)
  simp at b
  exact ⟨rfl, ⟨core_two hB b (by decide) (by decide) O (World.ownsRow_nil _ B 5 1) rfl rfl rfl, O, World.ownsRow_nil _ _ _ _⟩, N3, rfl⟩
/-- After NewEncoder. -/
theorem enew_y (n : Nat) (w : World) (h1 : 1 ≤ n) (h2 : n ≤ 64) : Calls Tryd.prog 34 #[.int .i64 (n : Int)] w fun e w' => ∃ a, e = .returned (.tuple #[.pointer (some ⟨a, 0, none⟩), .int .i64 0]) ∧ AEc w' w.heap.size a (x0 n) ∧ Below w.heap.size w w' := by
  have hm := newModel_y n w h1 h2
  go_enter Tryd.func34, Tryd.ntmps34
  go_wp2_with fail
  refine hm.mono ?_
  rintro e w1 ⟨g, rfl, ho, hb⟩
  have HO := Lib.hid ho
  have HB := Lib.hid hb
  have hsz := hb.size
  clear hm ho hb
  go_upto_region 6 with fail
  obtain ⟨s, hs⟩ : ∃ s, s = w1.heap.size + 1 := ⟨_, rfl⟩
  obtain ⟨W2, hW2⟩ : ∃ W2, W2 = w1.alloc (.cells #[.slice (some ⟨g, 0, none⟩) n n] 110) := ⟨_, rfl⟩
  have hA : Below w1.heap.size w1 W2 := by rw [hW2]; exact (Below.refl _ _).alloc (Nat.le_refl _) _
  have hs2 : s = W2.heap.size := by rw [hW2, hs]; simp
  have ho2 := own_below HO.out hA
  rw [← hs, ← hW2]
  obtain ⟨W3, hW3⟩ : ∃ W3, W3 = W2.alloc (.cells #[.slice (some ⟨g, 0, none⟩) n n, .pointer (some ⟨s, 0, none⟩), .slice none 0 0, .int .u64 0, .int .u64 0] 114) := ⟨_, rfl⟩
  have hA3 : Below W2.heap.size W2 W3 := by rw [hW3]; exact (Below.refl _ _).alloc (Nat.le_refl _) _
  have b3 : Blk W3 s 114 #[.slice (some ⟨g, 0, none⟩) n n, .pointer (some ⟨s, 0, none⟩), .slice none 0 0, .int .u64 0, .int .u64 0] := by rw [hW3, hs2]; exact Blk.new W2 114 _
  have ho3 := own_below ho2 hA3
  have hws : w.heap.size ≤ s := by omega
  have hc := core_two hws b3 (by decide) (by decide) ho3 (World.ownsRow_nil W3 w.heap.size 5 1) rfl rfl rfl
  have hbg := begin_c W3 w.heap.size s (.slice (some ⟨g, 0, none⟩) n n) (.slice none 0 0) (.int .u64 0) (.int .u64 0) (List.replicate n 2048) hws b3 (by rw [List.length_replicate]; exact ho3)
  have HB3 := Lib.hid (below_call (below_call HB.out hA) hA3)
  have HC := Lib.hid hc
  rw [← hW3]
  clear hW3 hA3 b3 ho3 hc hW2 hA ho2 hs hs2 HO HB
  go_wp2_with fail
  refine hbg.mono ?_
  rintro e W4 ⟨rfl, hE, hK, hw4⟩
  clear hw4
  go_wp2_with fail
  go_ret2
  exact ⟨s, rfl, ⟨_, _, hE⟩, HB3.out.trans (HC.out.out hK)⟩
theorem enew_n (c : Int) (w : World) (h : ¬ (1 ≤ c ∧ c ≤ 64)) : Calls Tryd.prog 34 #[.int .i64 c] w fun e w' => e = .returned (.tuple #[.pointer none, .int .i64 2]) ∧ Below w.heap.size w w' := by
  have hm := newModel_n c w h
  go_enter Tryd.func34, Tryd.ntmps34
  go_wp2_with fail
  refine hm.mono ?_
  rintro e w1 ⟨rfl, hb⟩
  have hsz := hb.size
  go_wp2_with fail
  go_ret2
  exact ⟨rfl, hb.alloc hsz _⟩
/-- After a call of an encoder that answers a number. -/
def EcGives (B a : Nat) (x : Am.X) (c : Int) (w : World) (e : Ending) (w' : World) : Prop := e = .returned (.int .i64 c) ∧ AEc w' B a x ∧ Kp a w w'
/-- How many bytes suffice. -/
def szF (s : Am.St) : Int := if s.rg = 4294967295 then 0 else (s.n : Int) + 4
theorem esize_c (w : World) (B a : Nat) (x : Am.X) (h : AEc w B a x) (hn : x.2.n ≤ 1000000000) :
    Calls Tryd.prog 112 #[.pointer (some ⟨a, 0, none⟩)] w fun e w' => e = .returned (.int .i64 (szF x.2)) ∧ w = w' := by
  obtain ⟨pv, hv, h⟩ := h
  obtain ⟨c0, c1, c2, c3, c4⟩ := h.r.cells
  obtain ⟨s, m, rfl⟩ := own_slice h.hd
  unfold szF
  by_cases hr : x.2.rg = 4294967295
  · rw [if_pos hr]
    rw [hr] at c4
    clear h hr
    go_enter Tryd.func112, Tryd.ntmps112
    go_wp2_with (first | (go_at_call 114; refine (emade_y _ _ c1).mono ?_; rintro e wn ⟨rfl, rfl⟩))
    go_ret
    exact ⟨rfl, rfl⟩
  · rw [if_neg hr]
    have hb : (x.2.rg == 4294967295) = false := by simpa using hr
    clear h hr
    generalize x.2.rg = r at *
    go_enter Tryd.func112, Tryd.ntmps112
    go_wp2_with (first | (go_at_call 114; refine (emade_y _ _ c1).mono ?_; rintro e wn ⟨rfl, rfl⟩))
    go_ret
    exact ⟨rfl, rfl⟩
theorem ereset_c (w : World) (B a : Nat) (x : Am.X) (h : AEc w B a x) (h1 : 1 ≤ x.1.length) (hl : x.1.length ≤ 64) :
    Calls Tryd.prog 111 #[.pointer (some ⟨a, 0, none⟩)] w fun e w' => e = .returned (.tuple #[]) ∧ AEc w' B a (List.replicate x.1.length 2048, x.2) ∧ Kp a w w' := by
  obtain ⟨pv, hv, h⟩ := h
  obtain ⟨c0, c1, c2, c3, c4⟩ := h.r.cells
  obtain ⟨s, m, rfl⟩ := own_slice h.ps
  obtain ⟨g, rfl, _, _, _, _⟩ := own_at h.ps 0 (by omega)
  have hr := mreset_c w B a g m x.1.length 114 _ _ h.core rfl h.ps hl
  have H := Lib.hid h
  clear h
  go_enter Tryd.func111, Tryd.ntmps111
  go_wp2_with (first | (go_at_call 114; refine (emade_y _ _ c1).mono ?_; rintro e wn ⟨rfl, rfl⟩) | (go_at_call 74; refine hr.mono ?_; rintro e w4 ⟨rfl, hC4, hO4, hK4, hS4⟩))
  go_end0
  refine ⟨rfl, ⟨_, _, hC4, by rw [List.length_replicate]; exact hO4, own_keep H.out.hd fun k ho => hS4 k fun e => ?_⟩, hK4⟩
  subst e
  exact H.out.r.apart k rfl ho
end Go.Proofs.YtklchodbnjebnaaDoor
set_option maxRecDepth 100000
namespace Go.Proofs.YtklchodbnjebnaaDoor
open Go.RowKit

/-- While the carry runs: the bytes that are left, the zeros behind them. -/
structure Carry (n : Nat) (h1 : Int) (k : Nat) (R : List Int) : Prop where
  len : R.length = n
  kn : k ≤ n
  tail : R = R.take k ++ List.replicate (n - k) 0
  bytes : Am.bytes R
  val : (Am.val (R.take k) + 1) * Am.Pw (n - k) = h1
theorem carry0 {n : Nat} {h : Int} (h0 : 0 ≤ h) (hh : h + 1 ≤ Am.Pw n) : Carry n (h + 1) n (Am.dig n h) :=
  ⟨Am.dig_len _ _, Nat.le_refl _, by rw [Nat.sub_self, List.take_of_length_le (by rw [Am.dig_len]; omega)]; simp, Am.dig_bytes _ _, by rw [Nat.sub_self, List.take_of_length_le (by rw [Am.dig_len]; omega), Am.val_dig n h h0 hh, Am.Pw_zero, Int.mul_one]⟩
theorem Carry.pos {n k : Nat} {h1 : Int} {R : List Int} (c : Carry n h1 k R) (hh : h1 + 1 ≤ Am.Pw n) : k ≠ 0 := by
  intro hk
  subst hk
  have := c.val
  rw [List.take_zero, Am.val_nil, Nat.sub_zero] at this
  omega
theorem Carry.at {n k : Nat} {h1 : Int} {R : List Int} (c : Carry n h1 (k + 1) R) : R.take (k + 1) = R.take k ++ [R.getD k 0] ∧ Am.byte (R.getD k 0) := by
  have hk : k < R.length := by have := c.kn; have := c.len; omega
  exact ⟨by rw [List.take_succ_eq_append_getElem hk, List.getD_eq_getElem?_getD, List.getElem?_eq_getElem hk]; rfl, Am.bytes_getD c.bytes k⟩
/-- A byte 255 becomes 0. -/
theorem Carry.next {n k : Nat} {h1 : Int} {R : List Int} (c : Carry n h1 (k + 1) R) (hx : R.getD k 0 = 255) : Carry n h1 k (R.set k 0) := by
  have hk : k < R.length := by have := c.kn; have := c.len; omega
  obtain ⟨e, _⟩ := c.at
  have ht : (R.set k 0).take k = R.take k := by rw [List.take_set, List.set_eq_of_length_le (by simp; omega)]
  refine ⟨by rw [List.length_set]; exact c.len, by have := c.kn; omega, ?_, ?_, ?_⟩
  · have h2 := c.tail
    rw [ht]
    have e3 : R.set k 0 = (R.take k ++ [255] ++ List.replicate (n - (k + 1)) 0).set k 0 := by
      have : R = R.take k ++ [255] ++ List.replicate (n - (k + 1)) 0 := by rw [← hx, ← e]; exact h2
      rw [← this]
    rw [e3, List.append_assoc, List.set_append_right _ _ (by simp; omega), List.length_take, Nat.min_eq_left (by omega), Nat.sub_self]
    have : n - k = (n - (k + 1)) + 1 := by have := c.kn; omega
    rw [this, List.replicate_succ]
    rfl
  · intro x hx'
    rcases List.mem_or_eq_of_mem_set hx' with h3 | rfl
    · exact c.bytes x h3
    · exact ⟨by decide, by decide⟩
  · rw [ht]
    have h2 := c.val
    rw [e, Am.val_snoc, hx] at h2
    have : n - k = (n - (k + 1)) + 1 := by have := c.kn; omega
    rw [this, Am.Pw_succ, ← h2, show 256 * Am.val (R.take k) + 255 + 1 = 256 * (Am.val (R.take k) + 1) by omega, Int.mul_comm 256 (Am.val (R.take k) + 1), Int.mul_assoc]
/-- Any other byte grows, and the number is reached. -/
theorem Carry.done {n k : Nat} {h1 : Int} {R : List Int} (c : Carry n h1 (k + 1) R) (hx : R.getD k 0 ≠ 255) : R.set k (R.getD k 0 + 1) = Am.dig n h1 := by
  have hk : k < R.length := by have := c.kn; have := c.len; omega
  obtain ⟨e, hb⟩ := c.at
  have h2 := c.tail
  have e3 : R.set k (R.getD k 0 + 1) = (R.take k ++ [R.getD k 0 + 1]) ++ List.replicate (n - (k + 1)) 0 := by
    have e4 : R = R.take k ++ [R.getD k 0] ++ List.replicate (n - (k + 1)) 0 := by rw [← e]; exact h2
    have e5 : R.set k (R.getD k 0 + 1) = (R.take k ++ [R.getD k 0] ++ List.replicate (n - (k + 1)) 0).set k (R.getD k 0 + 1) := by rw [← e4]
    rw [e5, List.append_assoc, List.set_append_right _ _ (by simp; omega), List.length_take, Nat.min_eq_left (by omega), Nat.sub_self, List.append_assoc]
    rfl
  have hby : Am.bytes (R.set k (R.getD k 0 + 1)) := by
    intro x hx'
    rcases List.mem_or_eq_of_mem_set hx' with h3 | rfl
    · exact c.bytes x h3
    · unfold Am.byte at *; omega
  have hv : Am.val (R.set k (R.getD k 0 + 1)) = h1 := by
    rw [e3, Am.val_zeros, Am.val_snoc, ← c.val, e, Am.val_snoc]
    rw [Int.add_assoc]
  rw [← hv]
  have hl : (R.set k (R.getD k 0 + 1)).length = n := by rw [List.length_set]; exact c.len
  have := Am.dig_val _ hby
  rw [hl] at this
  exact this.symm
/-- After raise. -/
def Raised (B a : Nat) (pv hv : Value) (P : List Int) (s : Am.St) (y : Int) (w : World) (e : Ending) (w' : World) : Prop := e = .returned (.tuple #[]) ∧ EcC w' B a pv hv (P, ⟨s.lo + y, s.rg, s.n⟩) ∧ Kp a w w'
set_option maxHeartbeats 4000000 in
theorem raise_c (w : World) (B a : Nat) (pv hv : Value) (P : List Int) (s : Am.St) (y : Int) (h : EcC w B a pv hv (P, s)) (h0 : 0 ≤ s.lo) (hy : 0 ≤ y) (hy2 : y ≤ 4294967295) (htop : s.lo + y + 1 ≤ 4294967296 * Am.Pw s.n) (hn : s.n ≤ 1000000000) :
    Calls Tryd.prog 115 #[.pointer (some ⟨a, 0, none⟩), .int .u64 y] w (Raised B a pv hv P s y w) := by
  obtain ⟨c0, c1, c2, c3, c4⟩ := h.r.cells
  have f := h.core.blk.free
  have H := Lib.hid h
  obtain ⟨t, ht⟩ : ∃ t, t = s.lo % 4294967296 := ⟨_, rfl⟩
  have htb : 0 ≤ t ∧ t ≤ 4294967295 := by omega
  have c3' : w.cell? ⟨a, 3, none⟩ = some (.int .u64 t) := by rw [ht]; exact c3
  clear c3
  have HT := Lib.hid ht
  by_cases hc : t + y < 4294967296
  · have hend : Hid ((s.lo + y) % 4294967296 = t + y ∧ (s.lo + y) / 4294967296 = s.lo / 4294967296) := by show _ ∧ _; omega
    clear h ht
    go_enter Tryd.func115, Tryd.ntmps115
    go_wp2_with fail
    go_end0
    have T := H.out.r.tail (t + y)
    refine ⟨rfl, EcR.c (x := (P, ⟨s.lo + y, s.rg, s.n⟩)) ?_, T.2⟩
    show EcR _ B a pv hv P (Am.dig s.n ((s.lo + y) / 4294967296)) ((s.lo + y) % 4294967296) s.rg
    rw [hend.out.1, hend.out.2]
    exact T.1
  · have hend : Hid ((s.lo + y) % 4294967296 = t + y - 4294967296 ∧ (s.lo + y) / 4294967296 = s.lo / 4294967296 + 1) := by show _ ∧ _; omega
    obtain ⟨h1, hh1⟩ : ∃ h1, h1 = s.lo / 4294967296 + 1 := ⟨_, rfl⟩
    have hP1 : Hid (h1 + 1 ≤ Am.Pw s.n) := by show _ ≤ _; omega
    have hC0 : Hid (Carry s.n h1 s.n (Am.dig s.n (s.lo / 4294967296))) := by show Carry _ _ _ _; rw [hh1]; exact carry0 (by omega) (by omega)
    have T := (H.out.r.tail (t + y))
    have T2 := T.1.tail (t + y - 4294967296)
    have hI : Hid (EcR ((w.setCell ⟨a, 3, none⟩ (.int .u64 (t + y))).setCell ⟨a, 3, none⟩ (.int .u64 (t + y - 4294967296))) B a pv hv P (Am.dig s.n (s.lo / 4294967296)) (t + y - 4294967296) s.rg ∧ Kp a w ((w.setCell ⟨a, 3, none⟩ (.int .u64 (t + y))).setCell ⟨a, 3, none⟩ (.int .u64 (t + y - 4294967296)))) := ⟨T2.1, T.2.trans T2.2⟩
    have HH1 := Lib.hid hh1
    obtain ⟨sl, m, rfl⟩ := own_slice h.hd
    clear h ht T T2 hh1 htop
    go_enter Tryd.func115, Tryd.ntmps115
    go_wp2_with fail
    go_loopw [4] (fun i wr => ∃ k : Nat, k ≤ s.n ∧ i = .int .i64 ((k : Int) - 1) ∧ Hid (∃ R, Carry s.n h1 k R ∧ EcR wr B a pv (.slice sl s.n m) P R (t + y - 4294967296) s.rg ∧ Kp a w wr)) (fun i _ => (intOf i + 1).toNat)
    case atStart => exact ⟨s.n, Nat.le_refl _, rfl, ⟨_, hC0, hI⟩⟩
    case round =>
      obtain ⟨k, hk, rfl, R, hC, hE, hK⟩ := hrel
      cases k with
      | zero => exact absurd rfl (hC.pos hP1.out)
      | succ k =>
        have hRl := hC.len
        have hkR : k < R.length := by omega
        have hd := hE.hd
        rw [hRl] at hd
        obtain ⟨g, rfl, hg, fg, _, _⟩ := own_at hd k (by omega)
        have hg2 : wr.cell? ⟨g, k, none⟩ = some (.int .u8 (R.getD k 0)) := by rw [hg, List.getD_eq_getElem?_getD]; simp [hkR]
        have d2 : wr.cell? ⟨a, 2, none⟩ = some (.slice (some ⟨g, 0, none⟩) s.n m) := hE.cells.2.2.1
        have hga : g ≠ a := by have := hE.pa.2; simpa [Value.ownBlock] using this
        have d2' : ∀ v, (wr.setCell ⟨g, k, none⟩ v).cell? ⟨a, 2, none⟩ = some (.slice (some ⟨g, 0, none⟩) s.n m) := fun v => cell_far _ d2 (fun e => hga e.symm)
        have hxb := hC.at.2
        unfold Am.byte at hxb
        have HC := Lib.hid hC
        have HE := Lib.hid hE
        have HK := Lib.hid hK
        by_cases hx : R.getD k 0 = 255
        · have hn1 := Lib.hid (hC.next hx)
          rw [hx] at hg2
          clear hC hE hK hd hg hRl hkR c0 c1 c2 c4 c3' f hI hC0 hx hxb
          go_wp2_with fail
          go_roundw
          case rel =>
            have Y := HE.out.byte k 0
            exact ⟨k, by omega, by go_num, _, hn1.out, Y.1, HK.out.trans Y.2⟩
          case measure => simp [intOf]
        · have hdn := Lib.hid (hC.done hx)
          have hx1 : R.getD k 0 + 1 ≤ 255 := by omega
          clear hC hE hK hd hg hRl hkR c0 c1 c2 c4 c3' f hI hC0 hx
          obtain ⟨x, hxx⟩ : ∃ x, x = R.getD k 0 := ⟨_, rfl⟩
          rw [← hxx] at hg2 hxb hx1 hdn
          clear hxx
          have hnz : (x + 1 != 0) = true := by simp; omega
          go_wp2_with fail
          go_end0
          have Y := HE.out.byte k (x + 1)
          refine ⟨rfl, EcR.c (x := (P, ⟨s.lo + y, s.rg, s.n⟩)) ?_, HK.out.trans Y.2⟩
          show EcR _ B a pv _ P (Am.dig s.n ((s.lo + y) / 4294967296)) ((s.lo + y) % 4294967296) s.rg
          rw [hend.out.1, hend.out.2, ← HH1.out, ← hdn.out]
          exact Y.1
end Go.Proofs.YtklchodbnjebnaaDoor
