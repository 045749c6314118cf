/-
  Layer 11: newModel, NewEncoder, NewDecoder; made, begin, Probability, Reset of the code.
-/
import Derived.Test.YtnmmgjbjnhiaoaaDoorQEa
set_option maxRecDepth 100000
namespace Go.Proofs.YtnmmgjbjnhiaoaaDoor
open Go.RowKit

theorem ptrD (w : World) (a : Addr) : (binOp .eql 81 (.pointer (some a)) (.pointer (some a))).run Tryd.prog w = .ok (.bool true) w := by
  obtain ⟨j, hj⟩ : ∃ j, Tryd.prog.info? 100 = some j := ⟨_, rfl⟩
  exact run_eql_ptr_same w a (te := 100) Tryd.underlying81 hj
theorem ptrDz (w : World) (a : Addr) : (binOp .eql 81 (.pointer none) (.pointer (some a))).run Tryd.prog w = .ok (.bool false) w := by
  have h : ∀ d : Nat, (Op.equalIn (d + 1) 81 (.pointer none) (.pointer (some a))).run Tryd.prog w = .ok false w := fun d => by
    simp [Op.equalIn, run_underlying (P := Tryd.prog) (t := 81) Tryd.underlying81]
  simp only [binOp]
  simp [Op.equal, Op.maxDepth, h 9999]
theorem dmade_y (a : Nat) (w : World) (h0 : w.cell? ⟨a, 1, none⟩ = some (.pointer (some ⟨a, 0, none⟩))) : Calls Tryd.prog 80 #[.pointer (some ⟨a, 0, none⟩)] w fun e w' => e = .returned (.bool true) ∧ w = w' := by
  have hp := fun W => ptrD W ⟨a, 0, none⟩
  go_enter Tryd.func80, Tryd.ntmps80
  go_wp2_with fail
  go_ret
  exact ⟨rfl, rfl⟩
theorem dmade_n (w : World) : Calls Tryd.prog 80 #[.pointer none] w fun e w' => e = .returned (.bool false) ∧ w = w' := by
  go_enter Tryd.func80, Tryd.ntmps80
  go_wp2_with fail
  go_ret
  exact ⟨rfl, rfl⟩
theorem dmade_z (a : Nat) (w : World) (h0 : w.cell? ⟨a, 1, none⟩ = some (.pointer none)) : Calls Tryd.prog 80 #[.pointer (some ⟨a, 0, none⟩)] w fun e w' => e = .returned (.bool false) ∧ w = w' := by
  have hp := fun W => ptrDz W ⟨a, 0, none⟩
  go_enter Tryd.func80, Tryd.ntmps80
  go_wp2_with fail
  go_ret
  exact ⟨rfl, rfl⟩
/-- A new row of probabilities. -/
def NewRow (n : Nat) (w : World) (e : Ending) (w' : World) : Prop := ∃ g, e = .returned (.tuple #[.agg #[.slice (some ⟨g, 0, none⟩) n n], .int .i64 0]) ∧ w'.ownsRow w.heap.size 3 1 (.slice (some ⟨g, 0, none⟩) n n) n ((List.replicate n (2048 : Int)).map (Value.int .i64)) ∧ Below w.heap.size w w'
theorem madeI (n : Nat) : madeCells #[.int .i64 0] n = ((List.replicate n (0 : Int)).map (Value.int .i64)).toArray := by
  apply Array.ext
  · simp [madeCells]
  · intro i h1 h2
    simp [madeCells, Nat.mod_one]
theorem core1 {W : World} {B a g n : Nat} (hB : B ≤ a) (hg : B ≤ g) (hb : Blk W a 96 #[.slice (some ⟨g, 0, none⟩) n n]) (hr : Blk W g 3 ((List.replicate n (0 : Int)).map (Value.int .i64)).toArray) (hn : n ≤ 64) :
    Core W B a 96 #[.slice (some ⟨g, 0, none⟩) n n] ∧ W.ownsRow B 3 1 (.slice (some ⟨g, 0, none⟩) n n) n ((List.replicate n (0 : Int)).map (Value.int .i64)) := by
  have ho : W.ownsRow B 3 1 (.slice (some ⟨g, 0, none⟩) n n) n ((List.replicate n (0 : Int)).map (Value.int .i64)) := ⟨by simp, .inr ⟨g, n, _, rfl, hg, hr, Nat.le_refl _, by unfold maxLen; omega, by simp, by simp⟩⟩
  refine ⟨⟨hB, hb, fun i v k hv hk => ?_, fun i j v v' k hne hv hv' _ _ => ?_⟩, ho⟩
  · match i, hv with
    | 0, hv =>
      simp at hv; subst hv
      simp [Value.ownBlock] at hk; subst hk
      exact ⟨hg, _, _, hr, by decide⟩
    | i + 1, hv => simp at hv
  · match i, j, hv, hv' with
    | 0, 0, _, _ => exact hne rfl
    | 0, j + 1, _, hv' => simp at hv'
    | i + 1, _, hv, _ => simp at hv
set_option maxHeartbeats 1000000 in
theorem newModel_y (n : Nat) (w : World) (h1 : 1 ≤ n) (h2 : n ≤ 64) : Calls Tryd.prog 66 #[.int .i64 (n : Int)] w (NewRow n w) := by
  have hmk : ∀ W : World, (Instr.makeSlice 28 (.int .i64 (n : Int)) (.int .i64 (n : Int))).run Tryd.prog W = .ok (.slice (some ⟨W.heap.size, 0, none⟩) n n) (W.alloc (.cells (madeCells #[.int .i64 0] n) 3)) := fun W => by
    have := run_make_row' (P := Tryd.prog) 28 3 (.int .i64 0) 8 Tryd.underlying28 infoI rfl .i64 .i64 n (by omega) (by omega) W
    simpa using this
  have a1 : (1 : Int) ≤ (n : Int) := by omega
  have a2 : (n : Int) ≤ 64 := by omega
  go_enter Tryd.func66, Tryd.ntmps66
  go_upto_region 4 with fail
  obtain ⟨s, hs⟩ : ∃ s, s = w.heap.size := ⟨_, rfl⟩
  obtain ⟨W3, hW3⟩ : ∃ W3, W3 = ((w.alloc (.cells #[.slice none 0 0] 96)).alloc (.cells (madeCells #[.int .i64 0] n) 3)).alloc (.cells #[.slice (some ⟨w.heap.size + 1, 0, none⟩) n n] 96) := ⟨_, rfl⟩
  have hB3 : Below w.heap.size w W3 := by rw [hW3]; exact below_alloc (below_alloc (below_alloc (Below.refl _ _) _) _) _
  have b2 : Blk W3 s 96 #[.slice none 0 0] := by rw [hW3, hs]; exact ((Blk.new w 96 _).alloc _).alloc _
  have b3 : Blk W3 (s + 1) 3 ((List.replicate n (0 : Int)).map (Value.int .i64)).toArray := by
    rw [hW3, hs, ← madeI]
    have := (Blk.new (w.alloc (.cells #[.slice none 0 0] 96)) 3 (madeCells #[.int .i64 0] n)).alloc (.cells #[.slice (some ⟨w.heap.size + 1, 0, none⟩) n n] 96)
    simpa using this
  have b4 : Blk W3 (s + 2) 96 #[.slice (some ⟨s + 1, 0, none⟩) n n] := by
    rw [hW3, hs]
    have := Blk.new ((w.alloc (.cells #[.slice none 0 0] 96)).alloc (.cells (madeCells #[.int .i64 0] n) 3)) 96 #[.slice (some ⟨w.heap.size + 1, 0, none⟩) n n]
    simpa using this
  obtain ⟨hC, hO⟩ := core1 (B := s) (by omega) (by omega) b4 b3 h2
  have hr := mreset_c W3 s (s + 2) (s + 1) n n 96 _ _ hC rfl hO h2
  rw [← hW3, ← hs]
  have HB3 := Lib.hid hB3
  have HS := Lib.hid hs
  have HC := Lib.hid hC
  have HB2 := Lib.hid b2
  clear hW3 hmk hB3 b2 b3 b4 hC hO hs
  go_upto_region 5 with (first | (go_at_call 79; refine hr.mono ?_; rintro e W4 ⟨rfl, hC4, hO4, hK4, hS4⟩))
  have c2 : W4.cell? ⟨s, 0, none⟩ = some (.slice none 0 0) := (World.cell?_of_block (w := W3) (a := ⟨s, 0, none⟩) (hS4 s (by omega))).trans (HB2.out.cell 0)
  have f2 : ∀ i, W4.frozen? ⟨s, i, none⟩ = false := fun i => (World.frozen?_of_block (w := W3) (a := ⟨s, i, none⟩) (hS4 s (by omega))).trans (HB2.out.free i)
  have c4 : W4.cell? ⟨s + 1 + 1, 0, none⟩ = some (.slice (some ⟨s + 1, 0, none⟩) n n) := hC4.blk.cell 0
  have HO4 := Lib.hid hO4
  have hB4 : Hid (Below w.heap.size w W4) := HB3.out.trans (HC.out.out hK4 |>.mono (by have := HS.out; omega))
  clear hC4 hO4 hK4 hS4 hr
  go_wp2_with fail
  refine bodyPost_ret (v := .tuple #[.agg #[.slice (some ⟨s + 1, 0, none⟩) n n], .int .i64 0]) (by simp [results, Tryd.results66, go_sem, c2]) rfl ?_
  have hs := HS.out
  refine ⟨s + 1, rfl, ?_, hB4.out.setCell (by simp; omega) _⟩
  rw [← hs]
  exact own_far HO4.out ⟨s, 0, none⟩ _ (by simp [Value.ownBlock])
theorem newModel_n (c : Int) (w : World) (h : ¬ (1 ≤ c ∧ c ≤ 64)) : Calls Tryd.prog 66 #[.int .i64 c] w fun e w' => e = .returned (.tuple #[.agg #[.slice none 0 0], .int .i64 2]) ∧ Below w.heap.size w w' := by
  by_cases h1 : c < 1
  · go_enter Tryd.func66, Tryd.ntmps66
    go_wp2_with fail
    exact bodyPost_ret (v := .tuple #[.agg #[.slice none 0 0], .int .i64 2]) (by simp [results, Tryd.results66, go_sem]) rfl ⟨rfl, (Below.refl _ _).alloc (Nat.le_refl _) _⟩
  · have h2 : 64 < c := by omega
    clear h
    go_enter Tryd.func66, Tryd.ntmps66
    go_wp2_with fail
    exact bodyPost_ret (v := .tuple #[.agg #[.slice none 0 0], .int .i64 2]) (by simp [results, Tryd.results66, go_sem]) rfl ⟨rfl, (Below.refl _ _).alloc (Nat.le_refl _) _⟩
section
variable {w w1 : World} {B B' a b : Nat} {x : Am.X}
end
/-- A coder's cells: two rows and numbers. -/
theorem core_two {w : World} {B a : Nat} {T : TypeId} {pv hv x y z : Value} {n m : Nat} {xs ys : List Value} (hB : B ≤ a) (hb : Blk w a T #[pv, x, hv, y, z]) (h1 : 3 ≠ T) (h2 : 5 ≠ T) (hp : w.ownsRow B 3 1 pv n xs) (hh : w.ownsRow B 5 1 hv m ys)
    (hx : x.ownBlock = none) (hy : y.ownBlock = none) (hz : z.ownBlock = none) : Core w B a T #[pv, x, hv, y, z] := by
  have key : ∀ (i : Nat) (v : Value) (k : Nat), (#[pv, x, hv, y, z] : Array Value)[i]? = some v → v.ownBlock = some k → (i = 0 ∧ v = pv) ∨ (i = 2 ∧ v = hv) := by
    intro i v k hv' hk
    match i, hv' with
    | 0, h => simp at h; exact .inl ⟨rfl, h.symm⟩
    | 1, h => simp at h; subst h; rw [hx] at hk; simp at hk
    | 2, h => simp at h; exact .inr ⟨rfl, h.symm⟩
    | 3, h => simp at h; subst h; rw [hy] at hk; simp at hk
    | 4, h => simp at h; subst h; rw [hz] at hk; simp at hk
    | i + 5, h => simp at h
  refine ⟨hB, hb, fun i v k hv' hk => ?_, fun i j v v' k hne hv' hv2 hk hk' => ?_⟩
  · rcases key i v k hv' hk with ⟨_, rfl⟩ | ⟨_, rfl⟩
    · obtain ⟨e1, ds, e2⟩ := own_foot hp hk
      exact ⟨e1, _, ds, e2, h1⟩
    · obtain ⟨e1, ds, e2⟩ := own_foot hh hk
      exact ⟨e1, _, ds, e2, h2⟩
  · have hap : ∀ k, pv.ownBlock = some k → hv.ownBlock = some k → False := fun k e1 e2 => by
      obtain ⟨_, ds, b1⟩ := own_foot hp e1
      obtain ⟨_, es, b2⟩ := own_foot hh e2
      exact Blk.ne (t := 3) b1 b2 (by decide) rfl
    rcases key i v k hv' hk with ⟨rfl, rfl⟩ | ⟨rfl, rfl⟩ <;> rcases key j v' k hv2 hk' with ⟨rfl, rfl⟩ | ⟨rfl, rfl⟩
    · exact hne rfl
    · exact hap k hk hk'
    · exact hap k hk' hk
    · exact hne rfl
/-- The state of a new coder. -/
def x0 (n : Nat) : Am.X := (List.replicate n 2048, Am.St.init)
theorem x0_ok (n : Nat) : Am.OkX (x0 n) := ⟨fun p hp => by obtain rfl := List.eq_of_mem_replicate hp; exact ⟨by decide, by decide⟩, Am.ok_init⟩
theorem x0_len (n : Nat) : (x0 n).1.length = n := by simp [x0]
end Go.Proofs.YtnmmgjbjnhiaoaaDoor
