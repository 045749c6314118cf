/-
  Layer 14: New of the code.
-/
import Derived.Test.YtnmmgjbjnhiaoaaDoorPd
import Derived.Test.YtnmmgjbjnhiaoaaDoorPc2
set_option maxRecDepth 100000
namespace Go.Proofs.YtnmmgjbjnhiaoaaDoor
open Go.RowKit

theorem new_no (w h : Int) (hf : ¬ fits w h) (W : World) : Calls Tryd.prog 54 #[.int .i64 w, .int .i64 h] W fun e w' => e = .returned (.tuple #[.pointer none, .int .i64 2]) ∧ W = w' := by
  have k := sized_n w h hf
  clear hf
  go_enter Tryd.func54, Tryd.ntmps54
  go_wp2_with (first | (go_at_call 65; (with_reducible refine (k _).mono ?_); rintro e wn ⟨rfl, rfl⟩))
  go_ret2
  exact ⟨rfl, rfl⟩
def zI (n : Nat) : Obj := .cells (madeCells #[.int .i64 0] n) 3
def zU (n : Nat) : Obj := .cells (madeCells #[.int .u8 0] n) 5
def zB (n : Nat) : Obj := .cells (madeCells #[.bool false] n) 4
theorem infoU : (Tryd.prog.info? 5).map (fun i => (i.zero, i.size, i.bytes)) = some (some (.int .u8 0), 1, 1) := by kernel_rfl
theorem infoB : (Tryd.prog.info? 4).map (fun i => (i.zero, i.size, i.bytes)) = some (some (.bool false), 1, 1) := by kernel_rfl
theorem mkI (n : Nat) (hn : n ≤ 4356) (W : World) : (Instr.makeSlice 28 (.int .i64 (n : Int)) (.int .i64 (n : Int))).run Tryd.prog W = .ok (.slice (some ⟨W.heap.size, 0, none⟩) n n) (W.alloc (zI n)) := by
  obtain ⟨i0, hi, hz0, hz1, hz2⟩ := info2_parts infoI
  have hr := run_make (P := Tryd.prog) W 28 3 i0 _ Tryd.underlying28 hi hz0 .i64 .i64 n n (by omega) (Int.le_refl _) (by rw [hz2]; omega) (by omega)
  rw [hz1, Int.toNat_natCast, Nat.mul_one] at hr
  exact hr
theorem mkU (n : Nat) (hn : n ≤ 4356) (W : World) : (Instr.makeSlice 38 (.int .i64 (n : Int)) (.int .i64 (n : Int))).run Tryd.prog W = .ok (.slice (some ⟨W.heap.size, 0, none⟩) n n) (W.alloc (zU n)) := by
  obtain ⟨i0, hi, hz0, hz1, hz2⟩ := info2_parts infoU
  have hr := run_make (P := Tryd.prog) W 38 5 i0 _ Tryd.underlying38 hi hz0 .i64 .i64 n n (by omega) (Int.le_refl _) (by rw [hz2]; omega) (by omega)
  rw [hz1, Int.toNat_natCast, Nat.mul_one] at hr
  exact hr
theorem mkB (n : Nat) (hn : n ≤ 4356) (W : World) : (Instr.makeSlice 91 (.int .i64 (n : Int)) (.int .i64 (n : Int))).run Tryd.prog W = .ok (.slice (some ⟨W.heap.size, 0, none⟩) n n) (W.alloc (zB n)) := by
  obtain ⟨i0, hi, hz0, hz1, hz2⟩ := info2_parts infoB
  have hr := run_make (P := Tryd.prog) W 91 4 i0 _ Tryd.underlying91 hi hz0 .i64 .i64 n n (by omega) (Int.le_refl _) (by rw [hz2]; omega) (by omega)
  rw [hz1, Int.toNat_natCast, Nat.mul_one] at hr
  exact hr
theorem heap5 (W : World) (a b c d o : Obj) : (((((W.alloc a).alloc b).alloc c).alloc d).alloc o).drew.heap[W.heap.size]? = some a ∧ (((((W.alloc a).alloc b).alloc c).alloc d).alloc o).drew.heap[W.heap.size + 1]? = some b ∧ (((((W.alloc a).alloc b).alloc c).alloc d).alloc o).drew.heap[W.heap.size + 2]? = some c ∧
    (((((W.alloc a).alloc b).alloc c).alloc d).alloc o).drew.heap[W.heap.size + 3]? = some d ∧ (((((W.alloc a).alloc b).alloc c).alloc d).alloc o).drew.heap[W.heap.size + 4]? = some o ∧ Below W.heap.size W (((((W.alloc a).alloc b).alloc c).alloc d).alloc o).drew := by
  have n0 : ∀ (X : World) (p : Obj), (X.alloc p).heap[X.heap.size]? = some p := fun X p => Array.getElem?_push_size
  have n1 : ∀ (X : World) (p : Obj) (k : Nat), k < X.heap.size → (X.alloc p).heap[k]? = X.heap[k]? := fun X p k hk => Below.heap_alloc X p k hk
  have z : ∀ (X : World) (p : Obj), (X.alloc p).heap.size = X.heap.size + 1 := fun X p => by simp
  have dr : ∀ (X : World), X.drew.heap = X.heap := fun X => rfl
  rw [dr]
  refine ⟨?_, ?_, ?_, ?_, ?_, (below_alloc (below_alloc (below_alloc (below_alloc (below_alloc (Below.refl _ W) a) b) c) d) o).drew⟩
  · rw [n1, n1, n1, n1, n0] <;> (simp only [z]; omega)
  · rw [n1, n1, n1, show W.heap.size + 1 = (W.alloc a).heap.size from (z W a).symm, n0] <;> (simp only [z]; omega)
  · rw [n1, n1, show W.heap.size + 2 = ((W.alloc a).alloc b).heap.size by simp only [z], n0] <;> (simp only [z]; omega)
  · rw [n1, show W.heap.size + 3 = (((W.alloc a).alloc b).alloc c).heap.size by simp only [z], n0]
    simp only [z]; omega
  · rw [show W.heap.size + 4 = ((((W.alloc a).alloc b).alloc c).alloc d).heap.size by simp only [z], n0]
def HeapIs (n : Nat) (l : List Obj) (k : Nat) (o : Obj) : Prop := ∃ i, k = n + i ∧ l[i]? = some o
theorem HeapIs.at {W : World} {a b c d o p : Obj} {k : Nat} (h : HeapIs W.heap.size [a, b, c, d, o] k p) : (((((W.alloc a).alloc b).alloc c).alloc d).alloc o).drew.heap[k]? = some p ∧ W.heap.size ≤ k := by
  obtain ⟨i, rfl, hi⟩ := h
  obtain ⟨h0, h1, h2, h3, h4, _⟩ := heap5 W a b c d o
  refine ⟨?_, by omega⟩
  match i, hi with
  | 0, hi => simp at hi; subst hi; exact h0
  | 1, hi => simp at hi; subst hi; exact h1
  | 2, hi => simp at hi; subst hi; exact h2
  | 3, hi => simp at hi; subst hi; exact h3
  | 4, hi => simp at hi; subst hi; exact h4
theorem made_at {z : Value} (n k : Nat) (hk : k < n) : (madeCells #[z] n)[k]? = some z := by
  simp [madeCells, hk, Nat.mod_one]
theorem gr_made {W : World} {g w h : Nat} {ty : TypeId} {z : Value} (hb : W.heap[g]? = some (.cells (madeCells #[z] ((w + 2) * (h + 2))) ty)) (f : Int → Int → Value) (hz : ∀ x y, f x y = z) : Gr W g ty f w h :=
  ⟨_, hb, fun X Y hX hY => by rw [made_at _ _ (grid_lt hX hY), hz]⟩
theorem new_fin {W : World} {a b c d o : Obj} {A V S T R w h N : Nat} (hf : fits (w : Int) (h : Int)) (hN : N = (w + 2) * (h + 2))
    (ho : HeapIs W.heap.size [a, b, c, d, o] A (.cells #[.int .i64 (w : Int), .int .i64 (h : Int), .slice (some ⟨V, 0, none⟩) N N, .slice (some ⟨S, 0, none⟩) N N, .slice (some ⟨T, 0, none⟩) N N, .slice (some ⟨R, 0, none⟩) N N, .pointer (some ⟨A, 0, none⟩)] 93))
    (hV : HeapIs W.heap.size [a, b, c, d, o] V (zI N)) (hS : HeapIs W.heap.size [a, b, c, d, o] S (zU N)) (hT : HeapIs W.heap.size [a, b, c, d, o] T (zB N)) (hR : HeapIs W.heap.size [a, b, c, d, o] R (zB N)) (hTR : T ≠ R) :
    Cb (((((W.alloc a).alloc b).alloc c).alloc d).alloc o).drew W.heap.size A V S T R w h St.zero ∧ Below W.heap.size W (((((W.alloc a).alloc b).alloc c).alloc d).alloc o).drew := by
  subst hN
  refine ⟨⟨hf, ho.at.2, hV.at.2, hS.at.2, hT.at.2, hR.at.2, ho.at.1, gr_made hV.at.1 _ (fun _ _ => rfl), gr_made hS.at.1 _ (fun _ _ => rfl), gr_made hT.at.1 _ (fun _ _ => rfl), gr_made hR.at.1 _ (fun _ _ => rfl), hTR, fun _ _ _ => ⟨rfl, rfl, rfl, rfl⟩⟩, (heap5 W a b c d o).2.2.2.2.2⟩
set_option maxHeartbeats 8000000 in
theorem new_yes (w h : Nat) (hf : fits (w : Int) (h : Int)) (W : World) : Calls Tryd.prog 54 #[.int .i64 (w : Int), .int .i64 (h : Int)] W fun e w' => ∃ A V S T R, e = .returned (.tuple #[.pointer (some ⟨A, 0, none⟩), .int .i64 0]) ∧ Cb w' W.heap.size A V S T R w h St.zero ∧ Below W.heap.size W w' := by
  have k := sized_y _ _ hf
  have hfit : (w : Int) ≤ 64 ∧ (h : Int) ≤ 64 := by unfold fits at hf; omega
  obtain ⟨hf1, hf2⟩ := hfit
  have hn : (w + 2) * (h + 2) ≤ 4356 := Nat.mul_le_mul (show w + 2 ≤ 66 by omega) (show h + 2 ≤ 66 by omega)
  have wm : IntKind.i64.wrap (((w : Int) + 2) * ((h : Int) + 2)) = (((w + 2) * (h + 2) : Nat) : Int) := wrap_mul (w + 2) (h + 2) (by omega)
  have m1 := mkI ((w + 2) * (h + 2)) hn
  have m2 := mkU ((w + 2) * (h + 2)) hn
  have m3 := mkB ((w + 2) * (h + 2)) hn
  have HF := Lib.hid hf
  obtain ⟨N, hN⟩ : ∃ N, N = (w + 2) * (h + 2) := ⟨_, rfl⟩
  rw [← hN] at wm m1 m2 m3
  have HN := Lib.hid hN
  clear hf hN hn
  go_enter Tryd.func54, Tryd.ntmps54
  go_wp2_with (first | (go_at_call 65; (with_reducible refine (k _).mono ?_); rintro e wn ⟨rfl, rfl⟩))
  go_region
  all_goals
    go_wp2_with fail
    go_ret2
    exact ⟨_, _, _, _, _, rfl, new_fin HF.out HN.out ⟨4, rfl, rfl⟩ (by first | exact ⟨0, rfl, rfl⟩ | exact ⟨1, rfl, rfl⟩ | exact ⟨2, rfl, rfl⟩ | exact ⟨3, rfl, rfl⟩) (by first | exact ⟨0, rfl, rfl⟩ | exact ⟨1, rfl, rfl⟩ | exact ⟨2, rfl, rfl⟩ | exact ⟨3, rfl, rfl⟩) (by first | exact ⟨0, rfl, rfl⟩ | exact ⟨1, rfl, rfl⟩ | exact ⟨2, rfl, rfl⟩ | exact ⟨3, rfl, rfl⟩) (by first | exact ⟨0, rfl, rfl⟩ | exact ⟨1, rfl, rfl⟩ | exact ⟨2, rfl, rfl⟩ | exact ⟨3, rfl, rfl⟩) (by omega)⟩
end Go.Proofs.YtnmmgjbjnhiaoaaDoor
