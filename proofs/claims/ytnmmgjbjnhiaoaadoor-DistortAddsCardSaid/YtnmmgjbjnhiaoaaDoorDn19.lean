/-
  Layer 19, for DistortAdds: sums of squared errors, turned and parted; three lists that grow in one block.
-/
import Derived.Test.YtnmmgjbjnhiaoaaDoorDl19
import Derived.Maps.AppendAt
set_option maxRecDepth 100000
namespace Go.Proofs.YtnmmgjbjnhiaoaaDoor
open Go.RowKit

def sm (f : Nat → Int) : Nat → Int
  | 0 => 0
  | k + 1 => sm f k + f k
theorem sm_congr {f g : Nat → Int} {k : Nat} (h : ∀ i, i < k → f i = g i) : sm f k = sm g k := by
  induction k with
  | zero => rfl
  | succ k ih => show sm f k + f k = sm g k + g k; rw [ih (fun i hi => h i (by omega)), h k (by omega)]
theorem sm_add (f : Nat → Int) (a b : Nat) : sm f (a + b) = sm f a + sm (fun i => f (a + i)) b := by
  induction b with
  | zero => show sm f a = sm f a + 0; omega
  | succ b ih => show sm f (a + b) + f (a + b) = sm f a + (sm (fun i => f (a + i)) b + f (a + b)); rw [ih]; omega
theorem sm_rev (f : Nat → Int) : ∀ n, sm (fun i => f (n - 1 - i)) n = sm f n
  | 0 => rfl
  | n + 1 => by
    have h1 := sm_add (fun i => f (n + 1 - 1 - i)) 1 n
    rw [Nat.add_comm 1 n] at h1
    rw [h1]
    have h2 : sm (fun i => f (n + 1 - 1 - i)) 1 = f n := by show (0 : Int) + f (n + 1 - 1 - 0) = f n; simp
    have h3 : sm (fun i => f (n + 1 - 1 - (1 + i))) n = sm (fun i => f (n - 1 - i)) n := sm_congr fun i hi => by congr 1; omega
    rw [h2, h3, sm_rev f n]
    show f n + sm f n = sm f n + f n
    omega
theorem suE_sm (l1 l2 l3 : List Int) (s d : Int) (k : Nat) : suE l1 l2 l3 s d k = sm (fun i => eQ l1 l2 l3 s d i * eQ l1 l2 l3 s d i) k := by
  induction k with
  | zero => rfl
  | succ k ih => show _ + _ = _ + _; rw [ih]
theorem getD_rev (l : List Int) (i : Nat) (h : i < l.length) : l.reverse.getD i 0 = l.getD (l.length - 1 - i) 0 := by
  simp [List.getD, List.getElem?_reverse h]
theorem getD_take (l : List Int) (k i : Nat) (h : i < k) : (l.take k).getD i 0 = l.getD i 0 := by
  simp [List.getD, h]
theorem getD_drop (l : List Int) (k i : Nat) : (l.drop k).getD i 0 = l.getD (k + i) 0 := by
  simp [List.getD, List.getElem?_drop]
theorem suE_rev {A B C : List Int} {n : Nat} (s d : Int) (hA : A.length = n) (hB : B.length = n) (hC : C.length = n) : suE A.reverse B.reverse C.reverse s d n = suE A B C s d n := by
  rw [suE_sm, suE_sm, ← sm_rev (fun i => eQ A B C s d i * eQ A B C s d i)]
  refine sm_congr fun i hi => ?_
  show eQ A.reverse B.reverse C.reverse s d i * eQ A.reverse B.reverse C.reverse s d i = eQ A B C s d (n - 1 - i) * eQ A B C s d (n - 1 - i)
  unfold eQ
  rw [getD_rev A i (by omega), getD_rev B i (by omega), getD_rev C i (by omega), hA, hB, hC]
theorem suE_split (A B C : List Int) (s d : Int) (k m : Nat) : suE (A.take k) (B.take k) (C.take k) s d k + suE (A.drop k) (B.drop k) (C.drop k) s d m = suE A B C s d (k + m) := by
  rw [suE_sm, suE_sm, suE_sm, sm_add]
  congr 1
  · refine sm_congr fun i hi => ?_
    unfold eQ
    rw [getD_take A k i hi, getD_take B k i hi, getD_take C k i hi]
  · refine sm_congr fun i hi => ?_
    unfold eQ
    rw [getD_drop, getD_drop, getD_drop]
theorem allM_mem {l : List Int} : AllM l ↔ ∀ x ∈ l, msB x := by
  constructor
  · intro h x hx
    obtain ⟨i, hi, rfl⟩ := List.getElem_of_mem hx
    have := h i hi
    simpa [List.getD, hi] using this
  · intro h i hi
    have : l.getD i 0 = l[i] := by simp [List.getD, hi]
    rw [this]
    exact h _ (List.getElem_mem hi)
/-- Total of arguments that it accepts. -/
theorem to_ok {A B C : List Int} {s d w : Int} (h1 : B.length = A.length) (h2 : C.length = A.length) (h3 : A.length ≤ 4096) (hv : Qu.vB s d = true) (hw : 0 ≤ w ∧ w ≤ 16) (hm : AllM C) : toE A B C s d w = 0 ∧ toV A B C s d w = w * suE A B C s d A.length := by
  have e : toE A B C s d w = 0 := by
    unfold toE
    rw [if_neg (by omega), if_neg (by omega), if_neg (by rw [hv]; simp; omega), if_pos hm]
  exact ⟨e, by unfold toV; rw [if_pos e]⟩
/-- The list as it has been turned after i rounds. -/
def rvk (l : List Int) (i : Nat) : List Int := l.reverse.take i
theorem rvk_len (l : List Int) (i : Nat) (h : i ≤ l.length) : (rvk l i).length = i := by unfold rvk; simp; omega
theorem rvk_all (l : List Int) : rvk l l.length = l.reverse := by unfold rvk; rw [List.take_of_length_le (by simp)]
theorem rvk_next (l : List Int) (i : Nat) (h : i < l.length) : rvk l (i + 1) = rvk l i ++ [l.getD (l.length - 1 - i) 0] := by
  unfold rvk
  rw [List.take_add_one, ← getD_rev l i h]
  have : i < l.reverse.length := by simpa using h
  simp [List.getD, List.getElem?_eq_getElem this]
/-- A row that grows leaves another one as it is. -/
theorem rows_grow {w w2 : World} {base m : Nat} {v1 v2 v' : Value} {ys : List Value} {X : Obj} (h2 : w.ownsRow base 3 1 v2 m ys) (ap : ∀ g, v1.ownBlock = some g → v2.ownBlock ≠ some g)
    (hg : (w.alloc X).grownBy w2 v1.ownBlock) (hat : v'.ownBlock = v1.ownBlock ∨ v'.ownBlock = some (w.heap.size + 1)) : w2.ownsRow base 3 1 v2 m ys ∧ ∀ g, v'.ownBlock = some g → v2.ownBlock ≠ some g := by
  refine ⟨own_grown19 (own_below h2 ((Below.refl _ _).alloc (Nat.le_refl _) X)) hg (fun g a b => ap g b a), fun g hg1 hg2 => ?_⟩
  rcases hat with h | h
  · exact ap g (by rw [← h]; exact hg1) hg2
  · rw [hg1] at h
    have := own_lt19 h2 hg2
    simp at h
    omega
/-- Three lists of the call's own in one block. -/
structure A3 (M wr : World) (g : Nat) (la lb lc : List Int) (va vb vc : Value) : Prop where
  gz : g = M.heap.size
  bx : Blk wr g 30 #[va, vb, vc]
  oa : wr.ownsRow g 3 1 va la.length (la.map (Value.int .i64))
  ob : wr.ownsRow g 3 1 vb lb.length (lb.map (Value.int .i64))
  oc : wr.ownsRow g 3 1 vc lc.length (lc.map (Value.int .i64))
  ab : ∀ k, va.ownBlock = some k → vb.ownBlock ≠ some k
  ac : ∀ k, va.ownBlock = some k → vc.ownBlock ≠ some k
  bc : ∀ k, vb.ownBlock = some k → vc.ownBlock ≠ some k
  be : Below M.heap.size M wr
section
variable {M w w1 w2 : World} {g : Nat} {la lb lc : List Int} {va vb vc v' : Value}
theorem A3.call (H : A3 M w g la lb lc va vb vc) (hb : Below w.heap.size w w1) : A3 M w1 g la lb lc va vb vc := ⟨H.gz, H.bx.below hb, own_below H.oa hb, own_below H.ob hb, own_below H.oc hb, H.ab, H.ac, H.bc, below_call H.be hb⟩
theorem A3.new (M : World) (hg : g = M.heap.size) : A3 M (M.alloc (.cells #[.slice none 0 0, .slice none 0 0, .slice none 0 0] 30)) g [] [] [] (.slice none 0 0) (.slice none 0 0) (.slice none 0 0) := by
  subst hg
  exact ⟨rfl, Blk.new M _ _, World.ownsRow_nil _ _ _ _, World.ownsRow_nil _ _ _ _, World.ownsRow_nil _ _ _ _, fun k h => by simp [Value.ownBlock] at h, fun k h => by simp [Value.ownBlock] at h, fun k h => by simp [Value.ownBlock] at h, below_alloc (Below.refl _ M) _⟩
theorem A3.s0 (H : A3 M w g la lb lc va vb vc) {b : Int} {X : Obj} (hown : w2.ownsRow g 3 1 v' (la.length + 1) (la.map (Value.int .i64) ++ [.int .i64 b])) (hg : (w.alloc X).grownBy w2 va.ownBlock) (hat : v'.ownBlock = va.ownBlock ∨ v'.ownBlock = some (w.heap.size + 1)) :
    A3 M (w2.setCell ⟨g, 0, none⟩ v') g (la ++ [b]) lb lc v' vb vc ∧ w2.cell? ⟨g, 0, none⟩ = some va ∧ ∀ i, w2.frozen? ⟨g, i, none⟩ = false := by
  have hbz : Blk w2 g 30 #[va, vb, vc] := (H.bx.alloc X).grown hg (fun he => own_blk_ne H.oa H.bx (by decide) he.symm)
  have n0 := own_blk_ne hown hbz (by decide)
  obtain ⟨p0, d0⟩ := rows_grow H.ob H.ab hg hat
  have m0 := own_blk_ne p0 hbz (by decide)
  obtain ⟨p1, d1⟩ := rows_grow H.oc H.ac hg hat
  have m1 := own_blk_ne p1 hbz (by decide)
  have hl : w2.ownsRow g 3 1 v' (la ++ [b]).length ((la ++ [b]).map (Value.int .i64)) := by rw [List.length_append, List.map_append]; exact hown
  have hbe : Below M.heap.size M w2 := (H.be.alloc H.be.size X).grown hg (by have := H.be.size; simp; omega) fun j hj => by have := (own_foot H.oa hj).1; have := H.gz; omega
  have hbs := hbz.set 0 v'
  exact ⟨⟨H.gz, by simpa using hbs, own_far hl _ _ n0, own_far p0 _ _ m0, own_far p1 _ _ m1, d0, d1, H.bc, hbe.setCell (p := ⟨g, 0, none⟩) (by show M.heap.size ≤ g; rw [H.gz]; exact Nat.le_refl _) v'⟩, hbz.cell 0, hbz.free⟩
theorem A3.s1 (H : A3 M w g la lb lc va vb vc) {b : Int} {X : Obj} (hown : w2.ownsRow g 3 1 v' (lb.length + 1) (lb.map (Value.int .i64) ++ [.int .i64 b])) (hg : (w.alloc X).grownBy w2 vb.ownBlock) (hat : v'.ownBlock = vb.ownBlock ∨ v'.ownBlock = some (w.heap.size + 1)) :
    A3 M (w2.setCell ⟨g, 1, none⟩ v') g la (lb ++ [b]) lc va v' vc ∧ w2.cell? ⟨g, 1, none⟩ = some vb ∧ ∀ i, w2.frozen? ⟨g, i, none⟩ = false := by
  have hbz : Blk w2 g 30 #[va, vb, vc] := (H.bx.alloc X).grown hg (fun he => own_blk_ne H.ob H.bx (by decide) he.symm)
  have n0 := own_blk_ne hown hbz (by decide)
  obtain ⟨p0, d0⟩ := rows_grow H.oa (fun k h1 h2 => H.ab k h2 h1) hg hat
  have m0 := own_blk_ne p0 hbz (by decide)
  obtain ⟨p1, d1⟩ := rows_grow H.oc H.bc hg hat
  have m1 := own_blk_ne p1 hbz (by decide)
  have hl : w2.ownsRow g 3 1 v' (lb ++ [b]).length ((lb ++ [b]).map (Value.int .i64)) := by rw [List.length_append, List.map_append]; exact hown
  have hbe : Below M.heap.size M w2 := (H.be.alloc H.be.size X).grown hg (by have := H.be.size; simp; omega) fun j hj => by have := (own_foot H.ob hj).1; have := H.gz; omega
  have hbs := hbz.set 1 v'
  exact ⟨⟨H.gz, by simpa using hbs, own_far p0 _ _ m0, own_far hl _ _ n0, own_far p1 _ _ m1, (fun k h1 h2 => d0 k h2 h1), H.ac, d1, hbe.setCell (p := ⟨g, 1, none⟩) (by show M.heap.size ≤ g; rw [H.gz]; exact Nat.le_refl _) v'⟩, hbz.cell 1, hbz.free⟩
theorem A3.s2 (H : A3 M w g la lb lc va vb vc) {b : Int} {X : Obj} (hown : w2.ownsRow g 3 1 v' (lc.length + 1) (lc.map (Value.int .i64) ++ [.int .i64 b])) (hg : (w.alloc X).grownBy w2 vc.ownBlock) (hat : v'.ownBlock = vc.ownBlock ∨ v'.ownBlock = some (w.heap.size + 1)) :
    A3 M (w2.setCell ⟨g, 2, none⟩ v') g la lb (lc ++ [b]) va vb v' ∧ w2.cell? ⟨g, 2, none⟩ = some vc ∧ ∀ i, w2.frozen? ⟨g, i, none⟩ = false := by
  have hbz : Blk w2 g 30 #[va, vb, vc] := (H.bx.alloc X).grown hg (fun he => own_blk_ne H.oc H.bx (by decide) he.symm)
  have n0 := own_blk_ne hown hbz (by decide)
  obtain ⟨p0, d0⟩ := rows_grow H.oa (fun k h1 h2 => H.ac k h2 h1) hg hat
  have m0 := own_blk_ne p0 hbz (by decide)
  obtain ⟨p1, d1⟩ := rows_grow H.ob (fun k h1 h2 => H.bc k h2 h1) hg hat
  have m1 := own_blk_ne p1 hbz (by decide)
  have hl : w2.ownsRow g 3 1 v' (lc ++ [b]).length ((lc ++ [b]).map (Value.int .i64)) := by rw [List.length_append, List.map_append]; exact hown
  have hbe : Below M.heap.size M w2 := (H.be.alloc H.be.size X).grown hg (by have := H.be.size; simp; omega) fun j hj => by have := (own_foot H.oc hj).1; have := H.gz; omega
  have hbs := hbz.set 2 v'
  exact ⟨⟨H.gz, by simpa using hbs, own_far p0 _ _ m0, own_far p1 _ _ m1, own_far hl _ _ n0, H.ab, (fun k h1 h2 => d0 k h2 h1), (fun k h1 h2 => d1 k h2 h1), hbe.setCell (p := ⟨g, 2, none⟩) (by show M.heap.size ≤ g; rw [H.gz]; exact Nat.le_refl _) v'⟩, hbz.cell 2, hbz.free⟩
end
end Go.Proofs.YtnmmgjbjnhiaoaaDoor
