/-
  The plain mathematics of layer 5: planes as lists of rows, transposed lists, the transform of rows and of columns, and back. No program in sight.
-/
import Derived.Test.YtnfnidgabgdphaaLift
set_option maxRecDepth 100000
namespace Go.Proofs.Ytnfnidgabgdphaa.Ex

/-! Lists of rows, and their columns -/
/-- The first n columns of a list of rows. -/
def trn (n : Nat) (Q : List (List Int)) : List (List Int) := (List.range n).map fun x => Q.map fun r => r.getD x 0
theorem trn_len (n : Nat) (Q : List (List Int)) : (trn n Q).length = n := by simp [trn]
theorem trn_at {n : Nat} {Q : List (List Int)} {x : Nat} (hx : x < (trn n Q).length) : (trn n Q)[x] = Q.map fun r => r.getD x 0 := by simp [trn]
theorem trn_mem {n : Nat} {Q : List (List Int)} {c : List Int} (h : c ∈ trn n Q) : c.length = Q.length := by
  obtain ⟨x, _, rfl⟩ := List.mem_map.1 h
  simp
/-- All rows are as long. -/
def Wide (n : Nat) (Q : List (List Int)) : Prop := ∀ r ∈ Q, r.length = n
theorem trn_wide (n : Nat) (Q : List (List Int)) : Wide Q.length (trn n Q) := fun _ h => trn_mem h
theorem trn_trn {n : Nat} {Q : List (List Int)} (h : Wide n Q) : trn Q.length (trn n Q) = Q := by
  refine List.ext_getElem (by rw [trn_len]) fun y h1 h2 => ?_
  have hw := h _ (List.getElem_mem h2)
  rw [trn_at h1]
  refine List.ext_getElem (by simp [trn_len, hw]) fun x h3 h4 => ?_
  simp [trn, h2, h4]
theorem flat_len {n : Nat} : ∀ {Q : List (List Int)}, Wide n Q → Q.flatten.length = Q.length * n := by
  intro Q
  induction Q with
  | nil => intro _; simp
  | cons r Q ih =>
    intro h
    rw [List.flatten_cons, List.length_append, h r (by simp), ih (fun c hc => h c (by simp [hc])), List.length_cons, Nat.add_mul, Nat.one_mul, Nat.add_comm]
theorem flat_get {n : Nat} : ∀ {Q : List (List Int)}, Wide n Q → ∀ {y x : Nat} (hy : y < Q.length), x < n → Q.flatten[y * n + x]? = some (Q[y].getD x 0) := by
  intro Q
  induction Q with
  | nil => intro _ y x hy; simp at hy
  | cons r Q ih =>
    intro h y x hy hx
    have hr := h r (by simp)
    cases y with
    | zero =>
      rw [Nat.zero_mul, Nat.zero_add, List.flatten_cons, List.getElem?_append_left (by omega)]
      simp [hr, hx]
    | succ y =>
      rw [List.flatten_cons, Nat.add_mul, Nat.one_mul, List.getElem?_append_right (by omega), show y * n + n + x - r.length = y * n + x by omega, ih (fun c hc => h c (by simp [hc])) (by simpa using hy) hx]
      rfl
/-- A list in rows. -/
def cutR (w : Nat) (l : List Int) (h : Nat) : List (List Int) := (List.range h).map fun y => (l.drop (y * w)).take w
theorem cutR_len (w : Nat) (l : List Int) (h : Nat) : (cutR w l h).length = h := by simp [cutR]
theorem cutR_at {w : Nat} {l : List Int} {h y : Nat} (hy : y < (cutR w l h).length) : (cutR w l h)[y] = (l.drop (y * w)).take w := by simp [cutR]
theorem cutR_wide {w : Nat} {l : List Int} {h : Nat} (hl : l.length = h * w) : Wide w (cutR w l h) := by
  intro r hr
  obtain ⟨y, hy, rfl⟩ := List.mem_map.1 hr
  have hy' : y < h := by simpa using hy
  have : (y + 1) * w ≤ h * w := Nat.mul_le_mul_right _ hy'
  rw [Nat.add_mul, Nat.one_mul] at this
  simp; omega
theorem cutR_flat {w : Nat} {l : List Int} {h : Nat} (hl : l.length = h * w) : (cutR w l h).flatten = l := by
  have key : ∀ k, k ≤ h → (cutR w l k).flatten = l.take (k * w) := by
    intro k
    induction k with
    | zero => intro _; simp [cutR]
    | succ k ih =>
      intro hk
      have e : cutR w l (k + 1) = cutR w l k ++ [(l.drop (k * w)).take w] := by simp [cutR, List.range_succ]
      rw [e, List.flatten_append, ih (by omega), List.flatten_cons, List.flatten_nil, List.append_nil, Nat.add_mul, Nat.one_mul, List.take_add]
  rw [key h (Nat.le_refl _), ← hl, List.take_length]
theorem flat_inj {n : Nat} {P Q : List (List Int)} (hP : Wide n P) (hQ : Wide n Q) (hl : P.length = Q.length) (h : P.flatten = Q.flatten) : P = Q := by
  refine List.ext_getElem hl fun y h1 h2 => ?_
  have w1 := hP _ (List.getElem_mem h1)
  have w2 := hQ _ (List.getElem_mem h2)
  refine List.ext_getElem (by omega) fun x h3 h4 => ?_
  have e1 := flat_get hP h1 (x := x) (by omega)
  have e2 := flat_get hQ h2 (x := x) (by omega)
  rw [h, e2] at e1
  simp [h3, h4] at e1
  exact e1.symm
theorem cut_flat {n : Nat} {Q : List (List Int)} (h : Wide n Q) : cutR n Q.flatten Q.length = Q :=
  flat_inj (cutR_wide (flat_len h)) h (cutR_len _ _ _) (cutR_flat (flat_len h))

theorem cnt_le {s : Int} {n : Nat} : cntE s n ≤ n ∧ cntO s n ≤ n := by
  have h := (cnt_next (s := s) (k := n)).2.2
  omega

/-! The transform -/
def loF (s k : Int) (x : List Int) : List Int := splitE s (fwdL s x k)
def hiF (s k : Int) (x : List Int) : List Int := splitO s (fwdL s x k)
def unF (s k : Int) (a b : List Int) : List Int := invL s (joinL s a b) k
theorem loF_len (s k : Int) (x : List Int) : (loF s k x).length = cntE s x.length := by rw [loF, splitE_len, fwd_len]
theorem hiF_len (s k : Int) (x : List Int) : (hiF s k x).length = cntO s x.length := by rw [hiF, splitO_len, fwd_len]
theorem un_lohi (s k : Int) (x : List Int) : unF s k (loF s k x) (hiF s k x) = x := by rw [unF, loF, hiF, join_split, inv_fwd]
theorem unF_len (s k : Int) (a b : List Int) : (unF s k a b).length = a.length + b.length := by rw [unF, inv_len, joinL_len]
/-- The rows of a half of a plane in rows, then the columns of a half. -/
def lowR (s k : Int) (P : List (List Int)) : List (List Int) := P.map (loF s k)
def highR (s k : Int) (P : List (List Int)) : List (List Int) := P.map (hiF s k)
theorem lowR_wide {s k : Int} {n : Nat} {P : List (List Int)} (h : Wide n P) : Wide (cntE s n) (lowR s k P) := fun r hr => by
  obtain ⟨x, hx, rfl⟩ := List.mem_map.1 hr
  rw [loF_len, h x hx]
theorem highR_wide {s k : Int} {n : Nat} {P : List (List Int)} (h : Wide n P) : Wide (cntO s n) (highR s k P) := fun r hr => by
  obtain ⟨x, hx, rfl⟩ := List.mem_map.1 hr
  rw [hiF_len, h x hx]
/-- The rows of the low (of the high) plane of n columns: what each column becomes, transposed. -/
def lowC (s k : Int) (n : Nat) (L : List (List Int)) : List (List Int) := trn (cntE s L.length) (lowR s k (trn n L))
def highC (s k : Int) (n : Nat) (L : List (List Int)) : List (List Int) := trn (cntO s L.length) (highR s k (trn n L))
theorem lowC_len (s k : Int) (n : Nat) (L : List (List Int)) : (lowC s k n L).length = cntE s L.length := trn_len _ _
theorem highC_len (s k : Int) (n : Nat) (L : List (List Int)) : (highC s k n L).length = cntO s L.length := trn_len _ _
theorem lowC_wide (s k : Int) (n : Nat) (L : List (List Int)) : Wide n (lowC s k n L) := fun r hr => by
  rw [trn_mem hr, lowR, List.length_map, trn_len]
theorem highC_wide (s k : Int) (n : Nat) (L : List (List Int)) : Wide n (highC s k n L) := fun r hr => by
  rw [trn_mem hr, highR, List.length_map, trn_len]
/-- Columns restored from those of two planes, transposed. -/
def unC (s k : Int) (n : Nat) (A B : List (List Int)) : List (List Int) := trn (A.length + B.length) (List.zipWith (unF s k) (trn n A) (trn n B))
def unR (s k : Int) (L H : List (List Int)) : List (List Int) := List.zipWith (unF s k) L H
theorem unC_len (s k : Int) (n : Nat) (A B : List (List Int)) : (unC s k n A B).length = A.length + B.length := trn_len _ _
theorem zip_back (s k : Int) (P : List (List Int)) : List.zipWith (unF s k) (lowR s k P) (highR s k P) = P := by
  induction P with
  | nil => rfl
  | cons x P ih => rw [lowR, highR, List.map_cons, List.map_cons, List.zipWith_cons_cons, un_lohi]; exact congrArg _ ih
theorem unC_back {s k : Int} {n : Nat} {L : List (List Int)} (h : Wide n L) : unC s k n (lowC s k n L) (highC s k n L) = L := by
  have hw : Wide L.length (trn n L) := trn_wide n L
  have h1 : trn n (lowC s k n L) = lowR s k (trn n L) := by
    have := trn_trn (lowR_wide (s := s) (k := k) hw)
    rw [show (lowR s k (trn n L)).length = n by rw [lowR, List.length_map, trn_len]] at this
    exact this
  have h2 : trn n (highC s k n L) = highR s k (trn n L) := by
    have := trn_trn (highR_wide (s := s) (k := k) hw)
    rw [show (highR s k (trn n L)).length = n by rw [highR, List.length_map, trn_len]] at this
    exact this
  rw [unC, h1, h2, zip_back, lowC_len, highC_len, (cnt_next (s := s) (k := L.length)).2.2.2]
  exact trn_trn h

/-! Finer bounds of what is restored -/
theorem ex_par_bd {s b p : Int} {x : List Int} (hn : 1 < x.length) (h : ∀ i, s ≤ i → i < s + x.length → i % 2 = p → -b ≤ sg s x i ∧ sg s x i ≤ b) {i : Int} (hi : i % 2 = p) : -b ≤ ex s x i ∧ ex s x i ≤ b := by
  obtain ⟨h0, h1⟩ := mir_mem (i := i) (lo := s) (hi := s + x.length) (by omega)
  have h2 := mir_par (i := i) (lo := s) (hi := s + x.length) (by omega)
  exact h _ h0 h1 (by omega)
theorem unst2_fine {s k b : Int} {y : List Int} (hk : k = 1 ∨ k = 2 ∨ k = 3) (h : within b y) {i : Int} (h0 : s ≤ i) (h1 : i < s + y.length) :
    (i % 2 = 0 → -(b + (b + 1) / 2) ≤ sg s (unst2 s y k) i ∧ sg s (unst2 s y k) i ≤ b + (b + 1) / 2) ∧ (i % 2 ≠ 0 → -b ≤ sg s (unst2 s y k) i ∧ sg s (unst2 s y k) i ≤ b) := by
  have hx := h _ (sg_mem (s := s) h0 h1)
  have hn : 0 < y.length := by omega
  have g1 := ex_bd (s := s) hn h (i - 1)
  have g2 := ex_bd (s := s) hn h (i + 1)
  rw [unst2, sg_tb h0 h1, unst2F]
  refine ⟨fun hp => ?_, fun hp => by rw [if_neg hp]; exact hx⟩
  rw [if_pos hp, updF]
  rcases hk with rfl | rfl | rfl
  · simp only [↓reduceIte]; omega
  · simp only [Int.reduceEq, ↓reduceIte]; omega
  · simp only [Int.reduceEq, ↓reduceIte]; omega
theorem inv_fine {s k b : Int} {y : List Int} (hk : k = 1 ∨ k = 2 ∨ k = 3) (hb : 0 ≤ b) (h : within b y) : within (3 * b + 3) (invL s y k) := by
  unfold invL
  by_cases hn : 1 < y.length
  · rw [if_pos hn]
    intro v hv
    obtain ⟨j, hj, rfl⟩ := List.getElem_of_mem hv
    have hj' : j < y.length := by rw [unst1_len, unst2_len] at hj; exact hj
    rw [← sg_at (s := s) hj, unst1, sg_tb (by omega) (by rw [unst2_len]; omega), unst1F]
    have hz := unst2_fine (s := s) (i := s + (j : Int)) hk h (by omega) (by omega)
    have he : ∀ i, i % 2 = 0 → -(b + (b + 1) / 2) ≤ ex s (unst2 s y k) i ∧ ex s (unst2 s y k) i ≤ b + (b + 1) / 2 := fun i hi => ex_par_bd (by rw [unst2_len]; exact hn) (fun i' a c d => (unst2_fine hk h a (by rw [unst2_len] at c; exact c)).1 d) hi
    generalize unst2 s y k = z at *
    by_cases hp : (s + (j : Int)) % 2 = 0
    · rw [if_pos hp]
      have := hz.1 hp
      omega
    · rw [if_neg hp, predF]
      have hzz := hz.2 hp
      have g1 := he (s + (j : Int) - 1) (by omega)
      have g2 := he (s + (j : Int) + 1) (by omega)
      have g3 := he (s + (j : Int) - 3) (by omega)
      have g4 := he (s + (j : Int) + 3) (by omega)
      clear he hz
      rcases hk with rfl | rfl | rfl
      · simp only [↓reduceIte]; omega
      · simp only [Int.reduceEq, ↓reduceIte]; omega
      · simp only [Int.reduceEq, ↓reduceIte]; omega
  · rw [if_neg hn]
    intro v hv
    have := h v hv
    omega
/-- Four planes of rows, restored: columns first, then rows. -/
def mrg (a b k : Int) (n : Nat) (ll hl lh hh : List (List Int)) : List (List Int) := unR a k (unC b k (cntE a n) ll lh) (unC b k (cntO a n) hl hh)
theorem mrg_split {a b k : Int} {n : Nat} {P : List (List Int)} (h : Wide n P) :
    mrg a b k n (lowC b k (cntE a n) (lowR a k P)) (lowC b k (cntO a n) (highR a k P)) (highC b k (cntE a n) (lowR a k P)) (highC b k (cntO a n) (highR a k P)) = P := by
  rw [mrg, unC_back (lowR_wide h), unC_back (highR_wide h)]
  exact zip_back a k P
end Go.Proofs.Ytnfnidgabgdphaa.Ex
