/-
  Layers 1 to 5, the base: Dwt, DwA, DwB, DwC of one piece.
-/
import Derived.Test.YtoplgnckdmkaoaaBsF
import Derived.Deep.MidRow
set_option maxRecDepth 100000
namespace Go.Proofs.Ytoplgnckdmkaoaa.Ex

/-! Lists of rows, and their columns -/
/-- The first n columns of a list of rows. -/
def trn (n : Nat) (Q : List (List Int)) : List (List Int) := (List.range n).map fun x => Q.map fun r => r.getD x 0
theorem trn_len (n : Nat) (Q : List (List Int)) : (trn n Q).length = n := by simp [trn]
theorem trn_at {n : Nat} {Q : List (List Int)} {x : Nat} (hx : x < (trn n Q).length) : (trn n Q)[x] = Q.map fun r => r.getD x 0 := by simp [trn]
theorem trn_mem {n : Nat} {Q : List (List Int)} {c : List Int} (h : c ∈ trn n Q) : c.length = Q.length := by
  obtain ⟨x, _, rfl⟩ := List.mem_map.1 h
  simp
/-- All rows are as long. -/
def Wide (n : Nat) (Q : List (List Int)) : Prop := ∀ r ∈ Q, r.length = n
theorem trn_wide (n : Nat) (Q : List (List Int)) : Wide Q.length (trn n Q) := fun _ h => trn_mem h
theorem trn_trn {n : Nat} {Q : List (List Int)} (h : Wide n Q) : trn Q.length (trn n Q) = Q := by
  refine List.ext_getElem (by rw [trn_len]) fun y h1 h2 => ?_
  have hw := h _ (List.getElem_mem h2)
  rw [trn_at h1]
  refine List.ext_getElem (by simp [trn_len, hw]) fun x h3 h4 => ?_
  simp [trn, h2, h4]
theorem flat_len {n : Nat} : ∀ {Q : List (List Int)}, Wide n Q → Q.flatten.length = Q.length * n := by
  intro Q
  induction Q with
  | nil => intro _; simp
  | cons r Q ih =>
    intro h
    rw [List.flatten_cons, List.length_append, h r (by simp), ih (fun c hc => h c (by simp [hc])), List.length_cons, Nat.add_mul, Nat.one_mul, Nat.add_comm]
theorem flat_get {n : Nat} : ∀ {Q : List (List Int)}, Wide n Q → ∀ {y x : Nat} (hy : y < Q.length), x < n → Q.flatten[y * n + x]? = some (Q[y].getD x 0) := by
  intro Q
  induction Q with
  | nil => intro _ y x hy; simp at hy
  | cons r Q ih =>
    intro h y x hy hx
    have hr := h r (by simp)
    cases y with
    | zero =>
      rw [Nat.zero_mul, Nat.zero_add, List.flatten_cons, List.getElem?_append_left (by omega)]
      simp [hr, hx]
    | succ y =>
      rw [List.flatten_cons, Nat.add_mul, Nat.one_mul, List.getElem?_append_right (by omega), show y * n + n + x - r.length = y * n + x by omega, ih (fun c hc => h c (by simp [hc])) (by simpa using hy) hx]
      rfl
/-- A list in rows. -/
def cutR (w : Nat) (l : List Int) (h : Nat) : List (List Int) := (List.range h).map fun y => (l.drop (y * w)).take w
theorem cutR_len (w : Nat) (l : List Int) (h : Nat) : (cutR w l h).length = h := by simp [cutR]
theorem cutR_at {w : Nat} {l : List Int} {h y : Nat} (hy : y < (cutR w l h).length) : (cutR w l h)[y] = (l.drop (y * w)).take w := by simp [cutR]
theorem cutR_wide {w : Nat} {l : List Int} {h : Nat} (hl : l.length = h * w) : Wide w (cutR w l h) := by
  intro r hr
  obtain ⟨y, hy, rfl⟩ := List.mem_map.1 hr
  have hy' : y < h := by simpa using hy
  have : (y + 1) * w ≤ h * w := Nat.mul_le_mul_right _ hy'
  rw [Nat.add_mul, Nat.one_mul] at this
  simp; omega
theorem cutR_flat {w : Nat} {l : List Int} {h : Nat} (hl : l.length = h * w) : (cutR w l h).flatten = l := by
  have key : ∀ k, k ≤ h → (cutR w l k).flatten = l.take (k * w) := by
    intro k
    induction k with
    | zero => intro _; simp [cutR]
    | succ k ih =>
      intro hk
      have e : cutR w l (k + 1) = cutR w l k ++ [(l.drop (k * w)).take w] := by simp [cutR, List.range_succ]
      rw [e, List.flatten_append, ih (by omega), List.flatten_cons, List.flatten_nil, List.append_nil, Nat.add_mul, Nat.one_mul, List.take_add]
  rw [key h (Nat.le_refl _), ← hl, List.take_length]
theorem flat_inj {n : Nat} {P Q : List (List Int)} (hP : Wide n P) (hQ : Wide n Q) (hl : P.length = Q.length) (h : P.flatten = Q.flatten) : P = Q := by
  refine List.ext_getElem hl fun y h1 h2 => ?_
  have w1 := hP _ (List.getElem_mem h1)
  have w2 := hQ _ (List.getElem_mem h2)
  refine List.ext_getElem (by omega) fun x h3 h4 => ?_
  have e1 := flat_get hP h1 (x := x) (by omega)
  have e2 := flat_get hQ h2 (x := x) (by omega)
  rw [h, e2] at e1
  simp [h3, h4] at e1
  exact e1.symm
theorem cut_flat {n : Nat} {Q : List (List Int)} (h : Wide n Q) : cutR n Q.flatten Q.length = Q :=
  flat_inj (cutR_wide (flat_len h)) h (cutR_len _ _ _) (cutR_flat (flat_len h))

theorem cnt_le {s : Int} {n : Nat} : cntE s n ≤ n ∧ cntO s n ≤ n := by
  have h := (cnt_next (s := s) (k := n)).2.2
  omega

/-! The transform -/
def loF (s k : Int) (x : List Int) : List Int := splitE s (fwdL s x k)
def hiF (s k : Int) (x : List Int) : List Int := splitO s (fwdL s x k)
def unF (s k : Int) (a b : List Int) : List Int := invL s (joinL s a b) k
theorem loF_len (s k : Int) (x : List Int) : (loF s k x).length = cntE s x.length := by rw [loF, splitE_len, fwd_len]
theorem hiF_len (s k : Int) (x : List Int) : (hiF s k x).length = cntO s x.length := by rw [hiF, splitO_len, fwd_len]
theorem un_lohi (s k : Int) (x : List Int) : unF s k (loF s k x) (hiF s k x) = x := by rw [unF, loF, hiF, join_split, inv_fwd]
theorem unF_len (s k : Int) (a b : List Int) : (unF s k a b).length = a.length + b.length := by rw [unF, inv_len, joinL_len]
/-- The rows of a half of a plane in rows, then the columns of a half. -/
def lowR (s k : Int) (P : List (List Int)) : List (List Int) := P.map (loF s k)
def highR (s k : Int) (P : List (List Int)) : List (List Int) := P.map (hiF s k)
theorem lowR_wide {s k : Int} {n : Nat} {P : List (List Int)} (h : Wide n P) : Wide (cntE s n) (lowR s k P) := fun r hr => by
  obtain ⟨x, hx, rfl⟩ := List.mem_map.1 hr
  rw [loF_len, h x hx]
theorem highR_wide {s k : Int} {n : Nat} {P : List (List Int)} (h : Wide n P) : Wide (cntO s n) (highR s k P) := fun r hr => by
  obtain ⟨x, hx, rfl⟩ := List.mem_map.1 hr
  rw [hiF_len, h x hx]
/-- The rows of the low (of the high) plane of n columns: what each column becomes, transposed. -/
def lowC (s k : Int) (n : Nat) (L : List (List Int)) : List (List Int) := trn (cntE s L.length) (lowR s k (trn n L))
def highC (s k : Int) (n : Nat) (L : List (List Int)) : List (List Int) := trn (cntO s L.length) (highR s k (trn n L))
theorem lowC_len (s k : Int) (n : Nat) (L : List (List Int)) : (lowC s k n L).length = cntE s L.length := trn_len _ _
theorem highC_len (s k : Int) (n : Nat) (L : List (List Int)) : (highC s k n L).length = cntO s L.length := trn_len _ _
theorem lowC_wide (s k : Int) (n : Nat) (L : List (List Int)) : Wide n (lowC s k n L) := fun r hr => by
  rw [trn_mem hr, lowR, List.length_map, trn_len]
theorem highC_wide (s k : Int) (n : Nat) (L : List (List Int)) : Wide n (highC s k n L) := fun r hr => by
  rw [trn_mem hr, highR, List.length_map, trn_len]
/-- Columns restored from those of two planes, transposed. -/
def unC (s k : Int) (n : Nat) (A B : List (List Int)) : List (List Int) := trn (A.length + B.length) (List.zipWith (unF s k) (trn n A) (trn n B))
def unR (s k : Int) (L H : List (List Int)) : List (List Int) := List.zipWith (unF s k) L H
theorem unC_len (s k : Int) (n : Nat) (A B : List (List Int)) : (unC s k n A B).length = A.length + B.length := trn_len _ _
theorem zip_back (s k : Int) (P : List (List Int)) : List.zipWith (unF s k) (lowR s k P) (highR s k P) = P := by
  induction P with
  | nil => rfl
  | cons x P ih => rw [lowR, highR, List.map_cons, List.map_cons, List.zipWith_cons_cons, un_lohi]; exact congrArg _ ih
theorem unC_back {s k : Int} {n : Nat} {L : List (List Int)} (h : Wide n L) : unC s k n (lowC s k n L) (highC s k n L) = L := by
  have hw : Wide L.length (trn n L) := trn_wide n L
  have h1 : trn n (lowC s k n L) = lowR s k (trn n L) := by
    have := trn_trn (lowR_wide (s := s) (k := k) hw)
    rw [show (lowR s k (trn n L)).length = n by rw [lowR, List.length_map, trn_len]] at this
    exact this
  have h2 : trn n (highC s k n L) = highR s k (trn n L) := by
    have := trn_trn (highR_wide (s := s) (k := k) hw)
    rw [show (highR s k (trn n L)).length = n by rw [highR, List.length_map, trn_len]] at this
    exact this
  rw [unC, h1, h2, zip_back, lowC_len, highC_len, (cnt_next (s := s) (k := L.length)).2.2.2]
  exact trn_trn h

/-! Finer bounds of what is restored -/
theorem ex_par_bd {s b p : Int} {x : List Int} (hn : 1 < x.length) (h : ∀ i, s ≤ i → i < s + x.length → i % 2 = p → -b ≤ sg s x i ∧ sg s x i ≤ b) {i : Int} (hi : i % 2 = p) : -b ≤ ex s x i ∧ ex s x i ≤ b := by
  obtain ⟨h0, h1⟩ := mir_mem (i := i) (lo := s) (hi := s + x.length) (by omega)
  have h2 := mir_par (i := i) (lo := s) (hi := s + x.length) (by omega)
  exact h _ h0 h1 (by omega)
theorem unst2_fine {s k b : Int} {y : List Int} (hk : k = 1 ∨ k = 2 ∨ k = 3) (h : within b y) {i : Int} (h0 : s ≤ i) (h1 : i < s + y.length) :
    (i % 2 = 0 → -(b + (b + 1) / 2) ≤ sg s (unst2 s y k) i ∧ sg s (unst2 s y k) i ≤ b + (b + 1) / 2) ∧ (i % 2 ≠ 0 → -b ≤ sg s (unst2 s y k) i ∧ sg s (unst2 s y k) i ≤ b) := by
  have hx := h _ (sg_mem (s := s) h0 h1)
  have hn : 0 < y.length := by omega
  have g1 := ex_bd (s := s) hn h (i - 1)
  have g2 := ex_bd (s := s) hn h (i + 1)
  rw [unst2, sg_tb h0 h1, unst2F]
  refine ⟨fun hp => ?_, fun hp => by rw [if_neg hp]; exact hx⟩
  rw [if_pos hp, updF]
  rcases hk with rfl | rfl | rfl
  · simp only [↓reduceIte]; omega
  · simp only [Int.reduceEq, ↓reduceIte]; omega
  · simp only [Int.reduceEq, ↓reduceIte]; omega
theorem inv_fine {s k b : Int} {y : List Int} (hk : k = 1 ∨ k = 2 ∨ k = 3) (hb : 0 ≤ b) (h : within b y) : within (3 * b + 3) (invL s y k) := by
  unfold invL
  by_cases hn : 1 < y.length
  · rw [if_pos hn]
    intro v hv
    obtain ⟨j, hj, rfl⟩ := List.getElem_of_mem hv
    have hj' : j < y.length := by rw [unst1_len, unst2_len] at hj; exact hj
    rw [← sg_at (s := s) hj, unst1, sg_tb (by omega) (by rw [unst2_len]; omega), unst1F]
    have hz := unst2_fine (s := s) (i := s + (j : Int)) hk h (by omega) (by omega)
    have he : ∀ i, i % 2 = 0 → -(b + (b + 1) / 2) ≤ ex s (unst2 s y k) i ∧ ex s (unst2 s y k) i ≤ b + (b + 1) / 2 := fun i hi => ex_par_bd (by rw [unst2_len]; exact hn) (fun i' a c d => (unst2_fine hk h a (by rw [unst2_len] at c; exact c)).1 d) hi
    generalize unst2 s y k = z at *
    by_cases hp : (s + (j : Int)) % 2 = 0
    · rw [if_pos hp]
      have := hz.1 hp
      omega
    · rw [if_neg hp, predF]
      have hzz := hz.2 hp
      have g1 := he (s + (j : Int) - 1) (by omega)
      have g2 := he (s + (j : Int) + 1) (by omega)
      have g3 := he (s + (j : Int) - 3) (by omega)
      have g4 := he (s + (j : Int) + 3) (by omega)
      clear he hz
      rcases hk with rfl | rfl | rfl
      · simp only [↓reduceIte]; omega
      · simp only [Int.reduceEq, ↓reduceIte]; omega
      · simp only [Int.reduceEq, ↓reduceIte]; omega
  · rw [if_neg hn]
    intro v hv
    have := h v hv
    omega
/-- Four planes of rows, restored: columns first, then rows. -/
def mrg (a b k : Int) (n : Nat) (ll hl lh hh : List (List Int)) : List (List Int) := unR a k (unC b k (cntE a n) ll lh) (unC b k (cntO a n) hl hh)
theorem mrg_split {a b k : Int} {n : Nat} {P : List (List Int)} (h : Wide n P) :
    mrg a b k n (lowC b k (cntE a n) (lowR a k P)) (lowC b k (cntO a n) (highR a k P)) (highC b k (cntE a n) (lowR a k P)) (highC b k (cntO a n) (highR a k P)) = P := by
  rw [mrg, unC_back (lowR_wide h), unC_back (highR_wide h)]
  exact zip_back a k P
end Go.Proofs.Ytoplgnckdmkaoaa.Ex

namespace Go.Proofs.Ytoplgnckdmkaoaa
open Go.RowKit

/-! A block, whole -/
def Blk (w : World) (B : Nat) (T : TypeId) (cs : Array Value) : Prop := w.heap[B]? = some (.cells cs T)
theorem Blk.lt {w : World} {B : Nat} {T : TypeId} {cs : Array Value} (h : Blk w B T cs) : B < w.heap.size := (Array.getElem?_eq_some_iff.1 h).1
theorem Blk.below {w w1 : World} {B : Nat} {T : TypeId} {cs : Array Value} (h : Blk w B T cs) (hb : Below w.heap.size w w1) : Blk w1 B T cs := (hb.block B h.lt).trans h
theorem Blk.alloc {w : World} {B : Nat} {T : TypeId} {cs : Array Value} (h : Blk w B T cs) (X : Obj) : Blk (w.alloc X) B T cs := h.below ((Below.refl _ _).alloc (Nat.le_refl _) _)
theorem Blk.drew {w : World} {B : Nat} {T : TypeId} {cs : Array Value} (h : Blk w B T cs) : Blk w.drew B T cs := h
theorem Blk.drewN {w : World} {B : Nat} {T : TypeId} {cs : Array Value} (h : Blk w B T cs) (q : Nat) : Blk (w.drewN q) B T cs := h
theorem Blk.fresh (w : World) (T : TypeId) (cs : Array Value) : Blk (w.alloc (.cells cs T)) w.heap.size T cs := heap_alloc_new w _
theorem Blk.freshAt (w : World) (B : Nat) (hB : B = w.heap.size) (T : TypeId) (cs : Array Value) : Blk (w.alloc (.cells cs T)) B T cs := hB ▸ heap_alloc_new w _
theorem Blk.cell {w : World} {B : Nat} {T : TypeId} {cs : Array Value} (h : Blk w B T cs) (i : Nat) (v : Value) (hv : cs[i]? = some v) : w.cell? ⟨B, i, none⟩ = some v := by
  unfold Blk at h
  simp [World.cell?, h, hv]
theorem Blk.free {w : World} {B : Nat} {T : TypeId} {cs : Array Value} (h : Blk w B T cs) (i : Nat) : w.frozen? ⟨B, i, none⟩ = false := by
  unfold Blk at h
  simp [World.frozen?, h]
theorem Blk.set {w : World} {B : Nat} {T : TypeId} {cs : Array Value} (h : Blk w B T cs) (i : Nat) (v : Value) : Blk (w.setCell ⟨B, i, none⟩ v) B T (cs.setIfInBounds i v) := by
  unfold Blk at *
  simp only [World.setCell, Array.getElem?_modify, if_true, h, Option.map_some]
  rfl
theorem Blk.far {w : World} {B : Nat} {T : TypeId} {cs : Array Value} (h : Blk w B T cs) (a : Addr) (v : Value) (hn : B ≠ a.block) : Blk (w.setCell a v) B T cs := (Below.heap_setCell _ _ _ _ hn).trans h

/-! Four rectangles -/
def rcs (r : Pl.R) : List Value := [.int .i64 r.x0, .int .i64 r.y0, .int .i64 r.x1, .int .i64 r.y1]
def arr4 (f : Nat → Pl.R) : Array Value := (rcs (f 0) ++ rcs (f 1) ++ rcs (f 2) ++ rcs (f 3)).toArray
def hfI (a : Int) (b : Bool) : Int := if b then a / 2 else (a + 1) / 2
def orH (o : Nat) : Bool := o == 1 || o == 3
def orV (o : Nat) : Bool := o == 2 || o == 3
def bndR (r : Pl.R) (o : Nat) : Pl.R := ⟨hfI r.x0 (orH o), hfI r.y0 (orV o), hfI r.x1 (orH o), hfI r.y1 (orV o)⟩
def bnds (r : Pl.R) (o : Nat) : Pl.R := if Pl.validB r.x0 r.y0 r.x1 r.y1 = true then bndR r o else ⟨0, 0, 0, 0⟩
theorem half_r (a : Int) (b : Bool) (h0 : 0 ≤ a) (h1 : a ≤ 1000000) (w : World) : Calls Try.prog 130 #[.int .i64 a, .bool b] w fun e w' => e = .returned (.int .i64 (hfI a b)) ∧ w' = w := by
  have w1 : IntKind.i64.wrap (a + 1) = a + 1 := IntWalk.i64_in _ (by omega)
  have t1 : (a + 1).tdiv 2 = (a + 1) / 2 := Int.tdiv_eq_ediv_of_nonneg (by omega)
  have t2 : a.tdiv 2 = a / 2 := Int.tdiv_eq_ediv_of_nonneg (by omega)
  have w2 : IntKind.i64.wrap ((a + 1) / 2) = (a + 1) / 2 := IntWalk.i64_in _ (by omega)
  have w3 : IntKind.i64.wrap (a / 2) = a / 2 := IntWalk.i64_in _ (by omega)
  cases b with
  | true =>
    go_enter Try.func130, Try.ntmps130
    go_wp2
    go_ret
    exact ⟨rfl, rfl⟩
  | false =>
    go_enter Try.func130, Try.ntmps130
    go_wp2
    go_ret
    exact ⟨rfl, rfl⟩
set_option maxHeartbeats 1000000 in
theorem kn5_r (k : Int) (w : World) : Calls Try.prog 69 #[.int .i64 k] w fun e w' => e = .returned (.bool (kB k)) ∧ w' = w := by
  by_cases h1 : k = 1
  · subst h1
    go_enter Try.func69, Try.ntmps69
    go_wp2
    go_ret
    exact ⟨rfl, rfl⟩
  · by_cases h2 : k = 2
    · subst h2
      go_enter Try.func69, Try.ntmps69
      go_wp2
      go_ret
      exact ⟨rfl, rfl⟩
    · by_cases h3 : k = 3
      · subst h3
        go_enter Try.func69, Try.ntmps69
        go_wp2
        go_ret
        exact ⟨rfl, rfl⟩
      · go_enter Try.func69, Try.ntmps69
        go_wp2
        all_goals
          go_ret
          exact ⟨ret_bool (by simp [kB, h1, h2, h3]), rfl⟩
set_option maxHeartbeats 1000000 in
theorem abv_r (l : List Int) (b : Int) (s : Option Addr) (m : Nat) (w : World) (hb : 0 ≤ b) (hb' : b ≤ 4611686018427387904) (hl : l.length ≤ 140737488351232) (hH : HoldsI w s l) :
    Calls Try.prog 72 #[.slice s l.length m, .int .i64 b] w fun e w' => e = .returned (.bool (!fewB l b)) ∧ w' = w := by
  have w1 : IntKind.i64.wrap (-b) = -b := IntWalk.i64_in _ (by omega)
  go_enter Try.func72, Try.ntmps72
  go_wp2_with fail
  go_loopw [5] (fun i wr => ∃ k : Nat, k ≤ l.length ∧ i = .int .i64 k ∧ (∀ j (hj : j < l.length), j < k → -b ≤ l[j] ∧ l[j] ≤ b) ∧ w = wr) (fun i _ => l.length - (intOf i).toNat)
  case atStart => exact ⟨0, Nat.zero_le _, rfl, fun j _ h => absurd h (Nat.not_lt_zero _), rfl⟩
  case round =>
    obtain ⟨k, hk, rfl, hall, rfl⟩ := hrel
    have HA : Hid _ := hall
    clear hall
    by_cases hlt : k < l.length
    · rcases hH with rfl | ⟨bb, off, rfl, hr⟩
      · simp at hlt
      have y0 := hr k hlt
      have hki : (k : Int) < (l.length : Int) := by omega
      have w2 : IntKind.i64.wrap ((k : Int) + 1) = (k : Int) + 1 := IntWalk.i64_in _ (by omega)
      have HF : Hid (b < l[k] ∨ l[k] < -b → fewB l b = false) := few_none hlt
      have HV : Hid (¬ b < l[k] → ¬ l[k] < -b → ∀ j (hj : j < l.length), j < k + 1 → -b ≤ l[j] ∧ l[j] ≤ b) := fun a c j hj hjk => if e : j = k then by subst e; omega else HA.out j hj (by omega)
      generalize l[k] = V at *
      by_cases h1 : b < V
      · have hf := HF.out (.inl h1)
        clear HF HV HA
        go_wp2
        go_ret
        exact ⟨ret_bool (by first | exact Iff.rfl | simp [hf]), rfl⟩
      · by_cases h2 : V < -b
        · have hf := HF.out (.inr h2)
          clear HF HV HA
          go_wp2
          go_ret
          exact ⟨ret_bool (by first | exact Iff.rfl | simp [hf]), rfl⟩
        · have HN : Hid _ := HV.out h1 h2
          clear HF HV HA
          go_wp2
          go_roundw
          case rel => exact ⟨k + 1, by omega, by go_num, HN.out, by first | trivial | rfl⟩
          case measure => simp [intOf]; omega
    · obtain rfl : k = l.length := by omega
      have hf := few_all fun j hj => HA.out j hj hj
      clear HA
      go_wp2
      go_ret
      exact ⟨ret_bool (by first | exact Iff.rfl | simp [hf]), rfl⟩
end Go.Proofs.Ytoplgnckdmkaoaa

namespace Go.Proofs.Ytoplgnckdmkaoaa
open Go.RowKit

theorem arr4_get (f : Nat → Pl.R) : arr4 f = #[.int .i64 (f 0).x0, .int .i64 (f 0).y0, .int .i64 (f 0).x1, .int .i64 (f 0).y1, .int .i64 (f 1).x0, .int .i64 (f 1).y0, .int .i64 (f 1).x1, .int .i64 (f 1).y1, .int .i64 (f 2).x0, .int .i64 (f 2).y0, .int .i64 (f 2).x1, .int .i64 (f 2).y1, .int .i64 (f 3).x0, .int .i64 (f 3).y0, .int .i64 (f 3).x1, .int .i64 (f 3).y1] := rfl
def zR : Pl.R := ⟨0, 0, 0, 0⟩
theorem info16 : (Try.prog.info? 84).map (·.size) = some 16 := by kernel_rfl
theorem Blk.row {w : World} {B : Nat} {T : TypeId} {cs : Array Value} (h : Blk w B T cs) (cs' : Array Value) : Blk (w.setRow B cs') B T cs' := setRow_heap w B cs cs' T _ h
theorem Blk.range {w : World} {B : Nat} {T : TypeId} {cs : Array Value} (h : Blk w B T cs) : w.rangeAt B 0 cs.toList := fun j v hv => by
  rw [Nat.zero_add]
  exact h.cell j v (by simpa using hv)
theorem one16 (f : Nat → Pl.R) : (arr4 f).all (·.oneCell') = true := by simp [arr4_get, Value.oneCell']
theorem below_row {w W : World} {B : Nat} (h : Below w.heap.size w W) (hB : w.heap.size ≤ B) (cs' : Array Value) : Below w.heap.size w (W.setRow B cs') := below_setRow h hB _
/-- The first k of four rectangles are written. -/
def bndsK (r : Pl.R) (k o : Nat) : Pl.R := if o < k then bndR r o else zR
set_option maxRecDepth 100000 in
set_option maxHeartbeats 4000000 in
theorem bands_r (a b c d : Int) (w : World) : Calls Try.prog 70 #[.agg #[.int .i64 a, .int .i64 b, .int .i64 c, .int .i64 d]] w fun e w' => e = .returned (.agg (arr4 (bnds ⟨a, b, c, d⟩))) ∧ Below w.heap.size w w' := by
  have B0 := Below.refl w.heap.size w
  have x1 := ((Blk.fresh w 23 #[.int .i64 a, .int .i64 b, .int .i64 c, .int .i64 d]).alloc (.cells (arr4 fun _ => zR) 84)).alloc (.cells (arr4 fun _ => zR) 84)
  have x2 := (Blk.freshAt (w.alloc (.cells #[.int .i64 a, .int .i64 b, .int .i64 c, .int .i64 d] 23)) (w.heap.size + 1) (by simp) 84 (arr4 fun _ => zR)).alloc (.cells (arr4 fun _ => zR) 84)
  have x3 := Blk.freshAt ((w.alloc (.cells #[.int .i64 a, .int .i64 b, .int .i64 c, .int .i64 d] 23)).alloc (.cells (arr4 fun _ => zR) 84)) (w.heap.size + 1 + 1) (by simp) 84 (arr4 fun _ => zR)
  have B1 := below_alloc (below_alloc (below_alloc B0 (.cells #[.int .i64 a, .int .i64 b, .int .i64 c, .int .i64 d] 23)) (.cells (arr4 fun _ => zR) 84)) (.cells (arr4 fun _ => zR) 84)
  clear B0
  go_enter Try.func70, Try.ntmps70
  go_wp2_with fail
  refine (valid_r _ _ _ _ _).mono ?_
  rintro e w1 ⟨rfl, hb⟩
  replace x1 := x1.below hb
  replace x2 := x2.below hb
  replace x3 := x3.below hb
  replace B1 := below_call B1 hb
  clear hb
  cases hv : Pl.validB a b c d with
  | false =>
    have hz : bnds ⟨a, b, c, d⟩ = fun _ => zR := funext fun o => if_neg (by simp [hv])
    go_wp2_with (first | (refine wpList_load_mid rfl 84 (.tmp 3) rfl (w.heap.size + 1 + 1) 0 rfl (arr4 fun _ => zR).toList _ x3.range Try.underlying84 rfl info16 ?_) | (refine wpList_store_row rfl 84 (.tmp 2) (.tmp 11) rfl (w.heap.size + 1) (arr4 fun _ => zR) rfl rfl 84 _ x2 info16 rfl (one16 _) ?_))
    refine bodyPost_ret (results_cell_row rfl _ _ (w.heap.size + 1) 84 (arr4 fun _ => zR) (0, 0) _ rfl (x2.row _) Try.underlying84 rfl info16) rfl ⟨by rw [hz], below_row B1 (Nat.le_succ _) _⟩
  | true =>
    obtain ⟨v1, v2, v3, v4, v5, v6⟩ := Pl.valid_iff.1 hv
    go_wp2_with fail
    go_loopw [4, 5, 6] (fun i _ _ wr => ∃ k : Nat, k ≤ 4 ∧ i = .int .i64 k ∧ Blk wr (w.heap.size + 1 + 1) 84 (arr4 (bndsK ⟨a, b, c, d⟩ k)) ∧ Blk wr w.heap.size 23 #[.int .i64 a, .int .i64 b, .int .i64 c, .int .i64 d] ∧ Blk wr (w.heap.size + 1) 84 (arr4 fun _ => zR) ∧ Below w.heap.size w wr) (fun i _ _ _ => 4 - (intOf i).toNat)
    case atStart => exact ⟨0, by omega, rfl, x3, x1, x2, B1⟩
    case round =>
      obtain ⟨k, hk, rfl, y3, y1, y2, B⟩ := hrel
      clear x1 x2 x3 B1
      have a0 := y1.cell 0 _ rfl
      have a1 := y1.cell 1 _ rfl
      have a2 := y1.cell 2 _ rfl
      have a3 := y1.cell 3 _ rfl
      by_cases hlt : k < 4
      · have hk4 : k = 0 ∨ k = 1 ∨ k = 2 ∨ k = 3 := by omega
        clear hk hlt
        rcases hk4 with rfl | rfl | rfl | rfl
        · have q0 := y3.cell 0 _ rfl
          have q1 := y3.cell 1 _ rfl
          have q2 := y3.cell 2 _ rfl
          have q3 := y3.cell 3 _ rfl
          have z0 := y3.free 0
          have z1 := y3.free 1
          have z2 := y3.free 2
          have z3 := y3.free 3
          have s3 := ((((y3.drew.set 0 (.int .i64 (hfI a false))).set 1 (.int .i64 (hfI b false))).set 2 (.int .i64 (hfI c false))).set 3 (.int .i64 (hfI d false)))
          have s1 := ((((y1.drew.far ⟨(w.heap.size + 1 + 1), 0, none⟩ (.int .i64 (hfI a false)) (by simp; omega)).far ⟨(w.heap.size + 1 + 1), 1, none⟩ (.int .i64 (hfI b false)) (by simp; omega)).far ⟨(w.heap.size + 1 + 1), 2, none⟩ (.int .i64 (hfI c false)) (by simp; omega)).far ⟨(w.heap.size + 1 + 1), 3, none⟩ (.int .i64 (hfI d false)) (by simp; omega))
          have s2 := ((((y2.drew.far ⟨(w.heap.size + 1 + 1), 0, none⟩ (.int .i64 (hfI a false)) (by simp)).far ⟨(w.heap.size + 1 + 1), 1, none⟩ (.int .i64 (hfI b false)) (by simp)).far ⟨(w.heap.size + 1 + 1), 2, none⟩ (.int .i64 (hfI c false)) (by simp)).far ⟨(w.heap.size + 1 + 1), 3, none⟩ (.int .i64 (hfI d false)) (by simp))
          have sB := ((((B.drew.setCell (p := ⟨(w.heap.size + 1 + 1), 0, none⟩) (Nat.le_trans (Nat.le_succ _) (Nat.le_succ _)) (.int .i64 (hfI a false))).setCell (p := ⟨(w.heap.size + 1 + 1), 1, none⟩) (Nat.le_trans (Nat.le_succ _) (Nat.le_succ _)) (.int .i64 (hfI b false))).setCell (p := ⟨(w.heap.size + 1 + 1), 2, none⟩) (Nat.le_trans (Nat.le_succ _) (Nat.le_succ _)) (.int .i64 (hfI c false))).setCell (p := ⟨(w.heap.size + 1 + 1), 3, none⟩) (Nat.le_trans (Nat.le_succ _) (Nat.le_succ _)) (.int .i64 (hfI d false)))
          have H3 : Hid (Blk _ _ 84 (arr4 (bndsK ⟨a, b, c, d⟩ 1))) := s3
          have H1 : Hid _ := s1
          have H2 : Hid _ := s2
          have HB : Hid _ := sB
          clear s1 s2 s3 sB y1 y2 y3 B
          go_upto_region 9 with fail
          refine wp_region_still_tail 19 (by kernel_rfl) (by kernel_rfl) ?_
          simp only [List.take_succ_cons, List.take_zero, List.drop_succ_cons, List.drop_zero]
          repeat (first | still_step | still_call (half_r _ _ (by omega) (by omega) _))
          refine wpStill_nil ?_
          go_wp2
          go_roundw
          case rel => exact ⟨1, by omega, by go_num, H3.out, H1.out, H2.out, HB.out⟩
          case measure => simp [intOf]
        · have q0 := y3.cell 4 _ rfl
          have q1 := y3.cell 5 _ rfl
          have q2 := y3.cell 6 _ rfl
          have q3 := y3.cell 7 _ rfl
          have z0 := y3.free 4
          have z1 := y3.free 5
          have z2 := y3.free 6
          have z3 := y3.free 7
          have s3 := ((((y3.drew.set 4 (.int .i64 (hfI a true))).set 5 (.int .i64 (hfI b false))).set 6 (.int .i64 (hfI c true))).set 7 (.int .i64 (hfI d false)))
          have s1 := ((((y1.drew.far ⟨(w.heap.size + 1 + 1), 4, none⟩ (.int .i64 (hfI a true)) (by simp; omega)).far ⟨(w.heap.size + 1 + 1), 5, none⟩ (.int .i64 (hfI b false)) (by simp; omega)).far ⟨(w.heap.size + 1 + 1), 6, none⟩ (.int .i64 (hfI c true)) (by simp; omega)).far ⟨(w.heap.size + 1 + 1), 7, none⟩ (.int .i64 (hfI d false)) (by simp; omega))
          have s2 := ((((y2.drew.far ⟨(w.heap.size + 1 + 1), 4, none⟩ (.int .i64 (hfI a true)) (by simp)).far ⟨(w.heap.size + 1 + 1), 5, none⟩ (.int .i64 (hfI b false)) (by simp)).far ⟨(w.heap.size + 1 + 1), 6, none⟩ (.int .i64 (hfI c true)) (by simp)).far ⟨(w.heap.size + 1 + 1), 7, none⟩ (.int .i64 (hfI d false)) (by simp))
          have sB := ((((B.drew.setCell (p := ⟨(w.heap.size + 1 + 1), 4, none⟩) (Nat.le_trans (Nat.le_succ _) (Nat.le_succ _)) (.int .i64 (hfI a true))).setCell (p := ⟨(w.heap.size + 1 + 1), 5, none⟩) (Nat.le_trans (Nat.le_succ _) (Nat.le_succ _)) (.int .i64 (hfI b false))).setCell (p := ⟨(w.heap.size + 1 + 1), 6, none⟩) (Nat.le_trans (Nat.le_succ _) (Nat.le_succ _)) (.int .i64 (hfI c true))).setCell (p := ⟨(w.heap.size + 1 + 1), 7, none⟩) (Nat.le_trans (Nat.le_succ _) (Nat.le_succ _)) (.int .i64 (hfI d false)))
          have H3 : Hid (Blk _ _ 84 (arr4 (bndsK ⟨a, b, c, d⟩ 2))) := s3
          have H1 : Hid _ := s1
          have H2 : Hid _ := s2
          have HB : Hid _ := sB
          clear s1 s2 s3 sB y1 y2 y3 B
          go_upto_region 9 with fail
          refine wp_region_still_tail 19 (by kernel_rfl) (by kernel_rfl) ?_
          simp only [List.take_succ_cons, List.take_zero, List.drop_succ_cons, List.drop_zero]
          repeat (first | still_step | still_call (half_r _ _ (by omega) (by omega) _))
          refine wpStill_nil ?_
          go_wp2
          go_roundw
          case rel => exact ⟨2, by omega, by go_num, H3.out, H1.out, H2.out, HB.out⟩
          case measure => simp [intOf]
        · have q0 := y3.cell 8 _ rfl
          have q1 := y3.cell 9 _ rfl
          have q2 := y3.cell 10 _ rfl
          have q3 := y3.cell 11 _ rfl
          have z0 := y3.free 8
          have z1 := y3.free 9
          have z2 := y3.free 10
          have z3 := y3.free 11
          have s3 := ((((y3.drew.set 8 (.int .i64 (hfI a false))).set 9 (.int .i64 (hfI b true))).set 10 (.int .i64 (hfI c false))).set 11 (.int .i64 (hfI d true)))
          have s1 := ((((y1.drew.far ⟨(w.heap.size + 1 + 1), 8, none⟩ (.int .i64 (hfI a false)) (by simp; omega)).far ⟨(w.heap.size + 1 + 1), 9, none⟩ (.int .i64 (hfI b true)) (by simp; omega)).far ⟨(w.heap.size + 1 + 1), 10, none⟩ (.int .i64 (hfI c false)) (by simp; omega)).far ⟨(w.heap.size + 1 + 1), 11, none⟩ (.int .i64 (hfI d true)) (by simp; omega))
          have s2 := ((((y2.drew.far ⟨(w.heap.size + 1 + 1), 8, none⟩ (.int .i64 (hfI a false)) (by simp)).far ⟨(w.heap.size + 1 + 1), 9, none⟩ (.int .i64 (hfI b true)) (by simp)).far ⟨(w.heap.size + 1 + 1), 10, none⟩ (.int .i64 (hfI c false)) (by simp)).far ⟨(w.heap.size + 1 + 1), 11, none⟩ (.int .i64 (hfI d true)) (by simp))
          have sB := ((((B.drew.setCell (p := ⟨(w.heap.size + 1 + 1), 8, none⟩) (Nat.le_trans (Nat.le_succ _) (Nat.le_succ _)) (.int .i64 (hfI a false))).setCell (p := ⟨(w.heap.size + 1 + 1), 9, none⟩) (Nat.le_trans (Nat.le_succ _) (Nat.le_succ _)) (.int .i64 (hfI b true))).setCell (p := ⟨(w.heap.size + 1 + 1), 10, none⟩) (Nat.le_trans (Nat.le_succ _) (Nat.le_succ _)) (.int .i64 (hfI c false))).setCell (p := ⟨(w.heap.size + 1 + 1), 11, none⟩) (Nat.le_trans (Nat.le_succ _) (Nat.le_succ _)) (.int .i64 (hfI d true)))
          have H3 : Hid (Blk _ _ 84 (arr4 (bndsK ⟨a, b, c, d⟩ 3))) := s3
          have H1 : Hid _ := s1
          have H2 : Hid _ := s2
          have HB : Hid _ := sB
          clear s1 s2 s3 sB y1 y2 y3 B
          go_upto_region 9 with fail
          refine wp_region_still_tail 19 (by kernel_rfl) (by kernel_rfl) ?_
          simp only [List.take_succ_cons, List.take_zero, List.drop_succ_cons, List.drop_zero]
          repeat (first | still_step | still_call (half_r _ _ (by omega) (by omega) _))
          refine wpStill_nil ?_
          go_wp2
          go_roundw
          case rel => exact ⟨3, by omega, by go_num, H3.out, H1.out, H2.out, HB.out⟩
          case measure => simp [intOf]
        · have q0 := y3.cell 12 _ rfl
          have q1 := y3.cell 13 _ rfl
          have q2 := y3.cell 14 _ rfl
          have q3 := y3.cell 15 _ rfl
          have z0 := y3.free 12
          have z1 := y3.free 13
          have z2 := y3.free 14
          have z3 := y3.free 15
          have s3 := ((((y3.drew.set 12 (.int .i64 (hfI a true))).set 13 (.int .i64 (hfI b true))).set 14 (.int .i64 (hfI c true))).set 15 (.int .i64 (hfI d true)))
          have s1 := ((((y1.drew.far ⟨(w.heap.size + 1 + 1), 12, none⟩ (.int .i64 (hfI a true)) (by simp; omega)).far ⟨(w.heap.size + 1 + 1), 13, none⟩ (.int .i64 (hfI b true)) (by simp; omega)).far ⟨(w.heap.size + 1 + 1), 14, none⟩ (.int .i64 (hfI c true)) (by simp; omega)).far ⟨(w.heap.size + 1 + 1), 15, none⟩ (.int .i64 (hfI d true)) (by simp; omega))
          have s2 := ((((y2.drew.far ⟨(w.heap.size + 1 + 1), 12, none⟩ (.int .i64 (hfI a true)) (by simp)).far ⟨(w.heap.size + 1 + 1), 13, none⟩ (.int .i64 (hfI b true)) (by simp)).far ⟨(w.heap.size + 1 + 1), 14, none⟩ (.int .i64 (hfI c true)) (by simp)).far ⟨(w.heap.size + 1 + 1), 15, none⟩ (.int .i64 (hfI d true)) (by simp))
          have sB := ((((B.drew.setCell (p := ⟨(w.heap.size + 1 + 1), 12, none⟩) (Nat.le_trans (Nat.le_succ _) (Nat.le_succ _)) (.int .i64 (hfI a true))).setCell (p := ⟨(w.heap.size + 1 + 1), 13, none⟩) (Nat.le_trans (Nat.le_succ _) (Nat.le_succ _)) (.int .i64 (hfI b true))).setCell (p := ⟨(w.heap.size + 1 + 1), 14, none⟩) (Nat.le_trans (Nat.le_succ _) (Nat.le_succ _)) (.int .i64 (hfI c true))).setCell (p := ⟨(w.heap.size + 1 + 1), 15, none⟩) (Nat.le_trans (Nat.le_succ _) (Nat.le_succ _)) (.int .i64 (hfI d true)))
          have H3 : Hid (Blk _ _ 84 (arr4 (bndsK ⟨a, b, c, d⟩ 4))) := s3
          have H1 : Hid _ := s1
          have H2 : Hid _ := s2
          have HB : Hid _ := sB
          clear s1 s2 s3 sB y1 y2 y3 B
          go_upto_region 9 with fail
          refine wp_region_still_tail 19 (by kernel_rfl) (by kernel_rfl) ?_
          simp only [List.take_succ_cons, List.take_zero, List.drop_succ_cons, List.drop_zero]
          repeat (first | still_step | still_call (half_r _ _ (by omega) (by omega) _))
          refine wpStill_nil ?_
          go_wp2
          go_roundw
          case rel => exact ⟨4, by omega, by go_num, H3.out, H1.out, H2.out, HB.out⟩
          case measure => simp [intOf]
      · obtain rfl : k = 4 := by omega
        have hz : arr4 (bnds ⟨a, b, c, d⟩) = arr4 (bndsK ⟨a, b, c, d⟩ 4) := by simp [arr4_get, bnds, bndsK, hv]
        go_wp2_with (first | (refine wpList_load_mid rfl 84 (.tmp 3) rfl (w.heap.size + 1 + 1) 0 rfl (arr4 (bndsK ⟨a, b, c, d⟩ 4)).toList _ y3.range Try.underlying84 rfl info16 ?_) | (refine wpList_store_row rfl 84 (.tmp 2) (.tmp 47) rfl (w.heap.size + 1) (arr4 (bndsK ⟨a, b, c, d⟩ 4)) rfl rfl 84 _ y2 info16 rfl (one16 _) ?_))
        refine bodyPost_ret (results_cell_row rfl _ _ (w.heap.size + 1) 84 (arr4 (bndsK ⟨a, b, c, d⟩ 4)) (0, 0) _ rfl (y2.row _) Try.underlying84 rfl info16) rfl ⟨by rw [hz], below_row B (Nat.le_succ _) _⟩
end Go.Proofs.Ytoplgnckdmkaoaa

namespace Go.Proofs.Ytoplgnckdmkaoaa
open Go.RowKit

/-- A slice's address holds the slices of a list of lists. -/
def HoldsC (w : World) (a : Option Addr) (C : List (List Int)) : Prop := C = [] ∨ ∃ b off, a = some ⟨b, off, none⟩ ∧ ∀ k (hk : k < C.length), ∃ s m, w.cell? ⟨b, off + k, none⟩ = some (.slice s C[k].length m) ∧ HoldsI w s C[k]
theorem HoldsC.call {w w1 : World} {a : Option Addr} {C : List (List Int)} (h : HoldsC w a C) (hb : Below w.heap.size w w1) : HoldsC w1 a C := by
  rcases h with rfl | ⟨b, off, rfl, hr⟩
  · exact .inl rfl
  · refine .inr ⟨b, off, rfl, fun k hk => ?_⟩
    obtain ⟨s, m, h1, h2⟩ := hr k hk
    exact ⟨s, m, (hb.cell (p := ⟨b, _, none⟩) (cell_lt h1)).trans h1, h2.call hb⟩
theorem HoldsC.alloc {w : World} {a : Option Addr} {C : List (List Int)} (h : HoldsC w a C) (X : Obj) : HoldsC (w.alloc X) a C := h.call ((Below.refl _ _).alloc (Nat.le_refl _) _)
theorem flat_next {Q : List (List Int)} {k : Nat} (hk : k < Q.length) : (Q.take (k + 1)).flatten = (Q.take k).flatten ++ Q[k] := by
  rw [List.take_succ_eq_append_getElem hk, List.flatten_append]
  simp
theorem take_len {n : Nat} {Q : List (List Int)} (h : Ex.Wide n Q) {k : Nat} (hk : k ≤ Q.length) : (Q.take k).flatten.length = k * n := by
  rw [Ex.flat_len (n := n) fun r hr => h r (List.mem_of_mem_take hr), List.length_take, Nat.min_eq_left hk]
theorem Gl.made (w : World) : Gl w (.slice (some ⟨w.heap.size, 0, none⟩) 0 0) [] (w.alloc (.cells #[] 3)) :=
  ⟨below_alloc (Below.refl _ w) _, by simpa using World.ownsRow_made (base := w.heap.size) (e := 3) (size := 1) w #[] 0 (Nat.le_refl _) (Nat.zero_le _) rfl⟩
theorem Gl.up {w w1 W : World} {v : Value} {l : List Int} (h : Gl w1 v l W) (hb : Below w.heap.size w w1) : Gl w v l W := by
  refine ⟨below_call hb h.below, h.own.1, ?_⟩
  rcases h.own.2 with h' | ⟨g, cap, cur, rfl, h3, h4⟩
  · exact .inl h'
  · exact .inr ⟨g, cap, cur, rfl, Nat.le_trans hb.size h3, h4⟩
theorem mul_4096 {a b : Nat} (ha : a ≤ 4096) (hb : b ≤ 4096) : a * b ≤ 16777216 := Nat.mul_le_mul ha hb
set_option maxRecDepth 100000 in
set_option maxHeartbeats 2000000 in
theorem rows_r (C : List (List Int)) (n : Nat) (a : Option Addr) (m : Nat) (w : World) (hW : Ex.Wide n C) (hn : n ≤ 4096) (hC : C.length ≤ 4096) (hH : HoldsC w a C) :
    Calls Try.prog 131 #[.slice a C.length m] w fun e w' => ∃ v, e = .returned v ∧ Gl w v (Ex.trn n C).flatten w' := by
  obtain ⟨i0, hi, hz0, hz1, hz2⟩ := info_parts infoI
  by_cases h0 : C.length = 0
  · obtain rfl := List.length_eq_zero_iff.1 h0
    have e0 : (Ex.trn n []).flatten = [] := by
      rw [List.flatten_eq_nil_iff]
      intro r hr
      have := Ex.trn_mem hr
      exact List.length_eq_zero_iff.1 this
    have G := Gl.made w
    go_enter Try.func131, Try.ntmps131
    go_wp2
    go_ret
    exact ⟨_, rfl, by rw [e0]; exact G⟩
  · have h0a : ((C.length : Int) == 0) = false := by rw [beq_eq_false_iff_ne]; omega
    have h0b : decide ((C.length : Int) = 0) = false := by rw [decide_eq_false_iff_not]; omega
    rcases hH with rfl | ⟨bb, off, rfl, hr⟩
    · simp at h0
    obtain ⟨s0, m0, c0, _⟩ := hr 0 (by omega)
    rw [hW _ (List.getElem_mem (by omega))] at c0
    have hTl : (Ex.trn n C).length = n := Ex.trn_len _ _
    have hTw : Ex.Wide C.length (Ex.trn n C) := Ex.trn_wide n C
    have G := Gl.made w
    go_enter Try.func131, Try.ntmps131
    go_wp2_with fail
    clear h0a h0b
    go_loopw [3, 4, 5] (fun v i _ wr => ∃ (y : Nat) (out : List Int) (x : Value), y ≤ n ∧ i = .int .i64 y ∧ out = ((Ex.trn n C).take y).flatten ∧ x = v ∧ Gl w x out wr) (fun _ i _ _ => n - (intOf i).toNat)
    case atStart => exact ⟨0, [], _, Nat.zero_le _, rfl, by simp, rfl, G⟩
    case round =>
      obtain ⟨y, out, x, hy, rfl, hO, rfl, hG⟩ := hrel
      clear G
      have k0 : wr.cell? ⟨bb, off, none⟩ = some (.slice s0 n m0) := (hG.below.cell (p := ⟨bb, _, none⟩) (cell_lt c0)).trans c0
      by_cases hlt : y < n
      · have hyi : (y : Int) < (n : Int) := by omega
        have w1 : IntKind.i64.wrap ((y : Int) + 1) = (y : Int) + 1 := IntWalk.i64_in _ (by omega)
        have hyT : y < (Ex.trn n C).length := by omega
        have hnext := flat_next hyT
        rw [← hO, Ex.trn_at hyT] at hnext
        have hol : out.length ≤ 16777216 := by rw [hO, take_len hTw (by omega)]; exact mul_4096 (by omega) hC
        have HN : Hid _ := hnext
        clear hnext hO hyT
        obtain ⟨R, hR⟩ : ∃ R, (C.map fun r => r.getD y 0) = R := ⟨_, rfl⟩
        have hRl : R.length = C.length := by rw [← hR, List.length_map]
        have hRa : ∀ k (h1 : k < C.length) (h2 : k < R.length) (h3 : y < C[k].length), R[k] = (C[k])[y] := by
          intro k h1 h2 h3
          subst hR
          simp [h3]
        have HR : Hid _ := hR
        clear hR
        go_wp2_with fail
        go_loopw [3, 5] (fun v i wr => ∃ (k : Nat) (o2 : List Int) (x : Value), k ≤ C.length ∧ i = .int .i64 k ∧ o2 = out ++ R.take k ∧ x = v ∧ Gl w x o2 wr) (fun _ i _ => C.length - (intOf i).toNat)
        case atStart => exact ⟨0, out, _, Nat.zero_le _, rfl, by simp, rfl, hG⟩
        case round =>
          obtain ⟨k, o2, x2, hk, rfl, hO2, rfl, hG2⟩ := hrel
          by_cases hlt2 : k < C.length
          · have hki : (k : Int) < (C.length : Int) := by omega
            have w2 : IntKind.i64.wrap ((k : Int) + 1) = (k : Int) + 1 := IntWalk.i64_in _ (by omega)
            obtain ⟨s1, m1, c1, g1⟩ := hr k hlt2
            have hln := hW _ (List.getElem_mem hlt2)
            rw [hln] at c1
            have k1 : wr.cell? ⟨bb, off + k, none⟩ = some (.slice s1 n m1) := (hG2.below.cell (p := ⟨bb, _, none⟩) (cell_lt c1)).trans c1
            have hyl : y < (C[k]).length := by omega
            have hkR : k < R.length := by omega
            have hRk := hRa k hlt2 hkR hyl
            have htk := List.take_succ_eq_append_getElem hkR
            rw [hRk] at htk
            rcases g1 with g1 | ⟨b2, f2, rfl, g2⟩
            · rw [g1] at hyl; exact absurd hyl (Nat.not_lt_zero _)
            have y1 := g2 y hyl
            have k2 : wr.cell? ⟨b2, f2 + y, none⟩ = some (.int .i64 (C[k])[y]) := (hG2.below.cell (p := ⟨b2, _, none⟩) (cell_lt y1)).trans y1
            have hl2 : o2.length ≤ 16781312 := by rw [hO2, List.length_append, List.length_take]; omega
            have hX0 : o2 ++ [(C[k])[y]] = out ++ R.take (k + 1) := by rw [hO2, htk, List.append_assoc]
            have HX : Hid _ := hX0
            clear hX0
            generalize (C[k])[y] = V at *
            clear htk hRk y1 g2 hO2 c1
            go_wp2_with (first | (at_builtin; refine wpList_append_own _ rfl _ _ 24 rfl w.heap.size 3 i0 (.int .i64 0) 1 8 Try.underlying24 hi hz0 hz1 hz2 rfl (by decide) _ _ _ rfl (own_below hG2.own ((Below.refl _ _).alloc (Nat.le_refl _) _)) ⟨wr.heap.size, 0, none⟩ 1 1 [.int .i64 V] rfl rfl (one_new wr _ _) (oneOne _) (by unfold maxLen; omega) (by omega) (by have := hG2.below.size; simp; omega) ?_))
            intro v' wz hown hgrow _
            obtain ⟨sv, mv, rfl⟩ := own_slice hown
            have HG : Hid _ := hG2.push _ hgrow hown
            clear hown hgrow hG2
            go_wp2
            go_roundw
            case rel => exact ⟨k + 1, _, _, by omega, by go_num, HX.out, rfl, HG.out⟩
            case measure => simp [intOf]; omega
          · obtain rfl : k = C.length := by omega
            have hX0 : o2 = ((Ex.trn n C).take (y + 1)).flatten := by
              rw [hO2, HN.out, HR.out, ← hRl, List.take_length]
            have HX : Hid _ := hX0
            clear hX0
            obtain ⟨sv, mv, rfl⟩ := own_slice hG2.own
            have HG : Hid _ := hG2
            clear hO2 hG2
            go_wp2
            go_roundw
            case rel => exact ⟨y + 1, _, _, by omega, by go_num, HX.out, rfl, HG.out⟩
            case measure => simp [intOf]; omega
      · obtain rfl : y = n := by omega
        have hE : out = (Ex.trn y C).flatten := by rw [hO, List.take_of_length_le (by omega)]
        obtain ⟨sv, mv, rfl⟩ := own_slice hG.own
        subst hE
        have HG : Hid _ := hG
        clear hO hG
        go_wp2
        go_ret
        exact ⟨_, rfl, HG.out⟩
end Go.Proofs.Ytoplgnckdmkaoaa
