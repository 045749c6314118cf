/-
  The plain mathematics of layer 4: the two lifting steps, their inverses, bounds and reach. No program in sight.
-/
import Derived.Test.YtnfnidgabgdphaaExt
set_option maxRecDepth 100000
namespace Go.Proofs.Ytnfnidgabgdphaa.Ex

/-- What the first step subtracts, what the second adds: kernels 1 (Haar), 2 (LeGall), 3 (Binary97). -/
def predF (g : Int → Int) (i k : Int) : Int := if k = 1 then g (i - 1) else if k = 2 then (g (i - 1) + g (i + 1)) / 2 else (9 * (g (i - 1) + g (i + 1)) - (g (i - 3) + g (i + 3)) + 8) / 16
def updF (g : Int → Int) (i k : Int) : Int := if k = 1 then g (i + 1) / 2 else (g (i - 1) + g (i + 1) + 2) / 4
def step1F (s : Int) (x : List Int) (k i : Int) : Int := if i % 2 = 0 then sg s x i else sg s x i - predF (ex s x) i k
def step2F (s : Int) (x : List Int) (k i : Int) : Int := if i % 2 = 0 then sg s x i + updF (ex s x) i k else sg s x i
def unst2F (s : Int) (x : List Int) (k i : Int) : Int := if i % 2 = 0 then sg s x i - updF (ex s x) i k else sg s x i
def unst1F (s : Int) (x : List Int) (k i : Int) : Int := if i % 2 = 0 then sg s x i else sg s x i + predF (ex s x) i k
def step1 (s : Int) (x : List Int) (k : Int) : List Int := tb s x.length (step1F s x k)
def step2 (s : Int) (x : List Int) (k : Int) : List Int := tb s x.length (step2F s x k)
def unst2 (s : Int) (x : List Int) (k : Int) : List Int := tb s x.length (unst2F s x k)
def unst1 (s : Int) (x : List Int) (k : Int) : List Int := tb s x.length (unst1F s x k)
/-- All numbers in the order of their indices, of a signal; and the signal of all numbers. -/
def fwdL (s : Int) (x : List Int) (k : Int) : List Int := if 1 < x.length then step2 s (step1 s x k) k else x
def invL (s : Int) (y : List Int) (k : Int) : List Int := if 1 < y.length then unst1 s (unst2 s y k) k else y
theorem step1_len (s : Int) (x : List Int) (k : Int) : (step1 s x k).length = x.length := tb_len _ _ _
theorem step2_len (s : Int) (x : List Int) (k : Int) : (step2 s x k).length = x.length := tb_len _ _ _
theorem unst1_len (s : Int) (x : List Int) (k : Int) : (unst1 s x k).length = x.length := tb_len _ _ _
theorem unst2_len (s : Int) (x : List Int) (k : Int) : (unst2 s x k).length = x.length := tb_len _ _ _
theorem fwd_len (s : Int) (x : List Int) (k : Int) : (fwdL s x k).length = x.length := by
  unfold fwdL; split
  · rw [step2_len, step1_len]
  · rfl
theorem inv_len (s : Int) (x : List Int) (k : Int) : (invL s x k).length = x.length := by
  unfold invL; split
  · rw [unst1_len, unst2_len]
  · rfl
/-- The extension of one parity hangs on the samples of this parity alone. -/
theorem ex_par {s : Int} {x y : List Int} {p : Int} (hl : y.length = x.length) (hn : 1 < x.length) (h : ∀ i, s ≤ i → i < s + x.length → i % 2 = p → sg s y i = sg s x i) {i : Int} (hi : i % 2 = p) : ex s y i = ex s x i := by
  unfold ex
  rw [hl]
  obtain ⟨h0, h1⟩ := mir_mem (i := i) (lo := s) (hi := s + x.length) (by omega)
  have h2 := mir_par (i := i) (lo := s) (hi := s + x.length) (by omega)
  exact h _ h0 h1 (by omega)
theorem upd_congr {g g' : Int → Int} {i k : Int} (hi : i % 2 = 0) (h : ∀ j, j % 2 = 1 → g j = g' j) : updF g i k = updF g' i k := by
  unfold updF
  rw [h (i + 1) (by omega), h (i - 1) (by omega)]
theorem pred_congr {g g' : Int → Int} {i k : Int} (hi : i % 2 = 1) (h : ∀ j, j % 2 = 0 → g j = g' j) : predF g i k = predF g' i k := by
  unfold predF
  rw [h (i + 1) (by omega), h (i - 1) (by omega), h (i - 3) (by omega), h (i + 3) (by omega)]
theorem un2_2 {s : Int} {x : List Int} (k : Int) (hn : 1 < x.length) : unst2 s (step2 s x k) k = x := by
  refine sig_ext (s := s) (by rw [unst2_len, step2_len]) fun i h0 h1 => ?_
  rw [unst2_len, step2_len] at h1
  rw [unst2, sg_tb h0 (by rw [step2_len]; exact h1), unst2F]
  have e : ∀ j, s ≤ j → j < s + x.length → j % 2 = 1 → sg s (step2 s x k) j = sg s x j := fun j a b c => by rw [step2, sg_tb a b, step2F, if_neg (by omega)]
  by_cases hp : i % 2 = 0
  · rw [if_pos hp, upd_congr (g' := ex s x) hp fun j hj => ex_par (step2_len s x k) hn e hj, step2, sg_tb h0 h1, step2F, if_pos hp]
    omega
  · rw [if_neg hp, e i h0 h1 (by omega)]
theorem st2_2 {s : Int} {x : List Int} (k : Int) (hn : 1 < x.length) : step2 s (unst2 s x k) k = x := by
  refine sig_ext (s := s) (by rw [step2_len, unst2_len]) fun i h0 h1 => ?_
  rw [step2_len, unst2_len] at h1
  rw [step2, sg_tb h0 (by rw [unst2_len]; exact h1), step2F]
  have e : ∀ j, s ≤ j → j < s + x.length → j % 2 = 1 → sg s (unst2 s x k) j = sg s x j := fun j a b c => by rw [unst2, sg_tb a b, unst2F, if_neg (by omega)]
  by_cases hp : i % 2 = 0
  · rw [if_pos hp, upd_congr (g' := ex s x) hp fun j hj => ex_par (unst2_len s x k) hn e hj, unst2, sg_tb h0 h1, unst2F, if_pos hp]
    omega
  · rw [if_neg hp, e i h0 h1 (by omega)]
theorem un1_1 {s : Int} {x : List Int} (k : Int) (hn : 1 < x.length) : unst1 s (step1 s x k) k = x := by
  refine sig_ext (s := s) (by rw [unst1_len, step1_len]) fun i h0 h1 => ?_
  rw [unst1_len, step1_len] at h1
  rw [unst1, sg_tb h0 (by rw [step1_len]; exact h1), unst1F]
  have e : ∀ j, s ≤ j → j < s + x.length → j % 2 = 0 → sg s (step1 s x k) j = sg s x j := fun j a b c => by rw [step1, sg_tb a b, step1F, if_pos c]
  by_cases hp : i % 2 = 0
  · rw [if_pos hp, e i h0 h1 hp]
  · rw [if_neg hp, pred_congr (g' := ex s x) (by omega) fun j hj => ex_par (step1_len s x k) hn e hj, step1, sg_tb h0 h1, step1F, if_neg hp]
    omega
theorem st1_1 {s : Int} {x : List Int} (k : Int) (hn : 1 < x.length) : step1 s (unst1 s x k) k = x := by
  refine sig_ext (s := s) (by rw [step1_len, unst1_len]) fun i h0 h1 => ?_
  rw [step1_len, unst1_len] at h1
  rw [step1, sg_tb h0 (by rw [unst1_len]; exact h1), step1F]
  have e : ∀ j, s ≤ j → j < s + x.length → j % 2 = 0 → sg s (unst1 s x k) j = sg s x j := fun j a b c => by rw [unst1, sg_tb a b, unst1F, if_pos c]
  by_cases hp : i % 2 = 0
  · rw [if_pos hp, e i h0 h1 hp]
  · rw [if_neg hp, pred_congr (g' := ex s x) (by omega) fun j hj => ex_par (unst1_len s x k) hn e hj, unst1, sg_tb h0 h1, unst1F, if_neg hp]
    omega
theorem inv_fwd (s : Int) (x : List Int) (k : Int) : invL s (fwdL s x k) k = x := by
  by_cases hn : 1 < x.length
  · rw [invL, fwd_len, if_pos hn, fwdL, if_pos hn, un2_2 k (by rw [step1_len]; exact hn), un1_1 k hn]
  · rw [invL, fwd_len, if_neg hn, fwdL, if_neg hn]
theorem fwd_inv (s : Int) (y : List Int) (k : Int) : fwdL s (invL s y k) k = y := by
  by_cases hn : 1 < y.length
  · rw [fwdL, inv_len, if_pos hn, invL, if_pos hn, st1_1 k (by rw [unst2_len]; exact hn), st2_2 k hn]
  · rw [fwdL, inv_len, if_neg hn, invL, if_neg hn]

/-! Bounds -/
def within (b : Int) (x : List Int) : Prop := ∀ v ∈ x, -b ≤ v ∧ v ≤ b
def hbI (b k : Int) : Int := if k = 3 then b + (20 * b + 8) / 16 else 2 * b
def lbI (b k : Int) : Int := if k = 1 then 2 * b else b + (2 * hbI b k + 2) / 4
theorem sg_mem {s : Int} {x : List Int} {i : Int} (h0 : s ≤ i) (h1 : i < s + x.length) : sg s x i ∈ x := by
  obtain ⟨j, rfl⟩ : ∃ j : Nat, i = s + (j : Int) := ⟨(i - s).toNat, by omega⟩
  rw [sg_at (by omega)]
  exact List.getElem_mem _
theorem ex_bd {s b : Int} {x : List Int} (hn : 0 < x.length) (h : within b x) (i : Int) : -b ≤ ex s x i ∧ ex s x i ≤ b := by
  obtain ⟨h0, h1⟩ := mir_mem (i := i) (lo := s) (hi := s + x.length) (by omega)
  exact h _ (sg_mem h0 h1)
theorem step1_bd {s b k : Int} {x : List Int} (hk : k = 1 ∨ k = 2 ∨ k = 3) (h : within b x) {i : Int} (h0 : s ≤ i) (h1 : i < s + x.length) :
    (i % 2 = 0 → -b ≤ sg s (step1 s x k) i ∧ sg s (step1 s x k) i ≤ b) ∧ (i % 2 ≠ 0 → -(hbI b k) ≤ sg s (step1 s x k) i ∧ sg s (step1 s x k) i ≤ hbI b k) := by
  rw [step1, sg_tb h0 h1, step1F]
  have hx := h _ (sg_mem (s := s) h0 h1)
  have hn : 0 < x.length := by omega
  have g1 := ex_bd (s := s) hn h (i - 1)
  have g2 := ex_bd (s := s) hn h (i + 1)
  have g3 := ex_bd (s := s) hn h (i - 3)
  have g4 := ex_bd (s := s) hn h (i + 3)
  refine ⟨fun hp => by rw [if_pos hp]; exact hx, fun hp => ?_⟩
  rw [if_neg hp, predF, hbI]
  rcases hk with rfl | rfl | rfl
  · simp only [Int.reduceEq, ↓reduceIte]; omega
  · simp only [Int.reduceEq, ↓reduceIte]; omega
  · simp only [Int.reduceEq, ↓reduceIte]; omega
theorem ex_odd_bd {s b : Int} {x : List Int} (hn : 1 < x.length) (h : ∀ i, s ≤ i → i < s + x.length → i % 2 ≠ 0 → -b ≤ sg s x i ∧ sg s x i ≤ b) {i : Int} (hi : i % 2 ≠ 0) : -b ≤ ex s x i ∧ ex s x i ≤ b := by
  obtain ⟨h0, h1⟩ := mir_mem (i := i) (lo := s) (hi := s + x.length) (by omega)
  have h2 := mir_par (i := i) (lo := s) (hi := s + x.length) (by omega)
  exact h _ h0 h1 (by omega)
theorem fwd_bd {s b k : Int} {x : List Int} (hk : k = 1 ∨ k = 2 ∨ k = 3) (hb : 0 ≤ b) (h : within b x) {i : Int} (h0 : s ≤ i) (h1 : i < s + x.length) :
    (i % 2 = 0 → -(lbI b k) ≤ sg s (fwdL s x k) i ∧ sg s (fwdL s x k) i ≤ lbI b k) ∧ (i % 2 ≠ 0 → -(hbI b k) ≤ sg s (fwdL s x k) i ∧ sg s (fwdL s x k) i ≤ hbI b k) := by
  by_cases hn : 1 < x.length
  · rw [fwdL, if_pos hn, step2, sg_tb h0 (by rw [step1_len]; exact h1), step2F]
    obtain ⟨e1, e2⟩ := step1_bd hk h h0 h1
    refine ⟨fun hp => ?_, fun hp => ?_⟩
    · have hx := e1 hp
      have ho : ∀ j, j % 2 ≠ 0 → -(hbI b k) ≤ ex s (step1 s x k) j ∧ ex s (step1 s x k) j ≤ hbI b k := fun j hj =>
        ex_odd_bd (by rw [step1_len]; exact hn) (fun i a c d => (step1_bd hk h a (by rw [step1_len] at c; exact c)).2 d) hj
      have g1 := ho (i - 1) (by omega)
      have g2 := ho (i + 1) (by omega)
      rw [if_pos hp, updF, lbI]
      rcases hk with rfl | rfl | rfl
      · rw [if_pos rfl, if_pos rfl]
        rw [hbI, if_neg (by decide)] at g2
        omega
      · rw [if_neg (by decide), if_neg (by decide)]; omega
      · rw [if_neg (by decide), if_neg (by decide)]; omega
    · rw [if_neg hp]
      exact e2 hp
  · rw [fwdL, if_neg hn]
    have hx := h _ (sg_mem (s := s) h0 h1)
    refine ⟨fun _ => ?_, fun _ => ?_⟩
    · rw [lbI, hbI]; split <;> (try split) <;> omega
    · rw [hbI]; split <;> omega

/-! A flat signal; a signal two indices further -/
theorem ex_flat {s v : Int} {n : Nat} (hn : 0 < n) (i : Int) : ex s (List.replicate n v) i = v := by
  obtain ⟨h0, h1⟩ := mir_mem (i := i) (lo := s) (hi := s + (List.replicate n v).length) (by rw [List.length_replicate]; omega)
  have := sg_mem h0 h1
  exact List.eq_of_mem_replicate this
theorem fwd_flat {s v k : Int} {n : Nat} (hk : k = 1 ∨ k = 2 ∨ k = 3) (hn : 1 < n) {i : Int} (h0 : s ≤ i) (h1 : i < s + n) : sg s (fwdL s (List.replicate n v) k) i = if i % 2 = 0 then v else 0 := by
  have hl : (List.replicate n v).length = n := List.length_replicate
  have e1 : ∀ j, s ≤ j → j < s + n → sg s (step1 s (List.replicate n v) k) j = if j % 2 = 0 then v else 0 := by
    intro j a c
    have hv : sg s (List.replicate n v) j = v := List.eq_of_mem_replicate (sg_mem a (by rw [hl]; exact c))
    rw [step1, sg_tb a (by rw [hl]; exact c), step1F, hv, predF, ex_flat (by omega), ex_flat (by omega), ex_flat (by omega), ex_flat (by omega)]
    split
    · rfl
    · rcases hk with rfl | rfl | rfl
      · rw [if_pos rfl]; omega
      · rw [if_neg (by decide), if_pos rfl]; omega
      · rw [if_neg (by decide), if_neg (by decide)]; omega
  have e2 : ∀ j, j % 2 ≠ 0 → ex s (step1 s (List.replicate n v) k) j = 0 := by
    intro j hj
    have hl1 : (step1 s (List.replicate n v) k).length = n := by rw [step1_len, hl]
    obtain ⟨a, c⟩ := mir_mem (i := j) (lo := s) (hi := s + (step1 s (List.replicate n v) k).length) (by omega)
    have d := mir_par (i := j) (lo := s) (hi := s + (step1 s (List.replicate n v) k).length) (by omega)
    rw [ex, e1 _ a (by omega), if_neg (by omega)]
  rw [fwdL, if_pos (by rw [hl]; exact hn), step2, sg_tb h0 (by rw [step1_len, hl]; exact h1), step2F, e1 i h0 h1]
  split
  · rename_i hp
    rw [updF, e2 (i + 1) (by omega), e2 (i - 1) (by omega)]
    split <;> omega
  · rfl
theorem sg_shift (s t : Int) (x : List Int) (i : Int) : sg (s + t) x (i + t) = sg s x i := by
  unfold sg
  rw [show i + t - (s + t) = i - s by omega]
theorem ex_shift (s t : Int) (x : List Int) (i : Int) : ex (s + t) x (i + t) = ex s x i := by
  unfold ex
  rw [show s + t + (x.length : Int) = s + x.length + t by omega, mir_shift, sg_shift]
theorem tb_shift (s t : Int) (n : Nat) (f : Int → Int) : tb (s + t) n f = tb s n fun i => f (i + t) := by
  unfold tb
  refine List.map_congr_left fun j _ => ?_
  rw [show s + t + (j : Int) = s + (j : Int) + t by omega]
theorem pred_shift (s t : Int) (x : List Int) (i k : Int) : predF (ex (s + t) x) (i + t) k = predF (ex s x) i k := by
  unfold predF
  rw [show i + t - 1 = i - 1 + t by omega, show i + t + 1 = i + 1 + t by omega, show i + t - 3 = i - 3 + t by omega, show i + t + 3 = i + 3 + t by omega, ex_shift, ex_shift, ex_shift, ex_shift]
theorem upd_shift (s t : Int) (x : List Int) (i k : Int) : updF (ex (s + t) x) (i + t) k = updF (ex s x) i k := by
  unfold updF
  rw [show i + t - 1 = i - 1 + t by omega, show i + t + 1 = i + 1 + t by omega, ex_shift, ex_shift]
theorem step1_two (s : Int) (x : List Int) (k : Int) : step1 (s + 2) x k = step1 s x k := by
  rw [step1, tb_shift, step1]
  refine tb_congr fun i _ _ => ?_
  rw [step1F, step1F, sg_shift, pred_shift, show (i + 2) % 2 = i % 2 by omega]
theorem step2_two (s : Int) (x : List Int) (k : Int) : step2 (s + 2) x k = step2 s x k := by
  rw [step2, tb_shift, step2]
  refine tb_congr fun i _ _ => ?_
  rw [step2F, step2F, sg_shift, upd_shift, show (i + 2) % 2 = i % 2 by omega]
theorem fwd_two (s : Int) (x : List Int) (k : Int) : fwdL (s + 2) x k = fwdL s x k := by
  unfold fwdL
  rw [step1_two, step2_two]
theorem split_two (x : List Int) : ∀ s : Int, splitE (s + 2) x = splitE s x ∧ splitO (s + 2) x = splitO s x := by
  induction x with
  | nil => intro s; exact ⟨rfl, rfl⟩
  | cons v x ih =>
    intro s
    obtain ⟨h1, h2⟩ := ih (s + 1)
    rw [splitE, splitE, splitO, splitO, show s + 2 + 1 = s + 1 + 2 by omega, h1, h2, show (s + 2) % 2 = s % 2 by omega]
    exact ⟨rfl, rfl⟩

/-! Reach -/
def reach (k : Int) : Nat := if k = 1 ∨ k = 2 then 1 else 3
theorem un2_reach {s k : Int} {y z : List Int} (hl : z.length = y.length) {i : Int} (h0 : s ≤ i) (h1 : i < s + y.length) (h : ∀ j, s ≤ j → j < s + y.length → j - i ≤ 1 → i - j ≤ 1 → sg s z j = sg s y j) :
    sg s (unst2 s z k) i = sg s (unst2 s y k) i := by
  have e : ∀ d : Nat, d ≤ 1 → ex s z (i + d) = ex s y (i + d) ∧ ex s z (i - d) = ex s y (i - d) := by
    intro d hd
    obtain ⟨⟨a, c⟩, ⟨a', c'⟩⟩ := mir_near h0 h1 d
    obtain ⟨m0, m1⟩ := mir_mem (i := i + d) (lo := s) (hi := s + y.length) (by omega)
    obtain ⟨n0, n1⟩ := mir_mem (i := i - d) (lo := s) (hi := s + y.length) (by omega)
    unfold ex
    rw [hl]
    exact ⟨h _ m0 m1 (by omega) (by omega), h _ n0 n1 (by omega) (by omega)⟩
  obtain ⟨e1, e2⟩ := e 1 (Nat.le_refl _)
  rw [unst2, sg_tb h0 (by rw [hl]; exact h1), unst2, sg_tb h0 h1, unst2F, unst2F, h i h0 h1 (by omega) (by omega), updF, updF]
  simp only [Int.natCast_one] at e1 e2
  rw [e1, e2]
theorem un1_reach {s k : Int} {y z : List Int} (hl : z.length = y.length) {i : Int} (h0 : s ≤ i) (h1 : i < s + y.length) (h : ∀ j, s ≤ j → j < s + y.length → j - i ≤ reach k → i - j ≤ reach k → sg s z j = sg s y j) :
    sg s (unst1 s z k) i = sg s (unst1 s y k) i := by
  have e : ∀ d : Nat, d ≤ reach k → ex s z (i + d) = ex s y (i + d) ∧ ex s z (i - d) = ex s y (i - d) := by
    intro d hd
    obtain ⟨⟨a, c⟩, ⟨a', c'⟩⟩ := mir_near h0 h1 d
    obtain ⟨m0, m1⟩ := mir_mem (i := i + d) (lo := s) (hi := s + y.length) (by omega)
    obtain ⟨n0, n1⟩ := mir_mem (i := i - d) (lo := s) (hi := s + y.length) (by omega)
    unfold ex
    rw [hl]
    exact ⟨h _ m0 m1 (by omega) (by omega), h _ n0 n1 (by omega) (by omega)⟩
  have hr : 1 ≤ reach k := by unfold reach; split <;> omega
  obtain ⟨e1, e2⟩ := e 1 hr
  simp only [Int.natCast_one] at e1 e2
  rw [unst1, sg_tb h0 (by rw [hl]; exact h1), unst1, sg_tb h0 h1, unst1F, unst1F, h i h0 h1 (by omega) (by omega), predF, predF, e1, e2]
  by_cases h2 : k = 1
  · rw [if_pos h2, if_pos h2]
  · by_cases h4 : k = 2
    · rw [if_neg h2, if_neg h2, if_pos h4, if_pos h4]
    · obtain ⟨e3, e4⟩ := e 3 (by unfold reach; rw [if_neg (by omega)]; exact Nat.le_refl _)
      rw [show ((3 : Nat) : Int) = 3 from rfl] at e3 e4
      rw [e3, e4]
theorem inv_reach {s k : Int} {y z : List Int} (hl : z.length = y.length) {p : Int} (hd : ∀ j, s ≤ j → j < s + y.length → j ≠ p → sg s z j = sg s y j) {i : Int} (h0 : s ≤ i) (h1 : i < s + y.length) (hf : reach k + 1 < i - p ∨ reach k + 1 < p - i) :
    sg s (invL s z k) i = sg s (invL s y k) i := by
  unfold invL
  rw [hl]
  by_cases hn : 1 < y.length
  · rw [if_pos hn, if_pos hn]
    refine un1_reach (by rw [unst2_len, unst2_len, hl]) h0 (by rw [unst2_len]; exact h1) fun j a c d1 d2 => ?_
    rw [unst2_len] at c
    refine un2_reach hl a c fun q a' c' d3 d4 => hd q a' c' ?_
    omega
  · rw [if_neg hn, if_neg hn]
    exact hd i h0 h1 (by omega)
end Go.Proofs.Ytnfnidgabgdphaa.Ex
