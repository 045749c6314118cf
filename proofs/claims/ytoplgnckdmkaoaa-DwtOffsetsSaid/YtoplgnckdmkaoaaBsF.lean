/-
  Layers 1 to 5, the base: Lift, LiftR, LiftS, LiftI of one piece.
-/
import Derived.Test.YtoplgnckdmkaoaaBsE
import Derived.Laws.AppendOwnNone
set_option maxRecDepth 100000
namespace Go.Proofs.Ytoplgnckdmkaoaa.Ex

/-- What the first step subtracts, what the second adds: kernels 1 (Haar), 2 (LeGall), 3 (Binary97). -/
def predF (g : Int → Int) (i k : Int) : Int := if k = 1 then g (i - 1) else if k = 2 then (g (i - 1) + g (i + 1)) / 2 else (9 * (g (i - 1) + g (i + 1)) - (g (i - 3) + g (i + 3)) + 8) / 16
def updF (g : Int → Int) (i k : Int) : Int := if k = 1 then g (i + 1) / 2 else (g (i - 1) + g (i + 1) + 2) / 4
def step1F (s : Int) (x : List Int) (k i : Int) : Int := if i % 2 = 0 then sg s x i else sg s x i - predF (ex s x) i k
def step2F (s : Int) (x : List Int) (k i : Int) : Int := if i % 2 = 0 then sg s x i + updF (ex s x) i k else sg s x i
def unst2F (s : Int) (x : List Int) (k i : Int) : Int := if i % 2 = 0 then sg s x i - updF (ex s x) i k else sg s x i
def unst1F (s : Int) (x : List Int) (k i : Int) : Int := if i % 2 = 0 then sg s x i else sg s x i + predF (ex s x) i k
def step1 (s : Int) (x : List Int) (k : Int) : List Int := tb s x.length (step1F s x k)
def step2 (s : Int) (x : List Int) (k : Int) : List Int := tb s x.length (step2F s x k)
def unst2 (s : Int) (x : List Int) (k : Int) : List Int := tb s x.length (unst2F s x k)
def unst1 (s : Int) (x : List Int) (k : Int) : List Int := tb s x.length (unst1F s x k)
/-- All numbers in the order of their indices, of a signal; and the signal of all numbers. -/
def fwdL (s : Int) (x : List Int) (k : Int) : List Int := if 1 < x.length then step2 s (step1 s x k) k else x
def invL (s : Int) (y : List Int) (k : Int) : List Int := if 1 < y.length then unst1 s (unst2 s y k) k else y
theorem step1_len (s : Int) (x : List Int) (k : Int) : (step1 s x k).length = x.length := tb_len _ _ _
theorem step2_len (s : Int) (x : List Int) (k : Int) : (step2 s x k).length = x.length := tb_len _ _ _
theorem unst1_len (s : Int) (x : List Int) (k : Int) : (unst1 s x k).length = x.length := tb_len _ _ _
theorem unst2_len (s : Int) (x : List Int) (k : Int) : (unst2 s x k).length = x.length := tb_len _ _ _
theorem fwd_len (s : Int) (x : List Int) (k : Int) : (fwdL s x k).length = x.length := by
  unfold fwdL; split
  · rw [step2_len, step1_len]
  · rfl
theorem inv_len (s : Int) (x : List Int) (k : Int) : (invL s x k).length = x.length := by
  unfold invL; split
  · rw [unst1_len, unst2_len]
  · rfl
/-- The extension of one parity hangs on the samples of this parity alone. -/
theorem ex_par {s : Int} {x y : List Int} {p : Int} (hl : y.length = x.length) (hn : 1 < x.length) (h : ∀ i, s ≤ i → i < s + x.length → i % 2 = p → sg s y i = sg s x i) {i : Int} (hi : i % 2 = p) : ex s y i = ex s x i := by
  unfold ex
  rw [hl]
  obtain ⟨h0, h1⟩ := mir_mem (i := i) (lo := s) (hi := s + x.length) (by omega)
  have h2 := mir_par (i := i) (lo := s) (hi := s + x.length) (by omega)
  exact h _ h0 h1 (by omega)
theorem upd_congr {g g' : Int → Int} {i k : Int} (hi : i % 2 = 0) (h : ∀ j, j % 2 = 1 → g j = g' j) : updF g i k = updF g' i k := by
  unfold updF
  rw [h (i + 1) (by omega), h (i - 1) (by omega)]
theorem pred_congr {g g' : Int → Int} {i k : Int} (hi : i % 2 = 1) (h : ∀ j, j % 2 = 0 → g j = g' j) : predF g i k = predF g' i k := by
  unfold predF
  rw [h (i + 1) (by omega), h (i - 1) (by omega), h (i - 3) (by omega), h (i + 3) (by omega)]
theorem un2_2 {s : Int} {x : List Int} (k : Int) (hn : 1 < x.length) : unst2 s (step2 s x k) k = x := by
  refine sig_ext (s := s) (by rw [unst2_len, step2_len]) fun i h0 h1 => ?_
  rw [unst2_len, step2_len] at h1
  rw [unst2, sg_tb h0 (by rw [step2_len]; exact h1), unst2F]
  have e : ∀ j, s ≤ j → j < s + x.length → j % 2 = 1 → sg s (step2 s x k) j = sg s x j := fun j a b c => by rw [step2, sg_tb a b, step2F, if_neg (by omega)]
  by_cases hp : i % 2 = 0
  · rw [if_pos hp, upd_congr (g' := ex s x) hp fun j hj => ex_par (step2_len s x k) hn e hj, step2, sg_tb h0 h1, step2F, if_pos hp]
    omega
  · rw [if_neg hp, e i h0 h1 (by omega)]
theorem st2_2 {s : Int} {x : List Int} (k : Int) (hn : 1 < x.length) : step2 s (unst2 s x k) k = x := by
  refine sig_ext (s := s) (by rw [step2_len, unst2_len]) fun i h0 h1 => ?_
  rw [step2_len, unst2_len] at h1
  rw [step2, sg_tb h0 (by rw [unst2_len]; exact h1), step2F]
  have e : ∀ j, s ≤ j → j < s + x.length → j % 2 = 1 → sg s (unst2 s x k) j = sg s x j := fun j a b c => by rw [unst2, sg_tb a b, unst2F, if_neg (by omega)]
  by_cases hp : i % 2 = 0
  · rw [if_pos hp, upd_congr (g' := ex s x) hp fun j hj => ex_par (unst2_len s x k) hn e hj, unst2, sg_tb h0 h1, unst2F, if_pos hp]
    omega
  · rw [if_neg hp, e i h0 h1 (by omega)]
theorem un1_1 {s : Int} {x : List Int} (k : Int) (hn : 1 < x.length) : unst1 s (step1 s x k) k = x := by
  refine sig_ext (s := s) (by rw [unst1_len, step1_len]) fun i h0 h1 => ?_
  rw [unst1_len, step1_len] at h1
  rw [unst1, sg_tb h0 (by rw [step1_len]; exact h1), unst1F]
  have e : ∀ j, s ≤ j → j < s + x.length → j % 2 = 0 → sg s (step1 s x k) j = sg s x j := fun j a b c => by rw [step1, sg_tb a b, step1F, if_pos c]
  by_cases hp : i % 2 = 0
  · rw [if_pos hp, e i h0 h1 hp]
  · rw [if_neg hp, pred_congr (g' := ex s x) (by omega) fun j hj => ex_par (step1_len s x k) hn e hj, step1, sg_tb h0 h1, step1F, if_neg hp]
    omega
theorem st1_1 {s : Int} {x : List Int} (k : Int) (hn : 1 < x.length) : step1 s (unst1 s x k) k = x := by
  refine sig_ext (s := s) (by rw [step1_len, unst1_len]) fun i h0 h1 => ?_
  rw [step1_len, unst1_len] at h1
  rw [step1, sg_tb h0 (by rw [unst1_len]; exact h1), step1F]
  have e : ∀ j, s ≤ j → j < s + x.length → j % 2 = 0 → sg s (unst1 s x k) j = sg s x j := fun j a b c => by rw [unst1, sg_tb a b, unst1F, if_pos c]
  by_cases hp : i % 2 = 0
  · rw [if_pos hp, e i h0 h1 hp]
  · rw [if_neg hp, pred_congr (g' := ex s x) (by omega) fun j hj => ex_par (unst1_len s x k) hn e hj, unst1, sg_tb h0 h1, unst1F, if_neg hp]
    omega
theorem inv_fwd (s : Int) (x : List Int) (k : Int) : invL s (fwdL s x k) k = x := by
  by_cases hn : 1 < x.length
  · rw [invL, fwd_len, if_pos hn, fwdL, if_pos hn, un2_2 k (by rw [step1_len]; exact hn), un1_1 k hn]
  · rw [invL, fwd_len, if_neg hn, fwdL, if_neg hn]
theorem fwd_inv (s : Int) (y : List Int) (k : Int) : fwdL s (invL s y k) k = y := by
  by_cases hn : 1 < y.length
  · rw [fwdL, inv_len, if_pos hn, invL, if_pos hn, st1_1 k (by rw [unst2_len]; exact hn), st2_2 k hn]
  · rw [fwdL, inv_len, if_neg hn, invL, if_neg hn]

/-! Bounds -/
def within (b : Int) (x : List Int) : Prop := ∀ v ∈ x, -b ≤ v ∧ v ≤ b
def hbI (b k : Int) : Int := if k = 3 then b + (20 * b + 8) / 16 else 2 * b
def lbI (b k : Int) : Int := if k = 1 then 2 * b else b + (2 * hbI b k + 2) / 4
theorem sg_mem {s : Int} {x : List Int} {i : Int} (h0 : s ≤ i) (h1 : i < s + x.length) : sg s x i ∈ x := by
  obtain ⟨j, rfl⟩ : ∃ j : Nat, i = s + (j : Int) := ⟨(i - s).toNat, by omega⟩
  rw [sg_at (by omega)]
  exact List.getElem_mem _
theorem ex_bd {s b : Int} {x : List Int} (hn : 0 < x.length) (h : within b x) (i : Int) : -b ≤ ex s x i ∧ ex s x i ≤ b := by
  obtain ⟨h0, h1⟩ := mir_mem (i := i) (lo := s) (hi := s + x.length) (by omega)
  exact h _ (sg_mem h0 h1)
theorem step1_bd {s b k : Int} {x : List Int} (hk : k = 1 ∨ k = 2 ∨ k = 3) (h : within b x) {i : Int} (h0 : s ≤ i) (h1 : i < s + x.length) :
    (i % 2 = 0 → -b ≤ sg s (step1 s x k) i ∧ sg s (step1 s x k) i ≤ b) ∧ (i % 2 ≠ 0 → -(hbI b k) ≤ sg s (step1 s x k) i ∧ sg s (step1 s x k) i ≤ hbI b k) := by
  rw [step1, sg_tb h0 h1, step1F]
  have hx := h _ (sg_mem (s := s) h0 h1)
  have hn : 0 < x.length := by omega
  have g1 := ex_bd (s := s) hn h (i - 1)
  have g2 := ex_bd (s := s) hn h (i + 1)
  have g3 := ex_bd (s := s) hn h (i - 3)
  have g4 := ex_bd (s := s) hn h (i + 3)
  refine ⟨fun hp => by rw [if_pos hp]; exact hx, fun hp => ?_⟩
  rw [if_neg hp, predF, hbI]
  rcases hk with rfl | rfl | rfl
  · simp only [Int.reduceEq, ↓reduceIte]; omega
  · simp only [Int.reduceEq, ↓reduceIte]; omega
  · simp only [Int.reduceEq, ↓reduceIte]; omega
theorem ex_odd_bd {s b : Int} {x : List Int} (hn : 1 < x.length) (h : ∀ i, s ≤ i → i < s + x.length → i % 2 ≠ 0 → -b ≤ sg s x i ∧ sg s x i ≤ b) {i : Int} (hi : i % 2 ≠ 0) : -b ≤ ex s x i ∧ ex s x i ≤ b := by
  obtain ⟨h0, h1⟩ := mir_mem (i := i) (lo := s) (hi := s + x.length) (by omega)
  have h2 := mir_par (i := i) (lo := s) (hi := s + x.length) (by omega)
  exact h _ h0 h1 (by omega)
theorem fwd_bd {s b k : Int} {x : List Int} (hk : k = 1 ∨ k = 2 ∨ k = 3) (hb : 0 ≤ b) (h : within b x) {i : Int} (h0 : s ≤ i) (h1 : i < s + x.length) :
    (i % 2 = 0 → -(lbI b k) ≤ sg s (fwdL s x k) i ∧ sg s (fwdL s x k) i ≤ lbI b k) ∧ (i % 2 ≠ 0 → -(hbI b k) ≤ sg s (fwdL s x k) i ∧ sg s (fwdL s x k) i ≤ hbI b k) := by
  by_cases hn : 1 < x.length
  · rw [fwdL, if_pos hn, step2, sg_tb h0 (by rw [step1_len]; exact h1), step2F]
    obtain ⟨e1, e2⟩ := step1_bd hk h h0 h1
    refine ⟨fun hp => ?_, fun hp => ?_⟩
    · have hx := e1 hp
      have ho : ∀ j, j % 2 ≠ 0 → -(hbI b k) ≤ ex s (step1 s x k) j ∧ ex s (step1 s x k) j ≤ hbI b k := fun j hj =>
        ex_odd_bd (by rw [step1_len]; exact hn) (fun i a c d => (step1_bd hk h a (by rw [step1_len] at c; exact c)).2 d) hj
      have g1 := ho (i - 1) (by omega)
      have g2 := ho (i + 1) (by omega)
      rw [if_pos hp, updF, lbI]
      rcases hk with rfl | rfl | rfl
      · rw [if_pos rfl, if_pos rfl]
        rw [hbI, if_neg (by decide)] at g2
        omega
      · rw [if_neg (by decide), if_neg (by decide)]; omega
      · rw [if_neg (by decide), if_neg (by decide)]; omega
    · rw [if_neg hp]
      exact e2 hp
  · rw [fwdL, if_neg hn]
    have hx := h _ (sg_mem (s := s) h0 h1)
    refine ⟨fun _ => ?_, fun _ => ?_⟩
    · rw [lbI, hbI]; split <;> (try split) <;> omega
    · rw [hbI]; split <;> omega

/-! A flat signal; a signal two indices further -/
theorem ex_flat {s v : Int} {n : Nat} (hn : 0 < n) (i : Int) : ex s (List.replicate n v) i = v := by
  obtain ⟨h0, h1⟩ := mir_mem (i := i) (lo := s) (hi := s + (List.replicate n v).length) (by rw [List.length_replicate]; omega)
  have := sg_mem h0 h1
  exact List.eq_of_mem_replicate this
theorem fwd_flat {s v k : Int} {n : Nat} (hk : k = 1 ∨ k = 2 ∨ k = 3) (hn : 1 < n) {i : Int} (h0 : s ≤ i) (h1 : i < s + n) : sg s (fwdL s (List.replicate n v) k) i = if i % 2 = 0 then v else 0 := by
  have hl : (List.replicate n v).length = n := List.length_replicate
  have e1 : ∀ j, s ≤ j → j < s + n → sg s (step1 s (List.replicate n v) k) j = if j % 2 = 0 then v else 0 := by
    intro j a c
    have hv : sg s (List.replicate n v) j = v := List.eq_of_mem_replicate (sg_mem a (by rw [hl]; exact c))
    rw [step1, sg_tb a (by rw [hl]; exact c), step1F, hv, predF, ex_flat (by omega), ex_flat (by omega), ex_flat (by omega), ex_flat (by omega)]
    split
    · rfl
    · rcases hk with rfl | rfl | rfl
      · rw [if_pos rfl]; omega
      · rw [if_neg (by decide), if_pos rfl]; omega
      · rw [if_neg (by decide), if_neg (by decide)]; omega
  have e2 : ∀ j, j % 2 ≠ 0 → ex s (step1 s (List.replicate n v) k) j = 0 := by
    intro j hj
    have hl1 : (step1 s (List.replicate n v) k).length = n := by rw [step1_len, hl]
    obtain ⟨a, c⟩ := mir_mem (i := j) (lo := s) (hi := s + (step1 s (List.replicate n v) k).length) (by omega)
    have d := mir_par (i := j) (lo := s) (hi := s + (step1 s (List.replicate n v) k).length) (by omega)
    rw [ex, e1 _ a (by omega), if_neg (by omega)]
  rw [fwdL, if_pos (by rw [hl]; exact hn), step2, sg_tb h0 (by rw [step1_len, hl]; exact h1), step2F, e1 i h0 h1]
  split
  · rename_i hp
    rw [updF, e2 (i + 1) (by omega), e2 (i - 1) (by omega)]
    split <;> omega
  · rfl
theorem sg_shift (s t : Int) (x : List Int) (i : Int) : sg (s + t) x (i + t) = sg s x i := by
  unfold sg
  rw [show i + t - (s + t) = i - s by omega]
theorem ex_shift (s t : Int) (x : List Int) (i : Int) : ex (s + t) x (i + t) = ex s x i := by
  unfold ex
  rw [show s + t + (x.length : Int) = s + x.length + t by omega, mir_shift, sg_shift]
theorem tb_shift (s t : Int) (n : Nat) (f : Int → Int) : tb (s + t) n f = tb s n fun i => f (i + t) := by
  unfold tb
  refine List.map_congr_left fun j _ => ?_
  rw [show s + t + (j : Int) = s + (j : Int) + t by omega]
theorem pred_shift (s t : Int) (x : List Int) (i k : Int) : predF (ex (s + t) x) (i + t) k = predF (ex s x) i k := by
  unfold predF
  rw [show i + t - 1 = i - 1 + t by omega, show i + t + 1 = i + 1 + t by omega, show i + t - 3 = i - 3 + t by omega, show i + t + 3 = i + 3 + t by omega, ex_shift, ex_shift, ex_shift, ex_shift]
theorem upd_shift (s t : Int) (x : List Int) (i k : Int) : updF (ex (s + t) x) (i + t) k = updF (ex s x) i k := by
  unfold updF
  rw [show i + t - 1 = i - 1 + t by omega, show i + t + 1 = i + 1 + t by omega, ex_shift, ex_shift]
theorem step1_two (s : Int) (x : List Int) (k : Int) : step1 (s + 2) x k = step1 s x k := by
  rw [step1, tb_shift, step1]
  refine tb_congr fun i _ _ => ?_
  rw [step1F, step1F, sg_shift, pred_shift, show (i + 2) % 2 = i % 2 by omega]
theorem step2_two (s : Int) (x : List Int) (k : Int) : step2 (s + 2) x k = step2 s x k := by
  rw [step2, tb_shift, step2]
  refine tb_congr fun i _ _ => ?_
  rw [step2F, step2F, sg_shift, upd_shift, show (i + 2) % 2 = i % 2 by omega]
theorem fwd_two (s : Int) (x : List Int) (k : Int) : fwdL (s + 2) x k = fwdL s x k := by
  unfold fwdL
  rw [step1_two, step2_two]
theorem split_two (x : List Int) : ∀ s : Int, splitE (s + 2) x = splitE s x ∧ splitO (s + 2) x = splitO s x := by
  induction x with
  | nil => intro s; exact ⟨rfl, rfl⟩
  | cons v x ih =>
    intro s
    obtain ⟨h1, h2⟩ := ih (s + 1)
    rw [splitE, splitE, splitO, splitO, show s + 2 + 1 = s + 1 + 2 by omega, h1, h2, show (s + 2) % 2 = s % 2 by omega]
    exact ⟨rfl, rfl⟩

/-! Reach -/
def reach (k : Int) : Nat := if k = 1 ∨ k = 2 then 1 else 3
theorem un2_reach {s k : Int} {y z : List Int} (hl : z.length = y.length) {i : Int} (h0 : s ≤ i) (h1 : i < s + y.length) (h : ∀ j, s ≤ j → j < s + y.length → j - i ≤ 1 → i - j ≤ 1 → sg s z j = sg s y j) :
    sg s (unst2 s z k) i = sg s (unst2 s y k) i := by
  have e : ∀ d : Nat, d ≤ 1 → ex s z (i + d) = ex s y (i + d) ∧ ex s z (i - d) = ex s y (i - d) := by
    intro d hd
    obtain ⟨⟨a, c⟩, ⟨a', c'⟩⟩ := mir_near h0 h1 d
    obtain ⟨m0, m1⟩ := mir_mem (i := i + d) (lo := s) (hi := s + y.length) (by omega)
    obtain ⟨n0, n1⟩ := mir_mem (i := i - d) (lo := s) (hi := s + y.length) (by omega)
    unfold ex
    rw [hl]
    exact ⟨h _ m0 m1 (by omega) (by omega), h _ n0 n1 (by omega) (by omega)⟩
  obtain ⟨e1, e2⟩ := e 1 (Nat.le_refl _)
  rw [unst2, sg_tb h0 (by rw [hl]; exact h1), unst2, sg_tb h0 h1, unst2F, unst2F, h i h0 h1 (by omega) (by omega), updF, updF]
  simp only [Int.natCast_one] at e1 e2
  rw [e1, e2]
theorem un1_reach {s k : Int} {y z : List Int} (hl : z.length = y.length) {i : Int} (h0 : s ≤ i) (h1 : i < s + y.length) (h : ∀ j, s ≤ j → j < s + y.length → j - i ≤ reach k → i - j ≤ reach k → sg s z j = sg s y j) :
    sg s (unst1 s z k) i = sg s (unst1 s y k) i := by
  have e : ∀ d : Nat, d ≤ reach k → ex s z (i + d) = ex s y (i + d) ∧ ex s z (i - d) = ex s y (i - d) := by
    intro d hd
    obtain ⟨⟨a, c⟩, ⟨a', c'⟩⟩ := mir_near h0 h1 d
    obtain ⟨m0, m1⟩ := mir_mem (i := i + d) (lo := s) (hi := s + y.length) (by omega)
    obtain ⟨n0, n1⟩ := mir_mem (i := i - d) (lo := s) (hi := s + y.length) (by omega)
    unfold ex
    rw [hl]
    exact ⟨h _ m0 m1 (by omega) (by omega), h _ n0 n1 (by omega) (by omega)⟩
  have hr : 1 ≤ reach k := by unfold reach; split <;> omega
  obtain ⟨e1, e2⟩ := e 1 hr
  simp only [Int.natCast_one] at e1 e2
  rw [unst1, sg_tb h0 (by rw [hl]; exact h1), unst1, sg_tb h0 h1, unst1F, unst1F, h i h0 h1 (by omega) (by omega), predF, predF, e1, e2]
  by_cases h2 : k = 1
  · rw [if_pos h2, if_pos h2]
  · by_cases h4 : k = 2
    · rw [if_neg h2, if_neg h2, if_pos h4, if_pos h4]
    · obtain ⟨e3, e4⟩ := e 3 (by unfold reach; rw [if_neg (by omega)]; exact Nat.le_refl _)
      rw [show ((3 : Nat) : Int) = 3 from rfl] at e3 e4
      rw [e3, e4]
theorem inv_reach {s k : Int} {y z : List Int} (hl : z.length = y.length) {p : Int} (hd : ∀ j, s ≤ j → j < s + y.length → j ≠ p → sg s z j = sg s y j) {i : Int} (h0 : s ≤ i) (h1 : i < s + y.length) (hf : reach k + 1 < i - p ∨ reach k + 1 < p - i) :
    sg s (invL s z k) i = sg s (invL s y k) i := by
  unfold invL
  rw [hl]
  by_cases hn : 1 < y.length
  · rw [if_pos hn, if_pos hn]
    refine un1_reach (by rw [unst2_len, unst2_len, hl]) h0 (by rw [unst2_len]; exact h1) fun j a c d1 d2 => ?_
    rw [unst2_len] at c
    refine un2_reach hl a c fun q a' c' d3 d4 => hd q a' c' ?_
    omega
  · rw [if_neg hn, if_neg hn]
    exact hd i h0 h1 (by omega)
end Go.Proofs.Ytoplgnckdmkaoaa.Ex

namespace Go.Proofs.Ytoplgnckdmkaoaa
open Go.RowKit

def fewB (l : List Int) (b : Int) : Bool := l.all fun v => decide (-b ≤ v ∧ v ≤ b)
theorem few_iff {l : List Int} {b : Int} : fewB l b = true ↔ Ex.within b l := by simp [fewB, Ex.within]
theorem few_all {l : List Int} {b : Int} (h : ∀ j (hj : j < l.length), -b ≤ l[j] ∧ l[j] ≤ b) : fewB l b = true := few_iff.2 fun v hv => by
  obtain ⟨j, hj, rfl⟩ := List.getElem_of_mem hv
  exact h j hj
theorem few_none {l : List Int} {b : Int} {j : Nat} (hj : j < l.length) (h : b < l[j] ∨ l[j] < -b) : fewB l b = false := by
  rw [Bool.eq_false_iff, Ne, few_iff]
  intro hw
  have := hw _ (List.getElem_mem hj)
  omega
set_option maxHeartbeats 1000000 in
theorem few_r (l : List Int) (b : Int) (s : Option Addr) (m : Nat) (w : World) (hb : 0 ≤ b) (hb' : b ≤ 4611686018427387904) (hl : l.length ≤ 140737488351232) (hH : HoldsI w s l) :
    Calls Try.prog 133 #[.slice s l.length m, .int .i64 b] w fun e w' => e = .returned (.bool (fewB l b)) ∧ w = w' := by
  have w1 : IntKind.i64.wrap (-b) = -b := IntWalk.i64_in _ (by omega)
  go_enter Try.func133, Try.ntmps133
  go_wp2_with fail
  go_loopw [9] (fun i wr => ∃ k : Nat, k ≤ l.length ∧ i = .int .i64 k ∧ (∀ j (hj : j < l.length), j < k → -b ≤ l[j] ∧ l[j] ≤ b) ∧ w = wr) (fun i _ => l.length - (intOf i).toNat)
  case atStart => exact ⟨0, Nat.zero_le _, rfl, fun j _ h => absurd h (Nat.not_lt_zero _), rfl⟩
  case round =>
    obtain ⟨k, hk, rfl, hall, rfl⟩ := hrel
    have HA : Hid _ := hall
    clear hall
    by_cases hlt : k < l.length
    · rcases hH with rfl | ⟨bb, off, rfl, hr⟩
      · simp at hlt
      have y0 := hr k hlt
      have hki : (k : Int) < (l.length : Int) := by omega
      have w2 : IntKind.i64.wrap ((k : Int) + 1) = (k : Int) + 1 := IntWalk.i64_in _ (by omega)
      have HF : Hid (b < l[k] ∨ l[k] < -b → fewB l b = false) := few_none hlt
      have HV : Hid (¬ b < l[k] → ¬ l[k] < -b → ∀ j (hj : j < l.length), j < k + 1 → -b ≤ l[j] ∧ l[j] ≤ b) := fun a c j hj hjk => if e : j = k then by subst e; omega else HA.out j hj (by omega)
      generalize l[k] = V at *
      by_cases h1 : b < V
      · have hf := HF.out (.inl h1)
        clear HF HV HA
        go_wp2
        go_ret
        exact ⟨ret_bool (by first | exact Iff.rfl | rw [hf]), rfl⟩
      · by_cases h2 : V < -b
        · have hf := HF.out (.inr h2)
          clear HF HV HA
          go_wp2
          go_ret
          exact ⟨ret_bool (by first | exact Iff.rfl | rw [hf]), rfl⟩
        · have HN : Hid _ := HV.out h1 h2
          clear HF HV HA
          go_wp2
          go_roundw
          case rel => exact ⟨k + 1, by omega, by go_num, HN.out, by first | trivial | rfl⟩
          case measure => simp [intOf]; omega
    · obtain rfl : k = l.length := by omega
      have hf := few_all fun j hj => HA.out j hj hj
      clear HA
      go_wp2
      go_ret
      exact ⟨ret_bool (by first | exact Iff.rfl | rw [hf]), rfl⟩
def kB (k : Int) : Bool := decide (k = 1 ∨ k = 2 ∨ k = 3)
theorem k_iff {k : Int} : kB k = true ↔ (k = 1 ∨ k = 2 ∨ k = 3) := by simp [kB]
set_option maxHeartbeats 1000000 in
theorem vk_r (k : Int) (w : World) : Calls Try.prog 132 #[.int .i64 k] w fun e w' => e = .returned (.bool (kB k)) ∧ w = w' := by
  by_cases h1 : k = 1
  · subst h1
    go_enter Try.func132, Try.ntmps132
    go_wp2
    go_ret
    exact ⟨rfl, rfl⟩
  · by_cases h2 : k = 2
    · subst h2
      go_enter Try.func132, Try.ntmps132
      go_wp2
      go_ret
      exact ⟨rfl, rfl⟩
    · by_cases h3 : k = 3
      · subst h3
        go_enter Try.func132, Try.ntmps132
        go_wp2
        go_ret
        exact ⟨rfl, rfl⟩
      · go_enter Try.func132, Try.ntmps132
        go_wp2
        all_goals
          go_ret
          exact ⟨ret_bool (by simp [kB, h1, h2, h3]), rfl⟩
theorem fdv_eq {a b : Int} (hb : 0 < b) : (a.tmod b < 0 → a.tdiv b - 1 = a / b) ∧ (¬ a.tmod b < 0 → a.tdiv b = a / b) := by
  have h0 := Int.emod_nonneg a (show b ≠ 0 by omega)
  have h1 := Int.emod_lt_of_pos a hb
  have hs := Int.sign_eq_one_of_pos hb
  rw [Int.tdiv_eq_ediv, Int.tmod_eq_emod, hs]
  split <;> omega
set_option maxHeartbeats 1000000 in
theorem fdv_r (a b : Int) (w : World) (hb : b = 2 ∨ b = 4 ∨ b = 16) (h0 : -4611686018427387904 ≤ a) (h1 : a ≤ 4611686018427387904) :
    Calls Try.prog 162 #[.int .i64 a, .int .i64 b] w fun e w' => e = .returned (.int .i64 (a / b)) ∧ w = w' := by
  have hb0 : 0 < b := by omega
  obtain ⟨e1, e2⟩ := fdv_eq (a := a) hb0
  have hbd : -4611686018427387904 ≤ a / b ∧ a / b ≤ 4611686018427387904 := by rcases hb with rfl | rfl | rfl <;> omega
  obtain ⟨Q, hQ⟩ : ∃ Q, a / b = Q := ⟨_, rfl⟩
  obtain ⟨D, hD⟩ : ∃ D, a.tdiv b = D := ⟨_, rfl⟩
  obtain ⟨T, hT⟩ : ∃ T, a.tmod b = T := ⟨_, rfl⟩
  rw [hQ] at e1 e2 hbd
  rw [hQ]
  rw [hD] at e1 e2
  rw [hT] at e1 e2
  have hbn : ¬ b = 0 := by omega
  clear hb
  by_cases hm : T < 0
  · have e3 := e1 hm
    have w1 : IntKind.i64.wrap (D - 1) = Q := by rw [IntWalk.i64_in _ (by omega)]; exact e3
    have w1' : wrap64 (D - 1) = Q := by rw [IntWalk.wrap64_in _ ⟨by omega, by omega⟩]; exact e3
    have w2 : IntKind.i64.wrap D = D := IntWalk.i64_in _ (by omega)
    clear e1 e2 e3 hQ
    go_enter Try.func162, Try.ntmps162
    go_wp2
    go_ret
    exact ⟨rfl, rfl⟩
  · have e3 := e2 hm
    subst e3
    have w2 : IntKind.i64.wrap D = D := IntWalk.i64_in _ (by omega)
    clear e1 e2 hQ
    go_enter Try.func162, Try.ntmps162
    go_wp2
    go_ret
    exact ⟨rfl, rfl⟩

set_option maxHeartbeats 1000000 in
theorem ex_r (l : List Int) (st i : Int) (s : Option Addr) (m : Nat) (w : World) (h0 : 0 ≤ st) (h1 : st ≤ 4096) (hn : 0 < l.length) (hn' : l.length ≤ 4096) (hi : -100 ≤ i) (hi' : i ≤ 10000) (hH : HoldsI w s l) :
    Calls Try.prog 163 #[.slice s l.length m, .int .i64 st, .int .i64 i] w fun e w' => e = .returned (.int .i64 (Ex.ex st l i)) ∧ w = w' := by
  have w1 : IntKind.i64.wrap (st + (l.length : Int)) = st + (l.length : Int) := IntWalk.i64_in _ (by omega)
  have hm : mirV i st (st + (l.length : Int)) = Ex.mirI i st (st + (l.length : Int)) := if_pos ⟨by omega, vi_iff.2 (by omega), vi_iff.2 (by omega), vi_iff.2 (by omega)⟩
  obtain ⟨m0, m1⟩ := Ex.mir_mem (i := i) (lo := st) (hi := st + (l.length : Int)) (by omega)
  obtain ⟨J, hJ⟩ : ∃ J, Ex.mirI i st (st + (l.length : Int)) = J := ⟨_, rfl⟩
  rw [hJ] at hm m0 m1
  obtain ⟨k, hk⟩ : ∃ k : Nat, J - st = (k : Int) := ⟨(J - st).toNat, by omega⟩
  have hkl : k < l.length := by omega
  have hki : (k : Int) < (l.length : Int) := by omega
  have w2 : IntKind.i64.wrap (J - st) = (k : Int) := by rw [IntWalk.i64_in _ (by omega)]; exact hk
  have hx : Ex.ex st l i = l[k] := by rw [Ex.ex, hJ, show J = st + (k : Int) by omega, Ex.sg_at hkl]
  rcases hH with rfl | ⟨bb, off, rfl, hr⟩
  · simp at hkl
  have y0 := hr k hkl
  rw [hx]
  clear hx hJ hk m0 m1
  go_enter Try.func163, Try.ntmps163
  go_wp2_with (go_at_call 176; refine (mir_r _ _ _ _).mono ?_; rintro e wn ⟨rfl, rfl⟩)
  go_ret
  exact ⟨rfl, rfl⟩
set_option maxRecDepth 100000 in
set_option maxHeartbeats 1000000 in
theorem pred_r (l : List Int) (st i k : Int) (s : Option Addr) (m : Nat) (w : World) (hk : k = 1 ∨ k = 2 ∨ k = 3) (h0 : 0 ≤ st) (h1 : st ≤ 4096) (hn : 0 < l.length) (hn' : l.length ≤ 4096) (hi : 0 ≤ i) (hi' : i ≤ 9000) (hw : Ex.within 4503599627370496 l) (hH : HoldsI w s l) :
    Calls Try.prog 136 #[.slice s l.length m, .int .i64 st, .int .i64 i, .int .i64 k] w fun e w' => e = .returned (.int .i64 (Ex.predF (Ex.ex st l) i k)) ∧ w = w' := by
  have w1 : IntKind.i64.wrap (i - 1) = i - 1 := IntWalk.i64_in _ (by omega)
  have b1 := Ex.ex_bd (s := st) hn hw (i - 1)
  have c1 := ex_r l st (i - 1) s m w h0 h1 hn hn' (by omega) (by omega) hH
  obtain ⟨a1, e1⟩ : ∃ a1, Ex.ex st l (i - 1) = a1 := ⟨_, rfl⟩
  rw [e1] at b1 c1
  have w2 : IntKind.i64.wrap (i + 1) = i + 1 := IntWalk.i64_in _ (by omega)
  have b2 := Ex.ex_bd (s := st) hn hw (i + 1)
  have c2 := ex_r l st (i + 1) s m w h0 h1 hn hn' (by omega) (by omega) hH
  obtain ⟨a2, e2⟩ : ∃ a2, Ex.ex st l (i + 1) = a2 := ⟨_, rfl⟩
  rw [e2] at b2 c2
  have w3 : IntKind.i64.wrap (i - 3) = i - 3 := IntWalk.i64_in _ (by omega)
  have b3 := Ex.ex_bd (s := st) hn hw (i - 3)
  have c3 := ex_r l st (i - 3) s m w h0 h1 hn hn' (by omega) (by omega) hH
  obtain ⟨a3, e3⟩ : ∃ a3, Ex.ex st l (i - 3) = a3 := ⟨_, rfl⟩
  rw [e3] at b3 c3
  have w4 : IntKind.i64.wrap (i + 3) = i + 3 := IntWalk.i64_in _ (by omega)
  have b4 := Ex.ex_bd (s := st) hn hw (i + 3)
  have c4 := ex_r l st (i + 3) s m w h0 h1 hn hn' (by omega) (by omega) hH
  obtain ⟨a4, e4⟩ : ∃ a4, Ex.ex st l (i + 3) = a4 := ⟨_, rfl⟩
  rw [e4] at b4 c4
  rw [Ex.predF, e1, e2, e3, e4]
  clear e1 e2 e3 e4 h0 h1 hn hn' hi hi' hw hH
  rcases hk with rfl | rfl | rfl
  · rw [if_pos rfl]
    go_enter Try.func136, Try.ntmps136
    go_wp2_with (first | (go_at_call 163; with_reducible refine (c1).mono ?_; rintro e wn ⟨rfl, rfl⟩))
    go_ret
    exact ⟨rfl, rfl⟩
  · rw [if_neg (by decide), if_pos rfl]
    have v0 : IntKind.i64.wrap (a1 + a2) = a1 + a2 := IntWalk.i64_in _ (by omega)
    have v0' : wrap64 (a1 + a2) = a1 + a2 := IntWalk.wrap64_in _ ⟨by omega, by omega⟩
    go_enter Try.func136, Try.ntmps136
    go_wp2_with (first | (go_at_call 163; with_reducible refine (c1).mono ?_; rintro e wn ⟨rfl, rfl⟩) | (go_at_call 163; with_reducible refine (c2).mono ?_; rintro e wn ⟨rfl, rfl⟩) | (go_at_call 162; refine (fdv_r _ _ _ (.inl rfl) (by omega) (by omega)).mono ?_; rintro e wn ⟨rfl, rfl⟩))
    go_ret
    exact ⟨rfl, rfl⟩
  · rw [if_neg (by decide), if_neg (by decide)]
    have v0 : IntKind.i64.wrap (a1 + a2) = a1 + a2 := IntWalk.i64_in _ (by omega)
    have v0' : wrap64 (a1 + a2) = a1 + a2 := IntWalk.wrap64_in _ ⟨by omega, by omega⟩
    have v1 : IntKind.i64.wrap (9 * (a1 + a2)) = 9 * (a1 + a2) := IntWalk.i64_in _ (by omega)
    have v1' : wrap64 (9 * (a1 + a2)) = 9 * (a1 + a2) := IntWalk.wrap64_in _ ⟨by omega, by omega⟩
    have v2 : IntKind.i64.wrap (a3 + a4) = a3 + a4 := IntWalk.i64_in _ (by omega)
    have v2' : wrap64 (a3 + a4) = a3 + a4 := IntWalk.wrap64_in _ ⟨by omega, by omega⟩
    have v3 : IntKind.i64.wrap (9 * (a1 + a2) - (a3 + a4)) = 9 * (a1 + a2) - (a3 + a4) := IntWalk.i64_in _ (by omega)
    have v3' : wrap64 (9 * (a1 + a2) - (a3 + a4)) = 9 * (a1 + a2) - (a3 + a4) := IntWalk.wrap64_in _ ⟨by omega, by omega⟩
    have v4 : IntKind.i64.wrap (9 * (a1 + a2) - (a3 + a4) + 8) = 9 * (a1 + a2) - (a3 + a4) + 8 := IntWalk.i64_in _ (by omega)
    have v4' : wrap64 (9 * (a1 + a2) - (a3 + a4) + 8) = 9 * (a1 + a2) - (a3 + a4) + 8 := IntWalk.wrap64_in _ ⟨by omega, by omega⟩
    go_enter Try.func136, Try.ntmps136
    go_wp2_with (first | (go_at_call 163; with_reducible refine (c1).mono ?_; rintro e wn ⟨rfl, rfl⟩) | (go_at_call 163; with_reducible refine (c2).mono ?_; rintro e wn ⟨rfl, rfl⟩) | (go_at_call 163; with_reducible refine (c3).mono ?_; rintro e wn ⟨rfl, rfl⟩) | (go_at_call 163; with_reducible refine (c4).mono ?_; rintro e wn ⟨rfl, rfl⟩) | (go_at_call 162; refine (fdv_r _ _ _ (.inr (.inr rfl)) (by omega) (by omega)).mono ?_; rintro e wn ⟨rfl, rfl⟩))
    go_ret
    exact ⟨rfl, rfl⟩
set_option maxRecDepth 100000 in
set_option maxHeartbeats 1000000 in
theorem upd_r (l : List Int) (st i k : Int) (s : Option Addr) (m : Nat) (w : World) (hk : k = 1 ∨ k = 2 ∨ k = 3) (h0 : 0 ≤ st) (h1 : st ≤ 4096) (hn : 0 < l.length) (hn' : l.length ≤ 4096) (hi : 0 ≤ i) (hi' : i ≤ 9000) (hw : Ex.within 4503599627370496 l) (hH : HoldsI w s l) :
    Calls Try.prog 135 #[.slice s l.length m, .int .i64 st, .int .i64 i, .int .i64 k] w fun e w' => e = .returned (.int .i64 (Ex.updF (Ex.ex st l) i k)) ∧ w = w' := by
  have w1 : IntKind.i64.wrap (i - 1) = i - 1 := IntWalk.i64_in _ (by omega)
  have b1 := Ex.ex_bd (s := st) hn hw (i - 1)
  have c1 := ex_r l st (i - 1) s m w h0 h1 hn hn' (by omega) (by omega) hH
  obtain ⟨a1, e1⟩ : ∃ a1, Ex.ex st l (i - 1) = a1 := ⟨_, rfl⟩
  rw [e1] at b1 c1
  have w2 : IntKind.i64.wrap (i + 1) = i + 1 := IntWalk.i64_in _ (by omega)
  have b2 := Ex.ex_bd (s := st) hn hw (i + 1)
  have c2 := ex_r l st (i + 1) s m w h0 h1 hn hn' (by omega) (by omega) hH
  obtain ⟨a2, e2⟩ : ∃ a2, Ex.ex st l (i + 1) = a2 := ⟨_, rfl⟩
  rw [e2] at b2 c2
  rw [Ex.updF, e1, e2]
  clear e1 e2 h0 h1 hn hn' hi hi' hw hH
  rcases hk with rfl | rfl | rfl
  · rw [if_pos rfl]
    go_enter Try.func135, Try.ntmps135
    go_wp2_with (first | (go_at_call 163; with_reducible refine (c2).mono ?_; rintro e wn ⟨rfl, rfl⟩) | (go_at_call 162; refine (fdv_r _ _ _ (.inl rfl) (by omega) (by omega)).mono ?_; rintro e wn ⟨rfl, rfl⟩))
    go_ret
    exact ⟨rfl, rfl⟩
  · rw [if_neg (by decide)]
    have v0 : IntKind.i64.wrap (a1 + a2) = a1 + a2 := IntWalk.i64_in _ (by omega)
    have v0' : wrap64 (a1 + a2) = a1 + a2 := IntWalk.wrap64_in _ ⟨by omega, by omega⟩
    have v1 : IntKind.i64.wrap (a1 + a2 + 2) = a1 + a2 + 2 := IntWalk.i64_in _ (by omega)
    have v1' : wrap64 (a1 + a2 + 2) = a1 + a2 + 2 := IntWalk.wrap64_in _ ⟨by omega, by omega⟩
    go_enter Try.func135, Try.ntmps135
    go_wp2_with (first | (go_at_call 163; with_reducible refine (c1).mono ?_; rintro e wn ⟨rfl, rfl⟩) | (go_at_call 163; with_reducible refine (c2).mono ?_; rintro e wn ⟨rfl, rfl⟩) | (go_at_call 162; refine (fdv_r _ _ _ (.inr (.inl rfl)) (by omega) (by omega)).mono ?_; rintro e wn ⟨rfl, rfl⟩))
    go_ret
    exact ⟨rfl, rfl⟩
  · rw [if_neg (by decide)]
    have v0 : IntKind.i64.wrap (a1 + a2) = a1 + a2 := IntWalk.i64_in _ (by omega)
    have v0' : wrap64 (a1 + a2) = a1 + a2 := IntWalk.wrap64_in _ ⟨by omega, by omega⟩
    have v1 : IntKind.i64.wrap (a1 + a2 + 2) = a1 + a2 + 2 := IntWalk.i64_in _ (by omega)
    have v1' : wrap64 (a1 + a2 + 2) = a1 + a2 + 2 := IntWalk.wrap64_in _ ⟨by omega, by omega⟩
    go_enter Try.func135, Try.ntmps135
    go_wp2_with (first | (go_at_call 163; with_reducible refine (c1).mono ?_; rintro e wn ⟨rfl, rfl⟩) | (go_at_call 163; with_reducible refine (c2).mono ?_; rintro e wn ⟨rfl, rfl⟩) | (go_at_call 162; refine (fdv_r _ _ _ (.inr (.inl rfl)) (by omega) (by omega)).mono ?_; rintro e wn ⟨rfl, rfl⟩))
    go_ret
    exact ⟨rfl, rfl⟩
end Go.Proofs.Ytoplgnckdmkaoaa

namespace Go.Proofs.Ytoplgnckdmkaoaa
open Go.RowKit

theorem RowP.at {w : World} {g : Nat} {l : List Int} {pad : List Value} (h : RowP w g l pad) {k : Nat} (hk : k < l.length) : w.cell? ⟨g, k, none⟩ = some (.int .i64 l[k]) := by
  have := holdsI_at h.holds hk
  rwa [Nat.zero_add] at this
theorem RowP.free {w : World} {g : Nat} {l : List Int} {pad : List Value} (h : RowP w g l pad) (j : Nat) : w.frozen? ⟨g, j, none⟩ = false := by
  unfold RowP at h
  simp [World.frozen?, h]
theorem RowP.set {w : World} {g : Nat} {l : List Int} {pad : List Value} (h : RowP w g l pad) (k : Nat) (hk : k < l.length) (v : Int) : RowP (w.setCell ⟨g, k, none⟩ (.int .i64 v)) g (l.set k v) pad := by
  unfold RowP at *
  simp only [World.setCell, Array.getElem?_modify, if_true, h, Option.map_some]
  simp [List.map_set, List.set_append_left, hk]
/-- A row of the call's own that is written in place. -/
structure Yr (w W : World) (g : Nat) (y : List Int) : Prop where
  below : Below w.heap.size w W
  row : ∃ pad, RowP W g y pad
  hg : w.heap.size ≤ g
theorem Yr.of {w W : World} {v : Value} {l : List Int} (h : Gl w v l W) (hne : 0 < l.length) : ∃ g m, v = .slice (some ⟨g, 0, none⟩) l.length m ∧ l.length ≤ m ∧ Yr w W g l := by
  obtain ⟨_, (⟨rfl, rfl⟩ | ⟨g, m', pad, rfl, hb, hr, hm⟩)⟩ := rowP_own h.own
  · simp at hne
  · exact ⟨g, m', rfl, hm, h.below, ⟨pad, hr⟩, hb⟩
theorem Yr.at {w W : World} {g : Nat} {y : List Int} (h : Yr w W g y) {k : Nat} (hk : k < y.length) : W.cell? ⟨g, k, none⟩ = some (.int .i64 y[k]) := h.row.elim fun _ r => r.at hk
theorem Yr.free {w W : World} {g : Nat} {y : List Int} (h : Yr w W g y) (j : Nat) : W.frozen? ⟨g, j, none⟩ = false := h.row.elim fun _ r => r.free j
theorem Yr.set {w W : World} {g : Nat} {y : List Int} (h : Yr w W g y) {k : Nat} (hk : k < y.length) (v : Int) : Yr w (W.setCell ⟨g, k, none⟩ (.int .i64 v)) g (y.set k v) :=
  ⟨h.below.setCell h.hg _, h.row.elim fun p r => ⟨p, r.set k hk v⟩, h.hg⟩
theorem Yr.drew {w W : World} {g : Nat} {y : List Int} (h : Yr w W g y) : Yr w W.drew g y := ⟨h.below.drew, h.row, h.hg⟩
theorem Yr.holds {w W : World} {g : Nat} {y : List Int} (h : Yr w W g y) : HoldsI W (some ⟨g, 0, none⟩) y := h.row.elim fun _ r => r.holds
theorem Yr.lt {w W : World} {g : Nat} {y : List Int} (h : Yr w W g y) : g < W.heap.size := h.row.elim fun _ r => r.lt
theorem Yr.step {w W W1 : World} {g : Nat} {y : List Int} (h : Yr w W g y) (hb : Below W.heap.size W W1) : Yr w W1 g y := ⟨below_call h.below hb, h.row.elim fun p r => ⟨p, r.below hb⟩, h.hg⟩
/-- The first of one list, the rest of another. -/
def mixT (A B : List Int) (k : Nat) : List Int := A.take k ++ B.drop k
theorem mix_len {A B : List Int} {k : Nat} (hl : A.length = B.length) : (mixT A B k).length = B.length := by simp [mixT]; omega
theorem mix_zero (A B : List Int) : mixT A B 0 = B := by simp [mixT]
theorem mix_all {A B : List Int} (hl : A.length = B.length) : mixT A B B.length = A := by simp [mixT, ← hl]
theorem mix_at {A B : List Int} {k : Nat} (hl : A.length = B.length) (hk : k < B.length) : (mixT A B k)[k]'(by rw [mix_len hl]; exact hk) = B[k] := by
  have e : (A.take k).length = k := by simp; omega
  simp only [mixT]
  rw [List.getElem_append_right (by omega)]
  simp [e]
theorem mix_next {A B : List Int} {k : Nat} (hl : A.length = B.length) (hk : k < B.length) : (mixT A B k).set k (A[k]'(by omega)) = mixT A B (k + 1) := by
  have e : (A.take k).length = k := by simp; omega
  simp only [mixT]
  rw [List.set_append_right _ _ (by omega), e, Nat.sub_self, List.take_succ_eq_append_getElem (by omega), List.append_assoc]
  congr 1
  rw [List.drop_eq_getElem_cons hk, List.set_cons_zero]
  rfl
theorem mix_same {A B : List Int} {k : Nat} (hl : A.length = B.length) (hk : k < B.length) (h : A[k]'(by omega) = B[k]) : mixT A B k = mixT A B (k + 1) := by
  rw [← mix_next hl hk]
  refine List.ext_getElem (by simp) fun j h1 h2 => ?_
  rw [List.getElem_set]
  split
  · subst_vars
    rw [mix_at hl hk, h]
  · rfl
def fwB (l : List Int) (st : Int) : Bool := decide (0 ≤ st ∧ st ≤ 4096 ∧ l.length ≤ 4096) && fewB l 281474976710656
theorem fw_iff {l : List Int} {st : Int} : fwB l st = true ↔ (0 ≤ st ∧ st ≤ 4096 ∧ l.length ≤ 4096) ∧ Ex.within 281474976710656 l := by simp [fwB, few_iff]
set_option maxHeartbeats 1000000 in
theorem fwd_no1 (l : List Int) (st kn : Int) (s : Option Addr) (m : Nat) (w : World) (hk : kB kn = false) : Calls Try.prog 141 #[.slice s l.length m, .int .i64 st, .int .i64 kn] w (GivesSplit [] [] 3 w) := by
  go_enter Try.func141, Try.ntmps141
  go_wp2_with (go_at_call 132; refine (vk_r _ _).mono ?_; rintro e wn ⟨rfl, rfl⟩)
  go_ret3
  exact ⟨none, 0, none, 0, rfl, .inl rfl, .inl rfl, Below.refl _ _, ⟨Nat.le_refl _, fun _ => rfl, fresh_none _⟩, ⟨Nat.le_refl _, fun _ => rfl, fresh_none _⟩⟩
set_option maxHeartbeats 1000000 in
theorem fwd_no2 (l : List Int) (st kn : Int) (s : Option Addr) (m : Nat) (w : World) (hk : kB kn = true) (hh : fwB l st = false) (hl : l.length ≤ 140737488351232) (hH : HoldsI w s l) : Calls Try.prog 141 #[.slice s l.length m, .int .i64 st, .int .i64 kn] w (GivesSplit [] [] 2 w) := by
  by_cases h1 : st < 0
  · go_enter Try.func141, Try.ntmps141
    go_wp2_with (go_at_call 132; refine (vk_r _ _).mono ?_; rintro e wn ⟨rfl, rfl⟩)
    go_ret3
    exact ⟨none, 0, none, 0, rfl, .inl rfl, .inl rfl, Below.refl _ _, ⟨Nat.le_refl _, fun _ => rfl, fresh_none _⟩, ⟨Nat.le_refl _, fun _ => rfl, fresh_none _⟩⟩
  · by_cases h2 : 4096 < st
    · go_enter Try.func141, Try.ntmps141
      go_wp2_with (go_at_call 132; refine (vk_r _ _).mono ?_; rintro e wn ⟨rfl, rfl⟩)
      go_ret3
      exact ⟨none, 0, none, 0, rfl, .inl rfl, .inl rfl, Below.refl _ _, ⟨Nat.le_refl _, fun _ => rfl, fresh_none _⟩, ⟨Nat.le_refl _, fun _ => rfl, fresh_none _⟩⟩
    · by_cases h3 : (4096 : Int) < (l.length : Int)
      · go_enter Try.func141, Try.ntmps141
        go_wp2_with (go_at_call 132; refine (vk_r _ _).mono ?_; rintro e wn ⟨rfl, rfl⟩)
        go_ret3
        exact ⟨none, 0, none, 0, rfl, .inl rfl, .inl rfl, Below.refl _ _, ⟨Nat.le_refl _, fun _ => rfl, fresh_none _⟩, ⟨Nat.le_refl _, fun _ => rfl, fresh_none _⟩⟩
      · have h4 : fewB l 281474976710656 = false := by
          cases hf : fewB l 281474976710656 with
          | false => rfl
          | true => rw [fwB, hf, Bool.and_true, decide_eq_false_iff_not] at hh; exact absurd ⟨by omega, by omega, by omega⟩ hh
        go_enter Try.func141, Try.ntmps141
        go_wp2_with (first | (go_at_call 132; refine (vk_r _ _).mono ?_; rintro e wn ⟨rfl, rfl⟩) | (go_at_call 133; refine (few_r _ _ _ _ _ (by decide) (by decide) hl hH).mono ?_; rintro e wn ⟨rfl, rfl⟩))
        go_ret3
        exact ⟨none, 0, none, 0, rfl, .inl rfl, .inl rfl, Below.refl _ _, ⟨Nat.le_refl _, fun _ => rfl, fresh_none _⟩, ⟨Nat.le_refl _, fun _ => rfl, fresh_none _⟩⟩
theorem within_mono {b c : Int} {x : List Int} (h : Ex.within b x) (hbc : b ≤ c) : Ex.within c x := fun v hv => by have := h v hv; omega
theorem within_at {s b : Int} {x : List Int} (h : ∀ i, s ≤ i → i < s + x.length → -b ≤ Ex.sg s x i ∧ Ex.sg s x i ≤ b) : Ex.within b x := fun v hv => by
  obtain ⟨j, hj, rfl⟩ := List.getElem_of_mem hv
  rw [← Ex.sg_at (s := s) hj]
  exact h _ (by omega) (by omega)
theorem hb_bd {k : Int} (hk : k = 1 ∨ k = 2 ∨ k = 3) {b : Int} (hb : 0 ≤ b) : b ≤ Ex.hbI b k ∧ Ex.hbI b k ≤ 3 * b + 1 ∧ b ≤ Ex.lbI b k ∧ Ex.lbI b k ≤ 4 * b + 2 := by
  unfold Ex.lbI Ex.hbI
  rcases hk with rfl | rfl | rfl <;> simp only [Int.reduceEq, ↓reduceIte] <;> omega
/-- What the first step leaves at a place. -/
theorem st1_get {st kn : Int} {l : List Int} {k : Nat} (hk : k < l.length) : ((st + (k : Int)) % 2 = 0 → (Ex.step1 st l kn)[k]'(by rw [Ex.step1_len]; exact hk) = l[k]) ∧ ((st + (k : Int)) % 2 ≠ 0 → (Ex.step1 st l kn)[k]'(by rw [Ex.step1_len]; exact hk) = l[k] - Ex.predF (Ex.ex st l) (st + k) kn) := by
  have e : (Ex.step1 st l kn)[k]'(by rw [Ex.step1_len]; exact hk) = Ex.step1F st l kn (st + k) := Ex.tb_at (by rw [Ex.tb_len]; exact hk)
  rw [e, Ex.step1F, Ex.sg_at hk]
  exact ⟨fun h => if_pos h, fun h => if_neg h⟩
theorem st2_get {st kn : Int} {l : List Int} {k : Nat} (hk : k < l.length) : ((st + (k : Int)) % 2 = 0 → (Ex.step2 st l kn)[k]'(by rw [Ex.step2_len]; exact hk) = l[k] + Ex.updF (Ex.ex st l) (st + k) kn) ∧ ((st + (k : Int)) % 2 ≠ 0 → (Ex.step2 st l kn)[k]'(by rw [Ex.step2_len]; exact hk) = l[k]) := by
  have e : (Ex.step2 st l kn)[k]'(by rw [Ex.step2_len]; exact hk) = Ex.step2F st l kn (st + k) := Ex.tb_at (by rw [Ex.tb_len]; exact hk)
  rw [e, Ex.step2F, Ex.sg_at hk]
  exact ⟨fun h => if_pos h, fun h => if_neg h⟩
theorem fwd_within {st kn : Int} {l : List Int} (hk : kn = 1 ∨ kn = 2 ∨ kn = 3) (hw : Ex.within 281474976710656 l) (hn : 1 < l.length) : Ex.within 1125899906842624 (Ex.step1 st l kn) ∧ Ex.within 1125899906842626 (Ex.step2 st (Ex.step1 st l kn) kn) := by
  obtain ⟨b1, b2, b3, b4⟩ := hb_bd hk (show (0 : Int) ≤ 281474976710656 by decide)
  refine ⟨within_at (s := st) fun i h0 h1 => ?_, within_at (s := st) fun i h0 h1 => ?_⟩
  · rw [Ex.step1_len] at h1
    obtain ⟨e1, e2⟩ := Ex.step1_bd hk hw h0 h1
    by_cases hp : i % 2 = 0
    · have := e1 hp; omega
    · have := e2 hp; omega
  · rw [Ex.step2_len, Ex.step1_len] at h1
    obtain ⟨e1, e2⟩ := Ex.fwd_bd hk (by decide) hw h0 h1
    rw [Ex.fwdL, if_pos hn] at e1 e2
    by_cases hp : i % 2 = 0
    · have := e1 hp; omega
    · have := e2 hp; omega
theorem split_n (l : List Int) (n : Nat) (hn : n = l.length) (st : Int) (s : Option Addr) (m : Nat) (w : World) (hh : spB st l.length = true) (hH : HoldsI w s l) :
    Calls Try.prog 166 #[.slice s n m, .int .i64 st] w (GivesSplit (Ex.splitE st l) (Ex.splitO st l) 0 w) := by
  subst hn
  exact split_yes l st s m w hh hH
set_option maxRecDepth 100000 in
set_option maxHeartbeats 2000000 in
theorem fwd_yes (l : List Int) (st kn : Int) (s : Option Addr) (m : Nat) (w : World) (hk : kB kn = true) (hh : fwB l st = true) (hs : s = none → l.length = 0 ∧ m = 0) (hH : HoldsI w s l) : Calls Try.prog 141 #[.slice s l.length m, .int .i64 st, .int .i64 kn] w (GivesSplit (Ex.splitE st (Ex.fwdL st l kn)) (Ex.splitO st (Ex.fwdL st l kn)) 0 w) := by
  obtain ⟨⟨h1, h2, h3⟩, hw⟩ := fw_iff.1 hh
  obtain ⟨i0, hi, hz0, hz1, hz2⟩ := info_parts infoI
  have hkk := k_iff.1 hk
  have n1 : ¬ st < 0 := by omega
  have n2 : ¬ 4096 < st := by omega
  have n3 : ¬ (4096 : Int) < (l.length : Int) := by omega
  have hfew := few_iff.2 hw
  by_cases hn : 1 < l.length
  · rcases hH with rfl | ⟨bb, off, rfl, hr⟩
    · simp at hn
    have hH : HoldsI w (some ⟨bb, off, none⟩) l := .inr ⟨bb, off, rfl, hr⟩
    have hni : (1 : Int) < (l.length : Int) := by omega
    have HNw : Hid _ := holdsI_list (hH.alloc (.cells #[] 3))
    go_enter Try.func141, Try.ntmps141
    go_wp2_with (first | (go_at_call 132; refine (vk_r _ _).mono ?_; rintro e wn ⟨rfl, rfl⟩) | (go_at_call 133; refine (few_r _ _ _ _ _ (by decide) (by decide) (by omega) hH).mono ?_; rintro e wn ⟨rfl, rfl⟩) | (at_builtin; refine wpList_append_own _ rfl _ _ 24 rfl w.heap.size 3 i0 (.int .i64 0) 1 8 Try.underlying24 hi hz0 hz1 hz2 rfl (by decide) _ 0 [] rfl (World.ownsRow_made w #[] 0 (Nat.le_refl _) (by decide) (by simp)) ⟨bb, off, none⟩ _ m (l.map (Value.int .i64)) rfl (by simp) HNw.out (oneI _) (by unfold maxLen; omega) (by omega) (by simp) ?_))
    intro v' w0 hown hgrow _
    have GB : Gl w v' l w0 := ⟨(below_alloc (Below.refl _ w) _).grown hgrow (below_alloc (Below.refl _ w) _).size (fun k hk => by simp [Value.ownBlock] at hk; omega), by simpa using hown⟩
    obtain ⟨g, mg, rfl, hmg, Y0⟩ := Yr.of GB (by omega)
    clear hown hgrow GB n1 n2 n3 HNw
    go_wp2_with fail
    obtain ⟨hwY, hwZ⟩ := fwd_within (st := st) hkk hw hn
    have lY : (Ex.step1 st l kn).length = l.length := Ex.step1_len _ _ _
    have lZ : (Ex.step2 st (Ex.step1 st l kn) kn).length = (Ex.step1 st l kn).length := Ex.step2_len _ _ _
    go_loopw [40] (fun i wr => ∃ k : Nat, k ≤ l.length ∧ i = .int .i64 k ∧ Yr w wr g (mixT (Ex.step1 st l kn) l k)) (fun i _ => l.length - (intOf i).toNat)
    case atStart => exact ⟨0, Nat.zero_le _, rfl, by rw [mix_zero]; exact Y0⟩
    case round =>
      obtain ⟨k, hk2, rfl, hY⟩ := hrel
      clear Y0
      by_cases hlt : k < l.length
      · have hki : (k : Int) < (l.length : Int) := by omega
        have w1 : IntKind.i64.wrap (st + (k : Int)) = st + (k : Int) := IntWalk.i64_in _ (by omega)
        have w2 : IntKind.i64.wrap ((k : Int) + 1) = (k : Int) + 1 := IntWalk.i64_in _ (by omega)
        obtain ⟨g1, g2⟩ := st1_get (st := st) (kn := kn) hlt
        have hltY : k < (Ex.step1 st l kn).length := by omega
        by_cases hp : (st + (k : Int)) % 2 = 0
        · have t1 : (st + (k : Int)).tmod 2 = 0 := by rw [Int.tmod_eq_emod_of_nonneg (by omega)]; exact hp
          have HY : Hid (Yr w wr g (mixT (Ex.step1 st l kn) l (k + 1))) := by rw [← mix_same lY hlt (g1 hp)]; exact hY
          clear g1 g2 hY
          go_wp2
          go_roundw
          case rel => exact ⟨k + 1, by omega, by go_num, HY.out⟩
          case measure => simp [intOf]; omega
        · have t1 : (st + (k : Int)).tmod 2 = 1 := by rw [Int.tmod_eq_emod_of_nonneg (by omega)]; omega
          have gx := g2 hp
          have y0 := hY.at (k := k) (by rw [mix_len lY]; exact hlt)
          rw [mix_at lY hlt] at y0
          have z1 := hY.free k
          have hset := hY.drew.set (k := k) (by rw [mix_len lY]; exact hlt) ((Ex.step1 st l kn)[k]'hltY)
          rw [mix_next lY hlt] at hset
          have cP := pred_r l st (st + (k : Int)) kn (some ⟨bb, off, none⟩) m wr.drew hkk h1 h2 (by omega) h3 (by omega) (by omega) (within_mono hw (by decide)) (hH.below hY.below.drew (Nat.le_refl _))
          have hS := hwY _ (List.getElem_mem hltY)
          generalize Ex.predF (Ex.ex st l) (st + (k : Int)) kn = P at *
          generalize (Ex.step1 st l kn)[k]'hltY = S at *
          generalize l[k] = X at *
          have w3 : IntKind.i64.wrap (X - P) = S := by rw [IntWalk.i64_in _ (by omega)]; exact gx.symm
          have HY : Hid _ := hset
          clear g1 g2 gx hset hS hY
          go_wp2_with fail
          go_region_law (first | (go_simp; go_at_call 136; (with_reducible refine cP.mono ?_); rintro e wn ⟨rfl, rfl⟩; go_wp2_with fail))
          all_goals
            go_wp2
            go_roundw
            case rel => exact ⟨k + 1, by omega, by go_num, HY.out⟩
            case measure => simp [intOf]; omega
      · obtain rfl : k = l.length := by omega
        rw [mix_all lY] at hY
        obtain ⟨Y, hYe⟩ : ∃ Y, Y = Ex.step1 st l kn := ⟨_, rfl⟩
        have HE : Hid _ := hYe
        rw [← hYe] at hY lY lZ hwY hwZ
        clear hYe
        have HNz : Hid _ := holdsI_list (hY.holds.alloc (.cells #[] 3))
        have hYlt := hY.lt
        have hYs := hY.below.size
        go_wp2_with (first | (at_builtin; refine wpList_append_own _ rfl _ _ 24 rfl wr.heap.size 3 i0 (.int .i64 0) 1 8 Try.underlying24 hi hz0 hz1 hz2 rfl (by decide) _ 0 [] rfl (World.ownsRow_made wr #[] 0 (Nat.le_refl _) (by decide) (by simp)) ⟨g, 0, none⟩ l.length mg (Y.map (Value.int .i64)) rfl (by rw [List.length_map, lY, Nat.mul_one]) HNz.out (oneI _) (by unfold maxLen; omega) (by omega) (by simp) ?_))
        intro v'' w2 hown hgrow _
        have GZ : Gl wr v'' Y w2 := ⟨(below_alloc (Below.refl _ wr) _).grown hgrow (below_alloc (Below.refl _ wr) _).size (fun k hk => by simp [Value.ownBlock] at hk; omega), by rw [lY]; first | exact hown | simpa using hown⟩
        obtain ⟨gz, mz, hvz, hmz, Z0⟩ := Yr.of GZ (by omega)
        rw [lY] at hvz
        subst hvz
        have hgz : g < gz := by have := Z0.hg; omega
        obtain ⟨padz, hrz⟩ := Z0.row
        have Y1 := hY.step GZ.below
        clear hown hgrow GZ HNz hY Z0 hYlt hYs
        go_wp2_with fail
        go_loopw [67] (fun i wr => ∃ k : Nat, k ≤ l.length ∧ i = .int .i64 k ∧ Yr w wr g (mixT (Ex.step2 st Y kn) Y k) ∧ RowP wr gz Y padz) (fun i _ => l.length - (intOf i).toNat)
        case atStart => exact ⟨0, Nat.zero_le _, rfl, by rw [mix_zero]; exact Y1, hrz⟩
        case round =>
          obtain ⟨k, hk3, rfl, hY, hZ⟩ := hrel
          clear Y1 hrz
          by_cases hlt : k < l.length
          · have hki : (k : Int) < (l.length : Int) := by omega
            have w1 : IntKind.i64.wrap (st + (k : Int)) = st + (k : Int) := IntWalk.i64_in _ (by omega)
            have w2 : IntKind.i64.wrap ((k : Int) + 1) = (k : Int) + 1 := IntWalk.i64_in _ (by omega)
            have hltY : k < Y.length := by omega
            obtain ⟨g1, g2⟩ := st2_get (st := st) (kn := kn) hltY
            have hltZ : k < (Ex.step2 st Y kn).length := by omega
            by_cases hp : (st + (k : Int)) % 2 = 0
            · have t1 : (st + (k : Int)).tmod 2 = 0 := by rw [Int.tmod_eq_emod_of_nonneg (by omega)]; exact hp
              have gx := g1 hp
              have y0 := hY.at (k := k) (by rw [mix_len lZ]; exact hltY)
              rw [mix_at lZ hltY] at y0
              have z1 := hY.free k
              have hset := hY.drew.set (k := k) (by rw [mix_len lZ]; exact hltY) ((Ex.step2 st Y kn)[k]'hltZ)
              rw [mix_next lZ hltY] at hset
              have hsz := hZ.far ⟨g, k, none⟩ (.int .i64 ((Ex.step2 st Y kn)[k]'hltZ)) (show gz ≠ g by omega)
              have cP := upd_r Y st (st + (k : Int)) kn (some ⟨gz, 0, none⟩) mz wr.drew hkk h1 h2 (by omega) (by omega) (by omega) (by omega) (within_mono hwY (by decide)) hZ.holds
              rw [lY] at cP
              have hS := hwZ _ (List.getElem_mem hltZ)
              generalize Ex.updF (Ex.ex st Y) (st + (k : Int)) kn = P at *
              generalize (Ex.step2 st Y kn)[k]'hltZ = S at *
              generalize Y[k]'hltY = X at *
              have w3 : IntKind.i64.wrap (X + P) = S := by rw [IntWalk.i64_in _ (by omega)]; exact gx.symm
              have HY : Hid _ := hset
              have HZ : Hid _ := hsz
              clear g1 g2 gx hset hS hY hsz hZ
              go_wp2_with fail
              go_region_law (first | (go_simp; go_at_call 135; (with_reducible refine cP.mono ?_); rintro e wn ⟨rfl, rfl⟩; go_wp2_with fail))
              all_goals
                go_wp2
                go_roundw
                case rel => first | exact ⟨k + 1, by omega, by go_num, HY.out, HZ.out⟩ | ((repeat apply Exists.intro); exact ⟨⟨k + 1, by omega, by go_num, HY.out, HZ.out⟩, rfl⟩)
                case measure => simp [intOf]; omega
            · have t1 : (st + (k : Int)).tmod 2 = 1 := by rw [Int.tmod_eq_emod_of_nonneg (by omega)]; omega
              have HY : Hid (Yr w wr g (mixT (Ex.step2 st Y kn) Y (k + 1))) := by rw [← mix_same lZ hltY (g2 hp)]; exact hY
              have HZ : Hid _ := hZ
              clear g1 g2 hY hZ
              go_wp2
              go_roundw
              case rel => exact ⟨k + 1, by omega, by go_num, HY.out, HZ.out⟩
              case measure => simp [intOf]; omega
          · obtain rfl : k = l.length := by omega
            rw [← lY, mix_all lZ] at hY
            have hfin : Ex.fwdL st l kn = Ex.step2 st Y kn := by rw [HE.out, Ex.fwdL, if_pos hn]
            generalize Ex.step2 st Y kn = Z at *
            have HFin : Hid _ := hfin
            clear hfin
            have hsp := split_n Z l.length (by omega) st (some ⟨g, 0, none⟩) mg wr (sp_iff.2 ⟨h1, h2, by omega⟩) hY.holds
            have HB : Hid _ := hY.below
            clear hY hZ
            go_wp2_with fail
            refine hsp.mono ?_
            rintro e w5 ⟨s1, m1, s2, m2, rfl, a1, a2, hb, b1, b2⟩
            have HA1 : Hid _ := a1
            have HA2 : Hid _ := a2
            have HBB : Hid _ := below_call HB.out hb
            clear a1 a2 hb
            go_wp2
            go_ret3
            rw [HFin.out]
            exact ⟨s1, m1, s2, m2, rfl, HA1.out, HA2.out, HBB.out, fresh_up HB.out b1, fresh_up HB.out b2⟩
  · have hfin : Ex.fwdL st l kn = l := by rw [Ex.fwdL, if_neg hn]
    have HFin : Hid _ := hfin
    have hni : ¬ (1 : Int) < (l.length : Int) := by omega
    clear hfin
    cases s with
    | some p =>
      have HNw : Hid _ := holdsI_list (hH.alloc (.cells #[] 3))
      go_enter Try.func141, Try.ntmps141
      go_wp2_with (first | (go_at_call 132; refine (vk_r _ _).mono ?_; rintro e wn ⟨rfl, rfl⟩) | (go_at_call 133; refine (few_r _ _ _ _ _ (by decide) (by decide) (by omega) hH).mono ?_; rintro e wn ⟨rfl, rfl⟩) | (at_builtin; refine wpList_append_own _ rfl _ _ 24 rfl w.heap.size 3 i0 (.int .i64 0) 1 8 Try.underlying24 hi hz0 hz1 hz2 rfl (by decide) _ 0 [] rfl (World.ownsRow_made w #[] 0 (Nat.le_refl _) (by decide) (by simp)) p _ m (l.map (Value.int .i64)) rfl (by simp) HNw.out (oneI _) (by unfold maxLen; omega) (by omega) (by simp) ?_))
      intro v' w0 hown hgrow _
      have GB : Gl w v' l w0 := ⟨(below_alloc (Below.refl _ w) _).grown hgrow (below_alloc (Below.refl _ w) _).size (fun k hk => by simp [Value.ownBlock] at hk; omega), by simpa using hown⟩
      obtain ⟨sb, mb, rfl, lb, _⟩ := GB.holds
      have HB : Hid _ := GB.below
      have hsp := split_yes l st sb mb w0 (sp_iff.2 ⟨h1, h2, h3⟩) lb
      clear hown hgrow GB
      go_wp2_with fail
      refine hsp.mono ?_
      rintro e w5 ⟨s1, m1, s2, m2, rfl, a1, a2, hb, b1, b2⟩
      have HA1 : Hid _ := a1
      have HA2 : Hid _ := a2
      have HBB : Hid _ := below_call HB.out hb
      clear a1 a2 hb
      go_wp2
      go_ret3
      rw [HFin.out]
      exact ⟨s1, m1, s2, m2, rfl, HA1.out, HA2.out, HBB.out, fresh_up HB.out b1, fresh_up HB.out b2⟩
    | none =>
      obtain ⟨h0, h00⟩ := hs rfl
      obtain rfl := List.length_eq_zero_iff.1 h0
      subst h00
      have hsp := split_yes [] st (some ⟨w.heap.size, 0, none⟩) 0 (w.alloc (.cells #[] 3)) (sp_iff.2 ⟨h1, h2, h3⟩) (.inl rfl)
      go_enter Try.func141, Try.ntmps141
      go_wp2_with (first | (go_at_call 132; refine (vk_r _ _).mono ?_; rintro e wn ⟨rfl, rfl⟩) | (go_at_call 133; refine (few_r [] _ _ _ _ (by decide) (by decide) (by decide) (.inl rfl)).mono ?_; rintro e wn ⟨rfl, rfl⟩) | (at_builtin; refine wpList_append_own_none rfl _ _ 24 rfl w.heap.size 3 i0 1 Try.underlying24 hi _ 0 [] rfl (World.ownsRow_made w #[] 0 (Nat.le_refl _) (by decide) (by simp)) rfl ?_))
      go_wp2_with fail
      refine hsp.mono ?_
      rintro e w5 ⟨s1, m1, s2, m2, rfl, a1, a2, hb, b1, b2⟩
      have HA1 : Hid _ := a1
      have HA2 : Hid _ := a2
      have HBB : Hid _ := below_call (below_alloc (Below.refl _ w) _) hb
      clear a1 a2 hb
      go_wp2
      go_ret3
      rw [HFin.out]
      exact ⟨s1, m1, s2, m2, rfl, HA1.out, HA2.out, HBB.out, fresh_up (below_alloc (Below.refl _ w) _) b1, fresh_up (below_alloc (Below.refl _ w) _) b2⟩
end Go.Proofs.Ytoplgnckdmkaoaa

namespace Go.Proofs.Ytoplgnckdmkaoaa
open Go.RowKit

theorem un2_get {st kn : Int} {l : List Int} {k : Nat} (hk : k < l.length) : ((st + (k : Int)) % 2 = 0 → (Ex.unst2 st l kn)[k]'(by rw [Ex.unst2_len]; exact hk) = l[k] - Ex.updF (Ex.ex st l) (st + k) kn) ∧ ((st + (k : Int)) % 2 ≠ 0 → (Ex.unst2 st l kn)[k]'(by rw [Ex.unst2_len]; exact hk) = l[k]) := by
  have e : (Ex.unst2 st l kn)[k]'(by rw [Ex.unst2_len]; exact hk) = Ex.unst2F st l kn (st + k) := Ex.tb_at (by rw [Ex.tb_len]; exact hk)
  rw [e, Ex.unst2F, Ex.sg_at hk]
  exact ⟨fun h => if_pos h, fun h => if_neg h⟩
theorem un1_get {st kn : Int} {l : List Int} {k : Nat} (hk : k < l.length) : ((st + (k : Int)) % 2 = 0 → (Ex.unst1 st l kn)[k]'(by rw [Ex.unst1_len]; exact hk) = l[k]) ∧ ((st + (k : Int)) % 2 ≠ 0 → (Ex.unst1 st l kn)[k]'(by rw [Ex.unst1_len]; exact hk) = l[k] + Ex.predF (Ex.ex st l) (st + k) kn) := by
  have e : (Ex.unst1 st l kn)[k]'(by rw [Ex.unst1_len]; exact hk) = Ex.unst1F st l kn (st + k) := Ex.tb_at (by rw [Ex.tb_len]; exact hk)
  rw [e, Ex.unst1F, Ex.sg_at hk]
  exact ⟨fun h => if_pos h, fun h => if_neg h⟩
theorem un2_within {st kn b : Int} {l : List Int} (hk : kn = 1 ∨ kn = 2 ∨ kn = 3) (hw : Ex.within b l) : Ex.within (2 * b + 1) (Ex.unst2 st l kn) := by
  refine within_at (s := st) fun i h0 h1 => ?_
  rw [Ex.unst2_len] at h1
  have hx := hw _ (Ex.sg_mem (s := st) h0 h1)
  have g1 := Ex.ex_bd (s := st) (show 0 < l.length by omega) hw (i - 1)
  have g2 := Ex.ex_bd (s := st) (show 0 < l.length by omega) hw (i + 1)
  rw [Ex.unst2, Ex.sg_tb h0 h1, Ex.unst2F, Ex.updF]
  rcases hk with rfl | rfl | rfl <;> simp only [Int.reduceEq, ↓reduceIte] <;> split <;> omega
theorem un1_within {st kn b : Int} {l : List Int} (hk : kn = 1 ∨ kn = 2 ∨ kn = 3) (hw : Ex.within b l) : Ex.within (3 * b + 1) (Ex.unst1 st l kn) := by
  refine within_at (s := st) fun i h0 h1 => ?_
  rw [Ex.unst1_len] at h1
  have hx := hw _ (Ex.sg_mem (s := st) h0 h1)
  have g1 := Ex.ex_bd (s := st) (show 0 < l.length by omega) hw (i - 1)
  have g2 := Ex.ex_bd (s := st) (show 0 < l.length by omega) hw (i + 1)
  have g3 := Ex.ex_bd (s := st) (show 0 < l.length by omega) hw (i - 3)
  have g4 := Ex.ex_bd (s := st) (show 0 < l.length by omega) hw (i + 3)
  rw [Ex.unst1, Ex.sg_tb h0 h1, Ex.unst1F, Ex.predF]
  rcases hk with rfl | rfl | rfl <;> simp only [Int.reduceEq, ↓reduceIte] <;> split <;> omega
theorem joinL_within {st b : Int} {e o : List Int} (hb : 0 ≤ b) (h1 : Ex.within b e) (h2 : Ex.within b o) : Ex.within b (Ex.joinL st e o) := by
  intro v hv
  obtain ⟨j, hj, rfl⟩ := List.getElem_of_mem hv
  rw [join_at hj]
  have key : ∀ (l : List Int) (n : Nat), Ex.within b l → -b ≤ l.getD n 0 ∧ l.getD n 0 ≤ b := fun l n h => by
    by_cases hn : n < l.length
    · rw [List.getD_eq_getElem?_getD, List.getElem?_eq_getElem hn, Option.getD_some]; exact h _ (List.getElem_mem hn)
    · rw [List.getD_eq_getElem?_getD, List.getElem?_eq_none (by omega), Option.getD_none]; omega
  split
  · exact key _ _ h1
  · exact key _ _ h2
set_option maxHeartbeats 1000000 in
theorem inv_no1 (e o : List Int) (st kn : Int) (s t : Option Addr) (m m' : Nat) (w : World) (hk : kB kn = false) : Calls Try.prog 74 #[.slice s e.length m, .slice t o.length m', .int .i64 st, .int .i64 kn] w (GivesE [] 3 w) := by
  go_enter Try.func74, Try.ntmps74
  go_wp2_with (go_at_call 132; refine (vk_r _ _).mono ?_; rintro e wn ⟨rfl, rfl⟩)
  go_ret2
  exact ⟨none, 0, rfl, .inl rfl, Below.refl _ _, ⟨Nat.le_refl _, fun _ => rfl, fresh_none _⟩⟩
set_option maxHeartbeats 1000000 in
theorem inv_no2 (e o : List Int) (st kn : Int) (s t : Option Addr) (m m' : Nat) (w : World) (hk : kB kn = true) (hh : jnB st e.length o.length = false) (he : e.length ≤ 4611686018427387904) (ho : o.length ≤ 4611686018427387904) : Calls Try.prog 74 #[.slice s e.length m, .slice t o.length m', .int .i64 st, .int .i64 kn] w (GivesE [] 2 w) := by
  have hh' : ¬ (0 ≤ st ∧ st ≤ 4096 ∧ e.length + o.length ≤ 4096) := fun h => by rw [jn_iff.2 h] at hh; exact absurd hh (by decide)
  by_cases h1 : st < 0
  · go_enter Try.func74, Try.ntmps74
    go_wp2_with (go_at_call 132; refine (vk_r _ _).mono ?_; rintro e wn ⟨rfl, rfl⟩)
    go_ret2
    exact ⟨none, 0, rfl, .inl rfl, Below.refl _ _, ⟨Nat.le_refl _, fun _ => rfl, fresh_none _⟩⟩
  · by_cases h2 : 4096 < st
    · go_enter Try.func74, Try.ntmps74
      go_wp2_with (go_at_call 132; refine (vk_r _ _).mono ?_; rintro e wn ⟨rfl, rfl⟩)
      go_ret2
      exact ⟨none, 0, rfl, .inl rfl, Below.refl _ _, ⟨Nat.le_refl _, fun _ => rfl, fresh_none _⟩⟩
    · by_cases h3 : (4096 : Int) < (e.length : Int)
      · go_enter Try.func74, Try.ntmps74
        go_wp2_with (go_at_call 132; refine (vk_r _ _).mono ?_; rintro e wn ⟨rfl, rfl⟩)
        go_ret2
        exact ⟨none, 0, rfl, .inl rfl, Below.refl _ _, ⟨Nat.le_refl _, fun _ => rfl, fresh_none _⟩⟩
      · by_cases h4 : (4096 : Int) < (o.length : Int)
        · go_enter Try.func74, Try.ntmps74
          go_wp2_with (go_at_call 132; refine (vk_r _ _).mono ?_; rintro e wn ⟨rfl, rfl⟩)
          go_ret2
          exact ⟨none, 0, rfl, .inl rfl, Below.refl _ _, ⟨Nat.le_refl _, fun _ => rfl, fresh_none _⟩⟩
        · have w1 : IntKind.i64.wrap ((e.length : Int) + (o.length : Int)) = (e.length : Int) + (o.length : Int) := IntWalk.i64_in _ (by omega)
          have h5 : (4096 : Int) < (e.length : Int) + (o.length : Int) := by omega
          go_enter Try.func74, Try.ntmps74
          go_wp2_with (go_at_call 132; refine (vk_r _ _).mono ?_; rintro e wn ⟨rfl, rfl⟩)
          go_ret2
          exact ⟨none, 0, rfl, .inl rfl, Below.refl _ _, ⟨Nat.le_refl _, fun _ => rfl, fresh_none _⟩⟩
set_option maxHeartbeats 1000000 in
theorem inv_no3 (e o : List Int) (st kn : Int) (s t : Option Addr) (m m' : Nat) (w : World) (hk : kB kn = true) (hh : jnB st e.length o.length = true) (hf : (fewB e 1125899906842624 && fewB o 1125899906842624) = false) (hE : HoldsI w s e) (hO : HoldsI w t o) : Calls Try.prog 74 #[.slice s e.length m, .slice t o.length m', .int .i64 st, .int .i64 kn] w (GivesE [] 2 w) := by
  obtain ⟨h1, h2, h3⟩ := jn_iff.1 hh
  have n1 : ¬ st < 0 := by omega
  have n2 : ¬ 4096 < st := by omega
  have n3 : ¬ (4096 : Int) < (e.length : Int) := by omega
  have n4 : ¬ (4096 : Int) < (o.length : Int) := by omega
  have w1 : IntKind.i64.wrap ((e.length : Int) + (o.length : Int)) = (e.length : Int) + (o.length : Int) := IntWalk.i64_in _ (by omega)
  have n5 : ¬ (4096 : Int) < (e.length : Int) + (o.length : Int) := by omega
  cases hf1 : fewB e 1125899906842624 with
  | false =>
    go_enter Try.func74, Try.ntmps74
    go_wp2_with (first | (go_at_call 132; refine (vk_r _ _).mono ?_; rintro e wn ⟨rfl, rfl⟩) | (go_at_call 133; with_reducible refine (few_r e _ _ _ _ (by decide) (by decide) (by omega) hE).mono ?_; rintro e wn ⟨rfl, rfl⟩) | (go_at_call 133; with_reducible refine (few_r o _ _ _ _ (by decide) (by decide) (by omega) hO).mono ?_; rintro e wn ⟨rfl, rfl⟩))
    go_ret2
    exact ⟨none, 0, rfl, .inl rfl, Below.refl _ _, ⟨Nat.le_refl _, fun _ => rfl, fresh_none _⟩⟩
  | true =>
    have hf2 : fewB o 1125899906842624 = false := by rw [hf1, Bool.true_and] at hf; exact hf
    go_enter Try.func74, Try.ntmps74
    go_wp2_with (first | (go_at_call 132; refine (vk_r _ _).mono ?_; rintro e wn ⟨rfl, rfl⟩) | (go_at_call 133; with_reducible refine (few_r e _ _ _ _ (by decide) (by decide) (by omega) hE).mono ?_; rintro e wn ⟨rfl, rfl⟩) | (go_at_call 133; with_reducible refine (few_r o _ _ _ _ (by decide) (by decide) (by omega) hO).mono ?_; rintro e wn ⟨rfl, rfl⟩))
    go_ret2
    exact ⟨none, 0, rfl, .inl rfl, Below.refl _ _, ⟨Nat.le_refl _, fun _ => rfl, fresh_none _⟩⟩
set_option maxRecDepth 100000 in
set_option maxHeartbeats 4000000 in
theorem inv_no4 (e o : List Int) (st kn : Int) (s t : Option Addr) (m m' : Nat) (w : World) (hk : kB kn = true) (hh : jnB st e.length o.length = true) (hf1 : fewB e 1125899906842624 = true) (hf2 : fewB o 1125899906842624 = true) (hc : jcB st e.length o.length = false) (hE : HoldsI w s e) (hO : HoldsI w t o) : Calls Try.prog 74 #[.slice s e.length m, .slice t o.length m', .int .i64 st, .int .i64 kn] w (GivesE [] 4 w) := by
  obtain ⟨h1, h2, h3⟩ := jn_iff.1 hh
  have n1 : ¬ st < 0 := by omega
  have n2 : ¬ 4096 < st := by omega
  have n3 : ¬ (4096 : Int) < (e.length : Int) := by omega
  have n4 : ¬ (4096 : Int) < (o.length : Int) := by omega
  have w1 : IntKind.i64.wrap ((e.length : Int) + (o.length : Int)) = (e.length : Int) + (o.length : Int) := IntWalk.i64_in _ (by omega)
  have n5 : ¬ (4096 : Int) < (e.length : Int) + (o.length : Int) := by omega
  go_enter Try.func74, Try.ntmps74
  go_wp2_with (first | (go_at_call 132; refine (vk_r _ _).mono ?_; rintro e wn ⟨rfl, rfl⟩) | (go_at_call 133; with_reducible refine (few_r e _ _ _ _ (by decide) (by decide) (by omega) hE).mono ?_; rintro e wn ⟨rfl, rfl⟩) | (go_at_call 133; with_reducible refine (few_r o _ _ _ _ (by decide) (by decide) (by omega) hO).mono ?_; rintro e wn ⟨rfl, rfl⟩) | (go_at_call 134; refine (join_no2 e o st s t m m' w hh hc).mono ?_; rintro e wj ⟨sj, mj, rfl, aj, bj, cj⟩))
  go_ret2
  exact ⟨sj, mj, rfl, aj, bj, cj⟩
set_option maxRecDepth 100000 in
set_option maxHeartbeats 4000000 in
theorem inv_yes (e o : List Int) (st kn : Int) (s t : Option Addr) (m m' : Nat) (w : World) (hk : kB kn = true) (hh : jnB st e.length o.length = true) (hf1 : fewB e 1125899906842624 = true) (hf2 : fewB o 1125899906842624 = true) (hc : jcB st e.length o.length = true) (hE : HoldsI w s e) (hO : HoldsI w t o) : Calls Try.prog 74 #[.slice s e.length m, .slice t o.length m', .int .i64 st, .int .i64 kn] w (GivesE (Ex.invL st (Ex.joinL st e o) kn) 0 w) := by
  obtain ⟨h1, h2, h3⟩ := jn_iff.1 hh
  have n1 : ¬ st < 0 := by omega
  have n2 : ¬ 4096 < st := by omega
  have n3 : ¬ (4096 : Int) < (e.length : Int) := by omega
  have n4 : ¬ (4096 : Int) < (o.length : Int) := by omega
  have w1 : IntKind.i64.wrap ((e.length : Int) + (o.length : Int)) = (e.length : Int) + (o.length : Int) := IntWalk.i64_in _ (by omega)
  have n5 : ¬ (4096 : Int) < (e.length : Int) + (o.length : Int) := by omega
  obtain ⟨i0, hi, hz0, hz1, hz2⟩ := info_parts infoI
  have hkk := k_iff.1 hk
  have hwl := joinL_within (st := st) (show (0 : Int) ≤ 1125899906842624 by decide) (few_iff.1 hf1) (few_iff.1 hf2)
  have hll : (Ex.joinL st e o).length ≤ 4096 := by rw [Ex.joinL_len]; exact h3
  have cJ := fun W (a : HoldsI W s e) (b : HoldsI W t o) => join_own e o st s t m m' W hh hc a b
  have cJ1 := cJ w hE hO
  clear cJ
  generalize Ex.joinL st e o = l at *
  by_cases hn : 1 < l.length
  · have hni : ¬ (l.length : Int) < 2 := by omega
    have lU : (Ex.unst2 st l kn).length = l.length := Ex.unst2_len _ _ _
    have hwU := un2_within (st := st) (kn := kn) hkk hwl
    have hwV := un1_within (st := st) (kn := kn) hkk hwU
    go_enter Try.func74, Try.ntmps74
    go_wp2_with (first | (go_at_call 132; refine (vk_r _ _).mono ?_; rintro e wn ⟨rfl, rfl⟩) | (go_at_call 133; with_reducible refine (few_r e _ _ _ _ (by decide) (by decide) (by omega) hE).mono ?_; rintro e wn ⟨rfl, rfl⟩) | (go_at_call 133; with_reducible refine (few_r o _ _ _ _ (by decide) (by decide) (by omega) hO).mono ?_; rintro e wn ⟨rfl, rfl⟩) | (go_at_call 134; refine cJ1.mono ?_; rintro e wj ⟨vj, rfl, GJ⟩; clear cJ1; obtain ⟨g, mg, rfl, hmg, Y0⟩ := Yr.of GJ (by omega); have HNz : Hid _ := holdsI_list (Y0.holds.alloc (.cells #[] 3))) | (at_builtin; refine wpList_append_own _ rfl _ _ 24 rfl wj.heap.size 3 i0 (.int .i64 0) 1 8 Try.underlying24 hi hz0 hz1 hz2 rfl (by decide) _ 0 [] rfl (World.ownsRow_made wj #[] 0 (Nat.le_refl _) (by decide) (by simp)) ⟨g, 0, none⟩ l.length mg (l.map (Value.int .i64)) rfl (by simp) HNz.out (oneI _) (by unfold maxLen; omega) (by omega) (by simp) ?_))
    intro v'' w2 hown hgrow _
    have GZ : Gl wj v'' l w2 := ⟨(below_alloc (Below.refl _ wj) _).grown hgrow (below_alloc (Below.refl _ wj) _).size (fun k hk => by simp [Value.ownBlock] at hk; omega), by simpa using hown⟩
    obtain ⟨gz, mz, rfl, hmz, Z0⟩ := Yr.of GZ (by omega)
    have hgz : g < gz := by have := Z0.hg; have := Y0.lt; omega
    obtain ⟨padz, hrz⟩ := Z0.row
    have Y1 := Y0.step GZ.below
    clear hown hgrow GZ HNz Y0 Z0 GJ
    go_wp2_with fail
    go_loopw [71] (fun i wr => ∃ k : Nat, k ≤ l.length ∧ i = .int .i64 k ∧ Yr w wr g (mixT (Ex.unst2 st l kn) l k) ∧ RowP wr gz l padz) (fun i _ => l.length - (intOf i).toNat)
    case atStart => exact ⟨0, Nat.zero_le _, rfl, by rw [mix_zero]; exact Y1, hrz⟩
    case round =>
      obtain ⟨k, hk3, rfl, hY, hZ⟩ := hrel
      clear Y1 hrz
      by_cases hlt : k < l.length
      · have hki : (k : Int) < (l.length : Int) := by omega
        have w1 : IntKind.i64.wrap (st + (k : Int)) = st + (k : Int) := IntWalk.i64_in _ (by omega)
        have w2 : IntKind.i64.wrap ((k : Int) + 1) = (k : Int) + 1 := IntWalk.i64_in _ (by omega)
        have hltY : k < l.length := by omega
        obtain ⟨g1, g2⟩ := un2_get (st := st) (kn := kn) hltY
        have hltZ : k < (Ex.unst2 st l kn).length := by omega
        by_cases hp : (st + (k : Int)) % 2 = 0
        · have t1 : (st + (k : Int)).tmod 2 = 0 := by rw [Int.tmod_eq_emod_of_nonneg (by omega)]; exact hp
          have gx := g1 hp
          have y0 := hY.at (k := k) (by rw [mix_len lU]; exact hltY)
          rw [mix_at lU hltY] at y0
          have z1 := hY.free k
          have hset := hY.drew.set (k := k) (by rw [mix_len lU]; exact hltY) ((Ex.unst2 st l kn)[k]'hltZ)
          rw [mix_next lU hltY] at hset
          have hsz := hZ.far ⟨g, k, none⟩ (.int .i64 ((Ex.unst2 st l kn)[k]'hltZ)) (show gz ≠ g by omega)
          have cP := upd_r l st (st + (k : Int)) kn (some ⟨gz, 0, none⟩) mz wr.drew hkk h1 h2 (by omega) (by omega) (by omega) (by omega) (within_mono hwl (by decide)) hZ.holds
          have hS := hwU _ (List.getElem_mem hltZ)
          generalize Ex.updF (Ex.ex st l) (st + (k : Int)) kn = P at *
          generalize (Ex.unst2 st l kn)[k]'hltZ = S at *
          generalize l[k]'hltY = X at *
          have w3 : IntKind.i64.wrap (X - P) = S := by rw [IntWalk.i64_in _ (by omega)]; exact gx.symm
          have HY : Hid _ := hset
          have HZ : Hid _ := hsz
          clear g1 g2 gx hset hS hY hsz hZ
          go_wp2_with fail
          go_region_law (first | (go_simp; go_at_call 135; (with_reducible refine cP.mono ?_); rintro e wn ⟨rfl, rfl⟩; go_wp2_with fail))
          all_goals
            go_wp2
            go_roundw
            case rel => first | exact ⟨k + 1, by omega, by go_num, HY.out, HZ.out⟩ | ((repeat apply Exists.intro); exact ⟨⟨k + 1, by omega, by go_num, HY.out, HZ.out⟩, rfl⟩)
            case measure => simp [intOf]; omega
        · have t1 : (st + (k : Int)).tmod 2 = 1 := by rw [Int.tmod_eq_emod_of_nonneg (by omega)]; omega
          have HY : Hid (Yr w wr g (mixT (Ex.unst2 st l kn) l (k + 1))) := by rw [← mix_same lU hltY (g2 hp)]; exact hY
          have HZ : Hid _ := hZ
          clear g1 g2 hY hZ
          go_wp2
          go_roundw
          case rel => exact ⟨k + 1, by omega, by go_num, HY.out, HZ.out⟩
          case measure => simp [intOf]; omega
      · obtain rfl : k = l.length := by omega
        rw [mix_all lU] at hY
        obtain ⟨Y, hYe⟩ : ∃ Y, Y = Ex.unst2 st l kn := ⟨_, rfl⟩
        have HE : Hid _ := hYe
        rw [← hYe] at hY lU hwU hwV
        clear hYe
        have lY := lU
        have lZ : (Ex.unst1 st Y kn).length = Y.length := Ex.unst1_len _ _ _
        have hwZ := hwV
        have HNz : Hid _ := holdsI_list (hY.holds.alloc (.cells #[] 3))
        have hYlt := hY.lt
        go_wp2_with (first | (at_builtin; refine wpList_append_own _ rfl _ _ 24 rfl wr.heap.size 3 i0 (.int .i64 0) 1 8 Try.underlying24 hi hz0 hz1 hz2 rfl (by decide) _ 0 [] rfl (World.ownsRow_made wr #[] 0 (Nat.le_refl _) (by decide) (by simp)) ⟨g, 0, none⟩ l.length mg (Y.map (Value.int .i64)) rfl (by rw [List.length_map, lY, Nat.mul_one]) HNz.out (oneI _) (by unfold maxLen; omega) (by omega) (by simp) ?_))
        intro v'' w2 hown hgrow _
        have GZ : Gl wr v'' Y w2 := ⟨(below_alloc (Below.refl _ wr) _).grown hgrow (below_alloc (Below.refl _ wr) _).size (fun k hk => by simp [Value.ownBlock] at hk; omega), by rw [lY]; first | exact hown | simpa using hown⟩
        obtain ⟨gx, mx, hvx, hmx, X0⟩ := Yr.of GZ (by omega)
        rw [lY] at hvx
        subst hvx
        have hgx : g < gx := by have := X0.hg; omega
        obtain ⟨padx, hrx⟩ := X0.row
        have Y2 := hY.step GZ.below
        clear hown hgrow GZ HNz hY X0 hYlt hZ
        go_wp2_with fail
        go_loopw [98] (fun i wr => ∃ k : Nat, k ≤ l.length ∧ i = .int .i64 k ∧ Yr w wr g (mixT (Ex.unst1 st Y kn) Y k) ∧ RowP wr gx Y padx) (fun i _ => l.length - (intOf i).toNat)
        case atStart => exact ⟨0, Nat.zero_le _, rfl, by rw [mix_zero]; exact Y2, hrx⟩
        case round =>
          obtain ⟨k, hk3, rfl, hY, hZ⟩ := hrel
          clear Y2 hrx
          by_cases hlt : k < l.length
          · have hki : (k : Int) < (l.length : Int) := by omega
            have w1 : IntKind.i64.wrap (st + (k : Int)) = st + (k : Int) := IntWalk.i64_in _ (by omega)
            have w2 : IntKind.i64.wrap ((k : Int) + 1) = (k : Int) + 1 := IntWalk.i64_in _ (by omega)
            have hltY : k < Y.length := by omega
            obtain ⟨g1, g2⟩ := un1_get (st := st) (kn := kn) hltY
            have hltZ : k < (Ex.unst1 st Y kn).length := by omega
            by_cases hp : (st + (k : Int)) % 2 ≠ 0
            · have t1 : (st + (k : Int)).tmod 2 = 1 := by rw [Int.tmod_eq_emod_of_nonneg (by omega)]; omega
              have gq := g2 hp
              have y0 := hY.at (k := k) (by rw [mix_len lZ]; exact hltY)
              rw [mix_at lZ hltY] at y0
              have z1 := hY.free k
              have hset := hY.drew.set (k := k) (by rw [mix_len lZ]; exact hltY) ((Ex.unst1 st Y kn)[k]'hltZ)
              rw [mix_next lZ hltY] at hset
              have hsz := hZ.far ⟨g, k, none⟩ (.int .i64 ((Ex.unst1 st Y kn)[k]'hltZ)) (show gx ≠ g by omega)
              have cP := pred_r Y st (st + (k : Int)) kn (some ⟨gx, 0, none⟩) mx wr.drew hkk h1 h2 (by omega) (by omega) (by omega) (by omega) (within_mono hwU (by decide)) hZ.holds
              rw [lY] at cP
              have hS := hwZ _ (List.getElem_mem hltZ)
              generalize Ex.predF (Ex.ex st Y) (st + (k : Int)) kn = P at *
              generalize (Ex.unst1 st Y kn)[k]'hltZ = S at *
              generalize Y[k]'hltY = X at *
              have w3 : IntKind.i64.wrap (X + P) = S := by rw [IntWalk.i64_in _ (by omega)]; exact gq.symm
              have HY : Hid _ := hset
              have HZ : Hid _ := hsz
              clear g1 g2 gq hset hS hY hsz hZ
              go_wp2_with fail
              go_region_law (first | (go_simp; go_at_call 136; (with_reducible refine cP.mono ?_); rintro e wn ⟨rfl, rfl⟩; go_wp2_with fail))
              all_goals
                go_wp2
                go_roundw
                case rel => first | exact ⟨k + 1, by omega, by go_num, HY.out, HZ.out⟩ | ((repeat apply Exists.intro); exact ⟨⟨k + 1, by omega, by go_num, HY.out, HZ.out⟩, rfl⟩)
                case measure => simp [intOf]; omega
            · have t1 : (st + (k : Int)).tmod 2 = 0 := by rw [Int.tmod_eq_emod_of_nonneg (by omega)]; omega
              have HY : Hid (Yr w wr g (mixT (Ex.unst1 st Y kn) Y (k + 1))) := by rw [← mix_same lZ hltY (g1 (Classical.not_not.1 hp))]; exact hY
              have HZ : Hid _ := hZ
              clear g1 g2 hY hZ
              go_wp2
              go_roundw
              case rel => exact ⟨k + 1, by omega, by go_num, HY.out, HZ.out⟩
              case measure => simp [intOf]; omega
          · obtain rfl : k = l.length := by omega
            rw [← lY, mix_all lZ] at hY
            have hfin : Ex.invL st l kn = Ex.unst1 st Y kn := by rw [HE.out, Ex.invL, if_pos hn]
            generalize Ex.unst1 st Y kn = Z at *
            have HFin : Hid _ := hfin
            have HY : Hid _ := hY
            have hZl : Z.length = l.length := by omega
            have HZl : Hid _ := hZl
            clear hfin hY hZ hZl lZ hwZ hwV
            go_wp2
            go_ret2
            rw [HFin.out]
            exact ⟨some ⟨g, 0, none⟩, mg, by rw [HZl.out]; rfl, HY.out.holds, HY.out.below, by rw [HZl.out]; exact hmg, fun h => by simp at h, fresh_some HY.out.hg⟩
  · have hni : (l.length : Int) < 2 := by omega
    have hfin : Ex.invL st l kn = l := by rw [Ex.invL, if_neg hn]
    have HFin : Hid _ := hfin
    clear hfin
    go_enter Try.func74, Try.ntmps74
    go_wp2_with (first | (go_at_call 132; refine (vk_r _ _).mono ?_; rintro e wn ⟨rfl, rfl⟩) | (go_at_call 133; with_reducible refine (few_r e _ _ _ _ (by decide) (by decide) (by omega) hE).mono ?_; rintro e wn ⟨rfl, rfl⟩) | (go_at_call 133; with_reducible refine (few_r o _ _ _ _ (by decide) (by decide) (by omega) hO).mono ?_; rintro e wn ⟨rfl, rfl⟩) | (go_at_call 134; refine cJ1.mono ?_; rintro e wj ⟨vj, rfl, GJ⟩; clear cJ1; obtain ⟨sj, mj, rfl, lj, hmj⟩ := GJ.holds; have HJ : Hid _ := lj; clear lj))
    go_ret2
    rw [HFin.out]
    exact ⟨sj, mj, rfl, HJ.out, GJ.below, hmj⟩
set_option maxHeartbeats 1000000 in
def mgI (k : Int) : Int := if k = 1 ∨ k = 2 then 2 else if k = 3 then 4 else 0
set_option maxHeartbeats 1000000 in
theorem mg_r (k : Int) (w : World) : Calls Try.prog 94 #[.int .i64 k] w fun e w' => e = .returned (.int .i64 (mgI k)) ∧ w = w' := by
  by_cases k1 : k = 1
  · subst k1
    go_enter Try.func94, Try.ntmps94
    go_wp2_with fail
    go_ret
    exact ⟨ret_int (by simp [mgI]), rfl⟩
  · by_cases k2 : k = 2
    · subst k2
      go_enter Try.func94, Try.ntmps94
      go_wp2_with fail
      go_ret
      exact ⟨ret_int (by simp [mgI]), rfl⟩
    · by_cases k3 : k = 3
      · subst k3
        go_enter Try.func94, Try.ntmps94
        go_wp2_with fail
        go_ret
        exact ⟨ret_int (by simp [mgI]), rfl⟩
      · go_enter Try.func94, Try.ntmps94
        go_wp2_with fail
        go_ret
        exact ⟨ret_int (by simp [mgI, k1, k2, k3]), rfl⟩
def hbV (b k : Int) : Int := if 0 ≤ b ∧ b ≤ 281474976710656 ∧ kB k = true then Ex.hbI b k else 0
set_option maxRecDepth 100000 in
set_option maxHeartbeats 4000000 in
theorem hb_r (b k : Int) (w : World) : Calls Try.prog 100 #[.int .i64 b, .int .i64 k] w fun e w' => e = .returned (.int .i64 (hbV b k)) ∧ w = w' := by
  by_cases h1 : b < 0
  · have e0 : hbV b k = 0 := if_neg (by omega)
    rw [e0]
    clear e0
    go_enter Try.func100, Try.ntmps100
    go_wp2_with (go_at_call 132; refine (vk_r _ _).mono ?_; rintro e wn ⟨rfl, rfl⟩)
    go_ret
    exact ⟨rfl, rfl⟩
  · by_cases h2 : 281474976710656 < b
    · have e0 : hbV b k = 0 := if_neg (by omega)
      rw [e0]
      clear e0
      go_enter Try.func100, Try.ntmps100
      go_wp2_with (go_at_call 132; refine (vk_r _ _).mono ?_; rintro e wn ⟨rfl, rfl⟩)
      go_ret
      exact ⟨rfl, rfl⟩
    · cases hk : kB k with
      | false =>
        have e0 : hbV b k = 0 := if_neg (by rw [hk]; simp)
        rw [e0]
        clear e0
        go_enter Try.func100, Try.ntmps100
        go_wp2_with (go_at_call 132; refine (vk_r _ _).mono ?_; rintro e wn ⟨rfl, rfl⟩)
        go_ret
        exact ⟨rfl, rfl⟩
      | true =>
        have e0 : hbV b k = Ex.hbI b k := if_pos ⟨by omega, by omega, hk⟩
        rw [e0]
        clear e0
        have hk1 := k_iff.1 hk
        have v0 : IntKind.i64.wrap (20 * b) = 20 * b := IntWalk.i64_in _ (by omega)
        have v0' : wrap64 (20 * b) = 20 * b := IntWalk.wrap64_in _ ⟨by omega, by omega⟩
        have v1 : IntKind.i64.wrap (20 * b + 8) = 20 * b + 8 := IntWalk.i64_in _ (by omega)
        have v1' : wrap64 (20 * b + 8) = 20 * b + 8 := IntWalk.wrap64_in _ ⟨by omega, by omega⟩
        have v2 : IntKind.i64.wrap (2 * b) = 2 * b := IntWalk.i64_in _ (by omega)
        have v2' : wrap64 (2 * b) = 2 * b := IntWalk.wrap64_in _ ⟨by omega, by omega⟩
        have v3 : IntKind.i64.wrap (b + (20 * b + 8) / 16) = b + (20 * b + 8) / 16 := IntWalk.i64_in _ (by omega)
        have v3' : wrap64 (b + (20 * b + 8) / 16) = b + (20 * b + 8) / 16 := IntWalk.wrap64_in _ ⟨by omega, by omega⟩
        have v4 : IntKind.i64.wrap ((20 * b + 8) / 16) = (20 * b + 8) / 16 := IntWalk.i64_in _ (by omega)
        have v4' : wrap64 ((20 * b + 8) / 16) = (20 * b + 8) / 16 := IntWalk.wrap64_in _ ⟨by omega, by omega⟩
        have t1 : (20 * b + 8).tdiv 16 = (20 * b + 8) / 16 := Int.tdiv_eq_ediv_of_nonneg (by omega)
        rcases hk1 with rfl | rfl | rfl
        · rw [show Ex.hbI b 1 = 2 * b from rfl]
          go_enter Try.func100, Try.ntmps100
          go_wp2_with (go_at_call 132; refine (vk_r _ _).mono ?_; rintro e wn ⟨rfl, rfl⟩)
          go_ret
          exact ⟨rfl, rfl⟩
        · rw [show Ex.hbI b 2 = 2 * b from rfl]
          go_enter Try.func100, Try.ntmps100
          go_wp2_with (go_at_call 132; refine (vk_r _ _).mono ?_; rintro e wn ⟨rfl, rfl⟩)
          go_ret
          exact ⟨rfl, rfl⟩
        · rw [show Ex.hbI b 3 = b + (20 * b + 8) / 16 from rfl]
          go_enter Try.func100, Try.ntmps100
          go_wp2_with (go_at_call 132; refine (vk_r _ _).mono ?_; rintro e wn ⟨rfl, rfl⟩)
          go_ret
          exact ⟨rfl, rfl⟩
def lbV (b k : Int) : Int := if 0 ≤ b ∧ b ≤ 281474976710656 ∧ kB k = true then Ex.lbI b k else 0
set_option maxRecDepth 100000 in
set_option maxHeartbeats 4000000 in
theorem lb_r (b k : Int) (w : World) : Calls Try.prog 99 #[.int .i64 b, .int .i64 k] w fun e w' => e = .returned (.int .i64 (lbV b k)) ∧ w = w' := by
  by_cases h1 : b < 0
  · have e0 : lbV b k = 0 := if_neg (by omega)
    rw [e0]
    clear e0
    go_enter Try.func99, Try.ntmps99
    go_wp2_with (first | (go_at_call 132; refine (vk_r _ _).mono ?_; rintro e wn ⟨rfl, rfl⟩) | (go_at_call 100; refine (hb_r _ _ _).mono ?_; rintro e wn ⟨rfl, rfl⟩))
    go_ret
    exact ⟨rfl, rfl⟩
  · by_cases h2 : 281474976710656 < b
    · have e0 : lbV b k = 0 := if_neg (by omega)
      rw [e0]
      clear e0
      go_enter Try.func99, Try.ntmps99
      go_wp2_with (first | (go_at_call 132; refine (vk_r _ _).mono ?_; rintro e wn ⟨rfl, rfl⟩) | (go_at_call 100; refine (hb_r _ _ _).mono ?_; rintro e wn ⟨rfl, rfl⟩))
      go_ret
      exact ⟨rfl, rfl⟩
    · cases hk : kB k with
      | false =>
        have e0 : lbV b k = 0 := if_neg (by rw [hk]; simp)
        rw [e0]
        clear e0
        go_enter Try.func99, Try.ntmps99
        go_wp2_with (first | (go_at_call 132; refine (vk_r _ _).mono ?_; rintro e wn ⟨rfl, rfl⟩) | (go_at_call 100; refine (hb_r _ _ _).mono ?_; rintro e wn ⟨rfl, rfl⟩))
        go_ret
        exact ⟨rfl, rfl⟩
      | true =>
        have e0 : lbV b k = Ex.lbI b k := if_pos ⟨by omega, by omega, hk⟩
        rw [e0]
        clear e0
        have hk1 := k_iff.1 hk
        have hH : hbV b k = Ex.hbI b k := if_pos ⟨by omega, by omega, hk⟩
        obtain ⟨b1, b2, b3, b4⟩ := hb_bd hk1 (show 0 ≤ b by omega)
        have hl : Ex.lbI b k = if k = 1 then 2 * b else b + (2 * Ex.hbI b k + 2) / 4 := rfl
        rw [hl]
        generalize Ex.hbI b k = H at *
        clear hl b3 b4
        have v0 : IntKind.i64.wrap (2 * b) = 2 * b := IntWalk.i64_in _ (by omega)
        have v0' : wrap64 (2 * b) = 2 * b := IntWalk.wrap64_in _ ⟨by omega, by omega⟩
        have v1 : IntKind.i64.wrap (2 * H) = 2 * H := IntWalk.i64_in _ (by omega)
        have v1' : wrap64 (2 * H) = 2 * H := IntWalk.wrap64_in _ ⟨by omega, by omega⟩
        have v2 : IntKind.i64.wrap (2 * H + 2) = 2 * H + 2 := IntWalk.i64_in _ (by omega)
        have v2' : wrap64 (2 * H + 2) = 2 * H + 2 := IntWalk.wrap64_in _ ⟨by omega, by omega⟩
        have v3 : IntKind.i64.wrap (b + (2 * H + 2) / 4) = b + (2 * H + 2) / 4 := IntWalk.i64_in _ (by omega)
        have v3' : wrap64 (b + (2 * H + 2) / 4) = b + (2 * H + 2) / 4 := IntWalk.wrap64_in _ ⟨by omega, by omega⟩
        have v4 : IntKind.i64.wrap ((2 * H + 2) / 4) = (2 * H + 2) / 4 := IntWalk.i64_in _ (by omega)
        have v4' : wrap64 ((2 * H + 2) / 4) = (2 * H + 2) / 4 := IntWalk.wrap64_in _ ⟨by omega, by omega⟩
        have t1 : (2 * H + 2).tdiv 4 = (2 * H + 2) / 4 := Int.tdiv_eq_ediv_of_nonneg (by omega)
        rcases hk1 with rfl | rfl | rfl
        · rw [if_pos rfl]
          go_enter Try.func99, Try.ntmps99
          go_wp2_with (first | (go_at_call 132; refine (vk_r _ _).mono ?_; rintro e wn ⟨rfl, rfl⟩) | (go_at_call 100; refine (hb_r _ _ _).mono ?_; rintro e wn ⟨rfl, rfl⟩))
          go_ret
          exact ⟨rfl, rfl⟩
        · rw [if_neg (by decide)]
          go_enter Try.func99, Try.ntmps99
          go_wp2_with (first | (go_at_call 132; refine (vk_r _ _).mono ?_; rintro e wn ⟨rfl, rfl⟩) | (go_at_call 100; refine (hb_r _ _ _).mono ?_; rintro e wn ⟨rfl, rfl⟩))
          go_ret
          exact ⟨rfl, rfl⟩
        · rw [if_neg (by decide)]
          go_enter Try.func99, Try.ntmps99
          go_wp2_with (first | (go_at_call 132; refine (vk_r _ _).mono ?_; rintro e wn ⟨rfl, rfl⟩) | (go_at_call 100; refine (hb_r _ _ _).mono ?_; rintro e wn ⟨rfl, rfl⟩))
          go_ret
          exact ⟨rfl, rfl⟩
end Go.Proofs.Ytoplgnckdmkaoaa
