/-
  Layer 21: the plain mathematics of steps: their order, that there is one sorted list of them, the insertion. No program in sight.
-/
import Derived.Test.YtkohdiajpdlkjaaHn
set_option maxRecDepth 100000
namespace Go.Proofs.Ytkohdiajpdlkjaa
open Go.RowKit

/-- A step: its curve, the point to which it leads, its fall, its rise. -/
structure Stp where
  c : Nat
  p : Nat
  d : Int
  r : Int
instance : Inhabited Stp := ⟨⟨0, 0, 1, 0⟩⟩
def okS (s : Stp) : Prop := 0 < s.d ∧ okD s.d ∧ okR s.r ∧ s.c < 65536
def ltS (s t : Stp) : Prop := t.d * s.r < s.d * t.r ∨ (t.d * s.r = s.d * t.r ∧ s.c < t.c)
instance (s t : Stp) : Decidable (ltS s t) := by unfold ltS; infer_instance
theorem ltS_irrefl (s : Stp) : ¬ ltS s s := by unfold ltS; omega
theorem crs3 {a x b y c z : Int} (ha : 0 < a) (hb : 0 < b) (hc : 0 < c) (h1 : b * x ≤ a * y) (h2 : c * y ≤ b * z) : c * x ≤ a * z ∧ (b * x < a * y ∨ c * y < b * z → c * x < a * z) := by
  have e1 : c * (b * x) ≤ c * (a * y) := Int.mul_le_mul_of_nonneg_left h1 (by omega)
  have e2 : a * (c * y) ≤ a * (b * z) := Int.mul_le_mul_of_nonneg_left h2 (by omega)
  have i1 : c * (b * x) = b * (c * x) := Int.mul_left_comm c b x
  have i2 : c * (a * y) = a * (c * y) := Int.mul_left_comm c a y
  have i3 : a * (b * z) = b * (a * z) := Int.mul_left_comm a b z
  constructor
  · exact Int.le_of_mul_le_mul_left (a := b) (by omega) hb
  · intro h
    refine Int.lt_of_mul_lt_mul_left (a := b) ?_ (by omega)
    rcases h with h | h
    · have := Int.mul_lt_mul_of_pos_left h hc
      omega
    · have := Int.mul_lt_mul_of_pos_left h ha
      omega
theorem ltS_trans {s t u : Stp} (hs : okS s) (ht : okS t) (hu : okS u) (h1 : ltS s t) (h2 : ltS t u) : ltS s u := by
  unfold ltS at *
  have k := crs3 (x := s.r) (y := t.r) (z := u.r) hs.1 ht.1 hu.1 (by omega) (by omega)
  rcases h1 with h1 | ⟨h1, c1⟩
  · exact .inl (k.2 (.inl h1))
  · rcases h2 with h2 | ⟨h2, c2⟩
    · exact .inl (k.2 (.inr h2))
    · have k2 := crs3 (x := u.r) (y := t.r) (z := s.r) hu.1 ht.1 hs.1 (by omega) (by omega)
      right
      have := k.1
      have := k2.1
      omega
theorem ltS_asymm {s t : Stp} (h1 : ltS s t) (h2 : ltS t s) : False := by unfold ltS at *; omega
theorem not_ltS_trans {s t u : Stp} (hs : okS s) (ht : okS t) (hu : okS u) (h1 : ¬ ltS s t) (h2 : ¬ ltS t u) : ¬ ltS s u := by
  unfold ltS at *
  have k := crs3 (x := u.r) (y := t.r) (z := s.r) hu.1 ht.1 hs.1 (by omega) (by omega)
  intro h
  have k1 := k.1
  have k2 := k.2
  rcases h with h | ⟨h, hc⟩
  · omega
  · by_cases q : u.d * t.r < t.d * u.r
    · omega
    · by_cases q2 : t.d * u.r < u.d * t.r
      · have := k2 (.inl (by omega)); omega
      · by_cases q3 : s.d * t.r < t.d * s.r
        · omega
        · by_cases q4 : t.d * s.r < s.d * t.r
          · have := k2 (.inr (by omega)); omega
          · omega

/-- There is one sorted list. -/
theorem uniqS : ∀ (l m : List Stp), l.Pairwise ltS → m.Pairwise ltS → l.Perm m → l = m
  | [], m, _, _, h => by rw [List.nil_perm.1 h]
  | a :: l, [], _, _, h => by have := h.length_eq; simp at this
  | a :: l, b :: m, h1, h2, h => by
    rw [List.pairwise_cons] at h1 h2
    have hab : a = b := by
      have ha : a ∈ b :: m := h.subset (by simp)
      have hb : b ∈ a :: l := h.symm.subset (by simp)
      rcases List.mem_cons.1 ha with e | ha
      · exact e
      · rcases List.mem_cons.1 hb with e | hb
        · exact e.symm
        · exact (ltS_asymm (h1.1 b hb) (h2.1 a ha)).elim
    subst hab
    rw [uniqS l m h1.2 h2.2 (List.Perm.cons_inv h)]

/-- The place at which a step is put. -/
def atF (s : Stp) (l : List Stp) : Nat → Nat
  | 0 => 0
  | k + 1 => if (l.getD k default).d * s.r < s.d * (l.getD k default).r then atF s l k else k + 1
def insS (s : Stp) (l : List Stp) : List Stp := l.take (atF s l l.length) ++ s :: l.drop (atF s l l.length)
theorem atF_le (s : Stp) (l : List Stp) (k : Nat) : atF s l k ≤ k := by
  induction k with
  | zero => exact Nat.le_refl _
  | succ k ih => unfold atF; split <;> omega
theorem atF_up (s : Stp) (l : List Stp) (k : Nat) : ∀ j, atF s l k ≤ j → j < k → (l.getD j default).d * s.r < s.d * (l.getD j default).r := by
  induction k with
  | zero => intro j _ h; omega
  | succ k ih =>
    intro j h1 h2
    unfold atF at h1
    split at h1
    · rename_i hc
      by_cases hj : j = k
      · subst hj; exact hc
      · exact ih j h1 (by omega)
    · omega
theorem atF_stop (s : Stp) (l : List Stp) (k : Nat) (h : 0 < atF s l k) : ¬ ((l.getD (atF s l k - 1) default).d * s.r < s.d * (l.getD (atF s l k - 1) default).r) := by
  induction k with
  | zero => simp [atF] at h
  | succ k ih =>
    unfold atF at h ⊢
    split
    · rename_i hc
      rw [if_pos hc] at h
      exact ih h
    · rename_i hc
      simpa using hc
theorem getD_mem {l : List Stp} {j : Nat} (h : j < l.length) : l.getD j default ∈ l := by
  rw [List.getD_eq_getElem?_getD, List.getElem?_eq_getElem h]
  exact List.getElem_mem h
theorem pair_at {l : List Stp} (h : l.Pairwise ltS) {i j : Nat} (hij : i < j) (hj : j < l.length) : ltS (l.getD i default) (l.getD j default) := by
  rw [List.getD_eq_getElem?_getD, List.getD_eq_getElem?_getD, List.getElem?_eq_getElem hj, List.getElem?_eq_getElem (show i < l.length by omega)]
  exact List.pairwise_iff_getElem.1 h i j (by omega) hj hij
theorem insS_perm (s : Stp) (l : List Stp) : (insS s l).Perm (s :: l) := by
  unfold insS
  refine List.perm_middle.trans ?_
  rw [List.take_append_drop]
theorem insS_pair {s : Stp} {l : List Stp} (hs : okS s) (hl : ∀ t ∈ l, okS t) (hp : l.Pairwise ltS) (hb : ∀ t ∈ l, t.c < s.c ∨ ltS t s) : (insS s l).Pairwise ltS := by
  have hle := atF_le s l l.length
  have hup := atF_up s l l.length
  have hst := atF_stop s l l.length
  unfold insS
  generalize atF s l l.length = k at *
  have after : ∀ t ∈ l.drop k, ltS s t := by
    intro t ht
    obtain ⟨j, hj, rfl⟩ := List.getElem_of_mem ht
    rw [List.getElem_drop]
    have hj' : k + j < l.length := by simp at hj; omega
    have := hup (k + j) (by omega) hj'
    rw [List.getD_eq_getElem?_getD, List.getElem?_eq_getElem hj'] at this
    exact .inl this
  have before : ∀ t ∈ l.take k, ltS t s := by
    intro t ht
    obtain ⟨j, hj, rfl⟩ := List.getElem_of_mem ht
    rw [List.getElem_take]
    have hj' : j < k := by simp at hj; omega
    have h1 := hst (by omega)
    have hm := getD_mem (l := l) (j := k - 1) (by omega)
    have hlast : ltS (l.getD (k - 1) default) s := by
      rcases hb _ hm with h | h
      · unfold ltS
        by_cases q : s.d * (l.getD (k - 1) default).r < (l.getD (k - 1) default).d * s.r
        · exact .inl q
        · exact .inr ⟨by omega, h⟩
      · exact h
    by_cases e : j = k - 1
    · subst e
      rw [List.getD_eq_getElem?_getD, List.getElem?_eq_getElem (show k - 1 < l.length by omega)] at hlast
      exact hlast
    · have h2 := pair_at hp (i := j) (j := k - 1) (by omega) (by omega)
      have hm2 := getD_mem (l := l) (j := j) (by omega)
      have h3 := ltS_trans (hl _ hm2) (hl _ hm) hs h2 hlast
      rw [List.getD_eq_getElem?_getD, List.getElem?_eq_getElem (show j < l.length by omega)] at h3
      exact h3
  rw [List.pairwise_append, List.pairwise_cons]
  refine ⟨hp.sublist (List.take_sublist _ _), ⟨after, hp.sublist (List.drop_sublist _ _)⟩, ?_⟩
  intro a ha b hbm
  rcases List.mem_cons.1 hbm with rfl | hbm
  · exact before a ha
  · exact ltS_trans (hl _ (List.mem_of_mem_take ha)) hs (hl _ (List.mem_of_mem_drop hbm)) (before a ha) (after b hbm)

abbrev Cv := List Int × List Int
/-- The step to the hull point number k + 1 of the curve number i. -/
def stepAt (i : Nat) (C : Cv) (k : Nat) : Stp := ⟨i, (hull C.1 C.2).getD (k + 1) 0, hF C.1 C.2 k, hI C.1 C.2 k⟩
def nS (C : Cv) : Nat := (hull C.1 C.2).length - 1
def stepsC (i : Nat) (C : Cv) : List Stp := (List.range (nS C)).map (stepAt i C)
/-- The steps of the first n curves. -/
def allS (cs : List Cv) : Nat → List Stp
  | 0 => []
  | n + 1 => allS cs n ++ stepsC n (cs.getD n ([], []))
theorem stepsC_len (i : Nat) (C : Cv) : (stepsC i C).length = nS C := by simp [stepsC]
theorem stepAt_ok {i : Nat} {C : Cv} (h : VP C.1 C.2) (hi : i < 65536) {k : Nat} (hk : k < nS C) : okS (stepAt i C k) := by
  obtain ⟨h1, h2, h3⟩ := hF_ok h (i := k) (by unfold nS at hk; omega)
  exact ⟨h1, h2, h3, hi⟩
theorem stepAt_lt {i : Nat} {C : Cv} (h : VP C.1 C.2) {j k : Nat} (hjk : j < k) (hk : k < nS C) : ltS (stepAt i C j) (stepAt i C k) := .inl (hull_slopes h k (by unfold nS at hk; omega) j hjk)
/-- Curves that are valid and not too many. -/
def okC (cs : List Cv) : Prop := cs.length ≤ 65536 ∧ ∀ i, i < cs.length → VP (cs.getD i ([], [])).1 (cs.getD i ([], [])).2
theorem allS_mem {cs : List Cv} {n : Nat} {s : Stp} (h : s ∈ allS cs n) : ∃ i k, i < n ∧ k < nS (cs.getD i ([], [])) ∧ s = stepAt i (cs.getD i ([], [])) k := by
  induction n with
  | zero => simp [allS] at h
  | succ n ih =>
    rw [allS, List.mem_append] at h
    rcases h with h | h
    · obtain ⟨i, k, h1, h2, h3⟩ := ih h
      exact ⟨i, k, by omega, h2, h3⟩
    · simp only [stepsC, List.mem_map, List.mem_range] at h
      obtain ⟨k, hk, rfl⟩ := h
      exact ⟨n, k, by omega, hk, rfl⟩
theorem allS_ok {cs : List Cv} (h : okC cs) {n : Nat} (hn : n ≤ cs.length) : ∀ s ∈ allS cs n, okS s := by
  intro s hs
  obtain ⟨i, k, h1, h2, rfl⟩ := allS_mem hs
  exact stepAt_ok (h.2 i (by omega)) (by have := h.1; omega) h2
/-- No two steps are equal in the order. -/
def tri (s t : Stp) : Prop := ltS s t ∨ ltS t s
theorem allS_tri {cs : List Cv} (h : okC cs) {n : Nat} (hn : n ≤ cs.length) : (allS cs n).Pairwise tri := by
  induction n with
  | zero => exact List.Pairwise.nil
  | succ n ih =>
    rw [allS, List.pairwise_append]
    refine ⟨ih (by omega), ?_, ?_⟩
    · unfold stepsC
      rw [List.pairwise_map]
      refine List.Pairwise.imp_of_mem (R := fun a b => a < b) ?_ List.pairwise_lt_range
      intro a b _ hb hab
      exact .inl (stepAt_lt (h.2 n (by omega)) hab (by simpa using hb))
    · intro a ha b hb
      obtain ⟨i, k, h1, h2, rfl⟩ := allS_mem ha
      simp only [stepsC, List.mem_map, List.mem_range] at hb
      obtain ⟨k2, hk2, rfl⟩ := hb
      unfold tri ltS stepAt
      dsimp only
      omega
/-- The list of all steps in their order. -/
def isS (cs : List Cv) (S : List Stp) : Prop := S.Perm (allS cs cs.length) ∧ S.Pairwise ltS
theorem isS_uniq {cs : List Cv} {S T : List Stp} (h1 : isS cs S) (h2 : isS cs T) : S = T := uniqS S T h1.2 h2.2 (h1.1.trans h2.1.symm)
theorem isS_ok {cs : List Cv} (h : okC cs) {S : List Stp} (hS : isS cs S) : ∀ s ∈ S, okS s := fun s hs => allS_ok h (Nat.le_refl _) s (hS.1.subset hs)
/-- Sorted and a permutation: the list of all steps. -/
theorem isS_of {cs : List Cv} (h : okC cs) {S : List Stp} (hp : S.Perm (allS cs cs.length)) (hs : S.Pairwise fun s t => ¬ ltS t s) : isS cs S := by
  refine ⟨hp, ?_⟩
  have ht : S.Pairwise tri := (hp.pairwise_iff (fun {x y} h => h.symm)).2 (allS_tri h (Nat.le_refl _))
  exact (hs.and ht).imp fun h => h.2.resolve_right h.1
/-- The insertion of the steps of one curve. -/
def insN (i : Nat) (C : Cv) (l : List Stp) : Nat → List Stp
  | 0 => l
  | k + 1 => insS (stepAt i C k) (insN i C l k)
def insA (cs : List Cv) : Nat → List Stp
  | 0 => []
  | n + 1 => insN n (cs.getD n ([], [])) (insA cs n) (nS (cs.getD n ([], [])))
/-- What is known on the way. -/
structure Ins (cs : List Cv) (n k : Nat) (l : List Stp) : Prop where
  perm : l.Perm (allS cs n ++ (List.range k).map (stepAt n (cs.getD n ([], []))))
  pair : l.Pairwise ltS
theorem Ins.start {cs : List Cv} {n : Nat} {l : List Stp} (hp : l.Perm (allS cs n)) (hl : l.Pairwise ltS) : Ins cs n 0 l := ⟨by simpa using hp, hl⟩
theorem Ins.step {cs : List Cv} (h : okC cs) {n k : Nat} (hn : n < cs.length) (hk : k < nS (cs.getD n ([], []))) {l : List Stp} (I : Ins cs n k l) : Ins cs n (k + 1) (insS (stepAt n (cs.getD n ([], [])) k) l) := by
  have hv := h.2 n hn
  have hm : ∀ t ∈ l, okS t ∧ (t.c < n ∨ ltS t (stepAt n (cs.getD n ([], [])) k)) := by
    intro t ht
    have := I.perm.subset ht
    rw [List.mem_append] at this
    rcases this with q | q
    · obtain ⟨i, j, h1, h2, rfl⟩ := allS_mem q
      exact ⟨stepAt_ok (h.2 i (by omega)) (by have := h.1; omega) h2, .inl h1⟩
    · simp only [List.mem_map, List.mem_range] at q
      obtain ⟨j, hj, rfl⟩ := q
      exact ⟨stepAt_ok hv (by have := h.1; omega) (by omega), .inr (stepAt_lt hv hj hk)⟩
  refine ⟨(insS_perm _ _).trans ?_, insS_pair (stepAt_ok hv (by have := h.1; omega) hk) (fun t ht => (hm t ht).1) I.pair (fun t ht => (hm t ht).2)⟩
  rw [List.range_succ, List.map_append, ← List.append_assoc]
  refine (I.perm.cons _).trans ?_
  exact (List.perm_append_comm (l₁ := [_]))
theorem Ins.done {cs : List Cv} {n : Nat} {l : List Stp} (I : Ins cs n (nS (cs.getD n ([], []))) l) : l.Perm (allS cs (n + 1)) ∧ l.Pairwise ltS := ⟨I.perm, I.pair⟩
theorem insN_ins {cs : List Cv} (h : okC cs) {n : Nat} (hn : n < cs.length) {l : List Stp} (I : Ins cs n 0 l) (k : Nat) (hk : k ≤ nS (cs.getD n ([], []))) : Ins cs n k (insN n (cs.getD n ([], [])) l k) := by
  induction k with
  | zero => exact I
  | succ k ih => exact (ih (by omega)).step h hn (by omega)
theorem insA_all {cs : List Cv} (h : okC cs) (n : Nat) (hn : n ≤ cs.length) : (insA cs n).Perm (allS cs n) ∧ (insA cs n).Pairwise ltS := by
  induction n with
  | zero => exact ⟨List.Perm.nil, List.Pairwise.nil⟩
  | succ n ih =>
    obtain ⟨h1, h2⟩ := ih (by omega)
    exact (insN_ins h (by omega) (Ins.start h1 h2) _ (Nat.le_refl _)).done
theorem insA_is {cs : List Cv} (h : okC cs) : isS cs (insA cs cs.length) := insA_all h _ (Nat.le_refl _)
/-- The choice that is reached: rate so far, what is left of the steps, the choice so far. -/
def wth (b : Int) : Int → List Stp → List Int → List Int
  | _, [], ch => ch
  | rate, s :: S, ch => if b < rate + s.r then ch else wth b (rate + s.r) S (ch.set s.c (s.p : Int))
theorem wth_len (b : Int) : ∀ (S : List Stp) (rate : Int) (ch : List Int), (wth b rate S ch).length = ch.length
  | [], _, _ => rfl
  | s :: S, rate, ch => by
    unfold wth
    split
    · rfl
    · rw [wth_len b S]; simp
end Go.Proofs.Ytkohdiajpdlkjaa
