/-
  The mathematics of layer 28's laws: what was written is read back.
-/
import Derived.Test.YtagfmmkhgggfmaaMu
set_option maxRecDepth 100000
namespace Go.Proofs.Ytagfmmkhgggfmaa
namespace Mk
theorem known_bd {c : Int} (h : known c = true) : 65440 ≤ c ∧ c ≤ 65458 := by
  simp [known] at h; omega
theorem rd_at (pre mid post : List Int) (n : Nat) (hn : mid.length = n) (h1 : 1 ≤ n ∧ n ≤ 4) : rdE (pre ++ (mid ++ post)) (pre.length : Int) n = 0 ∧ rdV (pre ++ (mid ++ post)) (pre.length : Int) n = num mid := by
  have e : rdE (pre ++ (mid ++ post)) (pre.length : Int) n = 0 := rdE_of (by omega) (by omega) (by omega) (by simp; omega)
  refine ⟨e, ?_⟩
  rw [rdV, if_pos e, Int.toNat_natCast, Int.toNat_natCast, List.drop_left, List.take_left' hn]
theorem apE_zero {c : Int} {p : List Int} (h : apE c p = 0) : known c = true ∧ (bare c = true → p = []) ∧ (bare c = false → p.length ≤ 65533) := by
  unfold apE at h
  cases hk : known c
  · rw [if_pos hk] at h; omega
  · rw [if_neg (by simp [hk])] at h
    refine ⟨rfl, fun hb => ?_, fun hb => ?_⟩
    · by_cases hp : 0 < p.length
      · rw [if_pos ⟨hb, hp⟩] at h; omega
      · exact List.length_eq_zero_iff.1 (by omega)
    · rw [if_neg (by simp [hb])] at h
      by_cases hp : p.length > 65533
      · rw [if_pos hp] at h; omega
      · omega
theorem rs_app (pre post : List Int) (c : Int) (p : List Int) (h : apE c p = 0) : rs (pre ++ (seg c p ++ post)) (pre.length : Int) = ⟨c, p, ((pre ++ seg c p).length : Nat), 0⟩ := by
  obtain ⟨hk, hb1, hb2⟩ := apE_zero h
  have hc := known_bd hk
  have hn : num (dg c 2) = c := num_dg c 2 (by omega) (by simp; omega)
  cases hb : bare c
  · have hp := hb2 hb
    have es : seg c p = dg c 2 ++ (dg (p.length + 2) 2 ++ p) := by unfold seg; rw [if_neg (by simp [hb]), List.append_assoc]
    have hn2 : num (dg ((p.length : Int) + 2) 2) = p.length + 2 := num_dg _ 2 (by omega) (by simp; omega)
    have r1 := rd_at pre (dg c 2) ((dg (p.length + 2) 2 ++ p) ++ post) 2 (dg_len _ _) (by omega)
    have r2 := rd_at (pre ++ dg c 2) (dg (p.length + 2) 2) (p ++ post) 2 (dg_len _ _) (by omega)
    have e1 : pre ++ (seg c p ++ post) = pre ++ (dg c 2 ++ ((dg (p.length + 2) 2 ++ p) ++ post)) := by rw [es]; simp
    have e2 : pre ++ (seg c p ++ post) = (pre ++ dg c 2) ++ (dg (p.length + 2) 2 ++ (p ++ post)) := by rw [es]; simp
    have e3 : (((pre ++ dg c 2).length : Nat) : Int) = (pre.length : Int) + 2 := by rw [List.length_append, dg_len]; omega
    rw [← e1, hn] at r1
    rw [← e2, e3, hn2] at r2
    have hl : (pre ++ (seg c p ++ post)).length = pre.length + (4 + p.length + post.length) := by rw [es]; simp [dg_len]; omega
    have hl2 : (pre ++ seg c p).length = pre.length + (4 + p.length) := by rw [es]; simp [dg_len]; omega
    have r1a : rdE (pre ++ (seg c p ++ post)) (pre.length : Int) 2 = 0 := r1.1
    have r1b : rdV (pre ++ (seg c p ++ post)) (pre.length : Int) 2 = c := r1.2
    have r2a : rdE (pre ++ (seg c p ++ post)) ((pre.length : Int) + 2) 2 = 0 := r2.1
    have r2b : rdV (pre ++ (seg c p ++ post)) ((pre.length : Int) + 2) 2 = p.length + 2 := r2.2
    unfold rs
    rw [r1a, r1b, r2a, r2b, if_neg (by simp), if_neg (by simp [hk]), if_neg (by simp [hb]), if_neg (by simp), if_neg (by omega), if_neg (by rw [hl]; omega), hl2]
    have e4 : pre ++ (seg c p ++ post) = (pre ++ (dg c 2 ++ dg (p.length + 2) 2)) ++ (p ++ post) := by rw [es]; simp
    have e5 : ((((pre.length : Int)).toNat) + 4) = (pre ++ (dg c 2 ++ dg (p.length + 2) 2)).length := by simp [dg_len]
    rw [e4, e5, List.drop_left, List.take_left' (by omega)]
    congr 1
    omega
  · have hp := hb1 hb
    subst hp
    have es : seg c [] = dg c 2 := by unfold seg; rw [if_pos hb]
    have r1 := rd_at pre (dg c 2) post 2 (dg_len _ _) (by omega)
    rw [← es] at r1
    rw [es, hn] at r1
    have r1a : rdE (pre ++ (dg c 2 ++ post)) (pre.length : Int) 2 = 0 := r1.1
    have r1b : rdV (pre ++ (dg c 2 ++ post)) (pre.length : Int) 2 = c := r1.2
    unfold rs
    rw [es, r1a, r1b, if_neg (by simp), if_neg (by simp [hk]), if_pos hb, List.length_append, dg_len]
    congr 1
theorem al_len (bs : List Int) (F : Nat) (a : Int) : (al bs F a).l.length ≤ F := by
  induction F generalizing a with
  | zero => simp [al]
  | succ F ih =>
    unfold al
    split
    · simp
    · split
      · simp
      · unfold Al.put
        have := ih (rs bs a).n
        split <;> simp <;> omega
theorem rs_err {bs : List Int} {a : Int} (h : (rs bs a).e ≠ 0) : rs bs a = ⟨0, [], 0, (rs bs a).e⟩ := by
  revert h
  unfold rs
  repeat' split
  all_goals (intro h; first | rfl | exact absurd rfl h)
theorem take_split {bs : List Int} {a n : Nat} (_ : a + n ≤ bs.length) : bs.take (a + n) = bs.take a ++ (bs.drop a).take n := List.take_add
theorem rd_dg {bs : List Int} (hB : bytes bs) {a : Nat} {n : Nat} (h : rdE bs a n = 0) : dg (rdV bs a n) n = (bs.drop a).take n := by
  have hk := rdE_ok h
  rw [rdV, if_pos h, Int.toNat_natCast, Int.toNat_natCast]
  have hl : ((bs.drop a).take n).length = n := by simp; omega
  have := dg_num (bytes_take (bytes_drop hB a) n)
  rwa [hl] at this
/-- What is read is what would be written. -/
theorem canon {bs : List Int} (hB : bytes bs) {a : Int} (h : (rs bs a).e = 0) : apE (rs bs a).c (rs bs a).p = 0 ∧ bs.take a.toNat ++ seg (rs bs a).c (rs bs a).p = bs.take (rs bs a).n.toNat := by
  revert h
  by_cases h0 : rdE bs a 2 = 0
  · have k := rdE_ok h0
    obtain ⟨A, rfl⟩ : ∃ A : Nat, a = A := ⟨a.toNat, by omega⟩
    have d1 := rd_dg hB (n := 2) h0
    have d1' : dg (rdV bs A 2) 2 = (bs.drop A).take 2 := d1
    unfold rs
    rw [if_neg (by simp [h0])]
    by_cases h1 : known (rdV bs A 2) = false
    · rw [if_pos h1]; intro h; simp at h
    · rw [if_neg h1]
      have hk : known (rdV bs A 2) = true := by simpa using h1
      by_cases h2 : bare (rdV bs A 2) = true
      · rw [if_pos h2]
        intro _
        refine ⟨?_, ?_⟩
        · show apE (rdV bs A 2) [] = 0
          unfold apE
          rw [if_neg (by simp [hk]), if_neg (by simp), if_neg (by simp)]
        · show bs.take A ++ seg (rdV bs A 2) [] = bs.take ((A : Int) + 2).toNat
          unfold seg
          rw [if_pos h2, d1', show ((A : Int) + 2).toNat = A + 2 by omega, take_split (by omega)]
      · rw [if_neg h2]
        have hbf : bare (rdV bs A 2) = false := by simpa using h2
        by_cases h3 : rdE bs (A + 2) 2 = 0
        · rw [if_neg (by simp [h3])]
          have k3 := rdE_ok h3
          have d2 := rd_dg hB (a := A + 2) (n := 2) h3
          have d2' : dg (rdV bs (A + 2) 2) 2 = (bs.drop (A + 2)).take 2 := d2
          by_cases h4 : rdV bs (A + 2) 2 < 2
          · rw [if_pos h4]; intro h; simp at h
          · rw [if_neg h4]
            by_cases h5 : rdV bs (A + 2) 2 > bs.length - (A + 2)
            · rw [if_pos h5]; intro h; simp at h
            · rw [if_neg h5]
              intro _
              have hb2 := num_bd (bytes_take (bytes_drop hB (A + 2)) 2)
              have hv : rdV bs ((A : Int) + 2) 2 = num ((bs.drop (A + 2)).take 2) := by
                rw [rdV, if_pos h3]; rfl
              have hl2 : ((bs.drop (A + 2)).take 2).length = 2 := by simp; omega
              rw [hl2] at hb2
              have hsm : rdV bs ((A : Int) + 2) 2 < 65536 := by rw [hv]; exact hb2.2
              obtain ⟨n, hn⟩ : ∃ n : Nat, rdV bs ((A : Int) + 2) 2 = ((n + 2 : Nat) : Int) := ⟨(rdV bs (A + 2) 2 - 2).toNat, by omega⟩
              rw [hn] at h5 hsm d2' ⊢
              have hpl : ((bs.drop (A + 4)).take n).length = n := by simp; omega
              refine ⟨?_, ?_⟩
              · show apE (rdV bs A 2) ((bs.drop (((A : Int)).toNat + 4)).take ((((n + 2 : Nat) : Int)).toNat - 2)) = 0
                rw [Int.toNat_natCast, Int.toNat_natCast, Nat.add_sub_cancel]
                unfold apE
                rw [if_neg (by simp [hk]), if_neg (by simp [hbf]), if_neg (by rw [hpl]; omega)]
              · show bs.take A ++ seg (rdV bs A 2) ((bs.drop (((A : Int)).toNat + 4)).take ((((n + 2 : Nat) : Int)).toNat - 2)) = bs.take ((A : Int) + 2 + ((n + 2 : Nat) : Int)).toNat
                rw [Int.toNat_natCast, Int.toNat_natCast, Nat.add_sub_cancel]
                unfold seg
                rw [if_neg (by simp [hbf]), d1', hpl, show (n : Int) + 2 = ((n + 2 : Nat) : Int) by omega, d2', show ((A : Int) + 2 + ((n + 2 : Nat) : Int)).toNat = (A + 2) + 2 + n by omega,
                  take_split (a := A + 2 + 2) (by omega), take_split (a := A + 2) (by omega), take_split (a := A) (by omega)]
                simp [Nat.add_assoc]
        · rw [if_pos h3]; intro h; exact absurd h h3
  · unfold rs
    rw [if_pos h0]; intro h; exact absurd h h0
/-- A segment that a list can hold before its end. -/
def mid (x : Int × List Int) : Prop := apE x.1 x.2 = 0 ∧ x.1 ≠ 65456 ∧ x.1 ≠ 65458 ∧ x.1 ≠ 65455
def flat (l : List (Int × List Int)) : List Int := l.flatMap fun x => seg x.1 x.2
theorem ends_app (pre post : List Int) (c : Int) (p : List Int) (h : known c = true) : ends (pre ++ (seg c p ++ post)) (pre.length : Int) = (decide (c = 65456) || decide (c = 65458) || decide (c = 65455)) := by
  have hc := known_bd h
  have hn : num (dg c 2) = c := num_dg c 2 (by omega) (by simp; omega)
  obtain ⟨r, hr⟩ : ∃ r, seg c p = dg c 2 ++ r := by
    unfold seg
    split
    · exact ⟨[], by simp⟩
    · exact ⟨_, List.append_assoc _ _ _⟩
  have r1 := rd_at pre (dg c 2) (r ++ post) 2 (dg_len _ _) (by omega)
  have e : pre ++ (seg c p ++ post) = pre ++ (dg c 2 ++ (r ++ post)) := by rw [hr, List.append_assoc]
  rw [← e, hn] at r1
  have r1a : rdE (pre ++ (seg c p ++ post)) (pre.length : Int) 2 = 0 := r1.1
  have r1b : rdV (pre ++ (seg c p ++ post)) (pre.length : Int) 2 = c := r1.2
  unfold ends
  rw [r1a, r1b]
  simp
theorem al_flat (l : List (Int × List Int)) (hl : ∀ x ∈ l, mid x) (pre post : List Int) (F : Nat) (hF : l.length < F) :
    al (pre ++ (flat l ++ (seg 65455 [] ++ post))) F (pre.length : Int) = ⟨l, ((pre ++ flat l).length : Nat), 0⟩ := by
  induction l generalizing pre F with
  | nil =>
    obtain ⟨F, rfl⟩ : ∃ G, F = G + 1 := ⟨F - 1, by omega⟩
    have := ends_app pre post 65455 [] (by decide)
    simp only [flat, List.flatMap_nil, List.nil_append, List.append_nil]
    rw [al, if_pos (by rw [this]; decide)]
  | cons x l ih =>
    obtain ⟨F, rfl⟩ : ∃ G, F = G + 1 := ⟨F - 1, by simp at hF; omega⟩
    obtain ⟨h1, h2, h3, h4⟩ := hl x (by simp)
    have e0 : pre ++ (flat (x :: l) ++ (seg 65455 [] ++ post)) = pre ++ (seg x.1 x.2 ++ (flat l ++ (seg 65455 [] ++ post))) := by simp [flat]
    have e1 : pre ++ (flat (x :: l) ++ (seg 65455 [] ++ post)) = (pre ++ seg x.1 x.2) ++ (flat l ++ (seg 65455 [] ++ post)) := by rw [e0]; simp
    have hE := ends_app pre (flat l ++ (seg 65455 [] ++ post)) x.1 x.2 (apE_zero h1).1
    have hR := rs_app pre (flat l ++ (seg 65455 [] ++ post)) x.1 x.2 h1
    have hI := ih (fun y hy => hl y (by simp [hy])) (pre ++ seg x.1 x.2) F (by simpa using hF)
    rw [e0, al, if_neg (by rw [hE]; simp [h2, h3, h4]), hR, if_neg (by simp)]
    simp only
    rw [← e0, e1, hI]
    simp [Al.put, flat]
end Mk
end Go.Proofs.Ytagfmmkhgggfmaa
