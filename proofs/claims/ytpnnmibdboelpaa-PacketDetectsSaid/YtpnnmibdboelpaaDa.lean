/-
  Layer 27: what is found when one byte is replaced, in mathematics.
-/
import Derived.Test.YtpnnmibdboelpaaCx
set_option maxRecDepth 100000
namespace Go.Proofs.Ytpnnmibdboelpaa
open Go.RowKit

theorem fs_shift : ∀ (l : List Int) (a d : Int), l.foldl (fun a b => a + b) (a + d) = l.foldl (fun a b => a + b) a + d
  | [], _, _ => rfl
  | x :: t, a, d => by
    simp only [List.foldl_cons]
    rw [show a + d + x = (a + x) + d by omega]
    exact fs_shift t (a + x) d
theorem fs_set : ∀ (l : List Int) (i : Nat) (y a : Int) (h : i < l.length), (l.set i y).foldl (fun a b => a + b) a = l.foldl (fun a b => a + b) a - l[i] + y
  | x :: t, 0, y, a, _ => by
    simp only [List.set_cons_zero, List.foldl_cons, List.getElem_cons_zero]
    rw [fs_shift, fs_shift]
    omega
  | x :: t, i + 1, y, a, h => by
    simp only [List.set_cons_succ, List.foldl_cons, List.getElem_cons_succ]
    exact fs_set t i y (a + x) (by simpa using h)
theorem chk_set {l : List Int} (hB : Mk.bytes l) {i : Nat} (hi : i < l.length) {y : Int} (hy : 0 ≤ y ∧ y ≤ 255) (hne : l[i] ≠ y) : chk (l.set i y) ≠ chk l := by
  unfold chk
  rw [fs_set l i y 0 hi]
  have := hB l[i] (List.getElem_mem _)
  generalize l.foldl (fun a b => a + b) 0 = s at *
  generalize l[i] = x at *
  omega
theorem sub_mid (A M B : List Int) : sub (A ++ (M ++ B)) 0 A.length M.length = M := by simp [sub]
theorem sub_mid' (A M B : List Int) (a n : Nat) (ha : A.length = a) (hn : M.length = n) : sub (A ++ (M ++ B)) 0 a n = M := by subst ha; subst hn; exact sub_mid A M B
theorem fr_zero {bs : List Int} {a : Int} (h : (fr bs a).e ≠ 0) : (fr bs a).q = 0 ∧ (fr bs a).f = 0 ∧ (fr bs a).t = 0 := by
  unfold fr at *
  split at h
  · rename_i h1; rw [if_pos h1]; exact ⟨rfl, rfl, rfl⟩
  · rename_i h1
    rw [if_neg h1]
    split at h
    · rename_i h2; rw [if_pos h2]; exact ⟨rfl, rfl, rfl⟩
    · exact absurd rfl h
theorem rm_zero (X : List Int) (hl : 11 ≤ X.length) : rm X 0 = if Mk.num (sub X 0 0 2) ≠ 65459 then ⟨0, 0, 0, 11⟩ else if X.getD 10 0 ≠ chk (sub X 0 0 10) then ⟨0, 0, 0, 17⟩ else ⟨Mk.num (sub X 0 2 2), Mk.num (sub X 0 4 4), Mk.num (sub X 0 8 2), 0⟩ := by
  unfold rm
  rw [if_neg (by omega), if_neg (by omega)]
  rfl
theorem rm_chk (X : List Int) (hl : 11 ≤ X.length) (h : X.getD 10 0 ≠ chk (sub X 0 0 10)) : (rm X 0).e ≠ 0 := by
  rw [rm_zero X hl]
  by_cases h2 : Mk.num (sub X 0 0 2) ≠ 65459
  · rw [if_pos h2]; show (11 : Int) ≠ 0; decide
  · rw [if_neg h2, if_pos h]; show (17 : Int) ≠ 0; decide
/-- A packet with its synchronization marker. -/
def px (q : Int) (R : List Int) : List Int := mkB q (R.length : Nat) (Ck.crc R) ++ R
theorem px_len (q : Int) (R : List Int) : (px q R).length = 11 + R.length := by rw [px, List.length_append, mkB_len]
theorem crc_bd (R : List Int) : 0 ≤ Ck.crc R ∧ Ck.crc R < 65536 := by
  have := Ck.crcN_lt R
  unfold Ck.crc
  omega
theorem rm_pre (A R : List Int) (q n c : Int) (hA : A = mkB q n c) (hq : 0 ≤ q ∧ q < 65536) (hn : 0 ≤ n ∧ n < 4294967296) (hc : 0 ≤ c ∧ c < 65536) : rm (A ++ R) 0 = ⟨q, n, c, 0⟩ := by
  subst hA
  rw [rm_zero _ (by rw [List.length_append, mkB_len]; omega)]
  have e2 : sub (mkB q n c ++ R) 0 0 2 = Mk.dg 65459 2 := by
    have := sub_mid' [] (Mk.dg 65459 2) (Mk.dg q 2 ++ (Mk.dg n 4 ++ (Mk.dg c 2 ++ ([chk (hd10 q n c)] ++ R)))) 0 2 rfl (Mk.dg_len _ _)
    simpa [mkB, hd10, List.append_assoc] using this
  have e3 : sub (mkB q n c ++ R) 0 2 2 = Mk.dg q 2 := by
    have := sub_mid' (Mk.dg 65459 2) (Mk.dg q 2) (Mk.dg n 4 ++ (Mk.dg c 2 ++ ([chk (hd10 q n c)] ++ R))) 2 2 (Mk.dg_len _ _) (Mk.dg_len _ _)
    simpa [mkB, hd10, List.append_assoc] using this
  have e4 : sub (mkB q n c ++ R) 0 4 4 = Mk.dg n 4 := by
    have := sub_mid' (Mk.dg 65459 2 ++ Mk.dg q 2) (Mk.dg n 4) (Mk.dg c 2 ++ ([chk (hd10 q n c)] ++ R)) 4 4 (by simp [Mk.dg_len]) (Mk.dg_len _ _)
    simpa [mkB, hd10, List.append_assoc] using this
  have e5 : sub (mkB q n c ++ R) 0 8 2 = Mk.dg c 2 := by
    have := sub_mid' (Mk.dg 65459 2 ++ (Mk.dg q 2 ++ Mk.dg n 4)) (Mk.dg c 2) ([chk (hd10 q n c)] ++ R) 8 2 (by simp [Mk.dg_len]) (Mk.dg_len _ _)
    simpa [mkB, hd10, List.append_assoc] using this
  have e6 : sub (mkB q n c ++ R) 0 0 10 = hd10 q n c := by
    have := sub_mid' [] (hd10 q n c) ([chk (hd10 q n c)] ++ R) 0 10 rfl (hd10_len _ _ _)
    simpa [mkB, List.append_assoc] using this
  have e7 : (mkB q n c ++ R).getD 10 0 = chk (hd10 q n c) := by
    have hl := hd10_len q n c
    simp [mkB, hl]
  rw [e2, e3, e4, e5, e6, e7, Mk.num_dg 65459 2 (by omega) (by decide), if_neg (by decide), if_neg (fun h => h rfl), Mk.num_dg q 2 hq.1 (by have := hq.2; simpa using this), Mk.num_dg n 4 hn.1 (by have := hn.2; simpa using this), Mk.num_dg c 2 hc.1 (by have := hc.2; simpa using this)]
theorem sub_tail (A R : List Int) (hA : A.length = 11) : sub (A ++ R) 0 11 R.length = R := by
  have := sub_mid' A R [] 11 R.length hA rfl
  simpa using this
theorem fr_px (q : Int) (R : List Int) (hq : 0 ≤ q ∧ q < 65536) (hR : R.length < 1000000) : fr (px q R) 0 = ⟨q, 11, (px q R).length, 0⟩ := by
  have h1 := rm_pre (mkB q (R.length : Nat) (Ck.crc R)) R q (R.length : Nat) (Ck.crc R) rfl hq ⟨by omega, by omega⟩ (crc_bd R)
  have h2 : rt (px q R) 0 (R.length : Nat) (Ck.crc R) = ⟨11, (px q R).length, 0⟩ := by
    unfold rt
    rw [px_len, if_neg (by omega), Int.toNat_natCast, px, sub_tail _ _ (mkB_len _ _ _), if_neg (fun h => h rfl)]
    simp
    try omega
  unfold fr
  rw [show rm (px q R) 0 = ⟨q, (R.length : Nat), Ck.crc R, 0⟩ from h1]
  simp only
  rw [if_neg (fun h => h rfl), show (0 : Int).toNat = 0 from rfl, h2]
  rfl
theorem fr_bad_set (q : Int) (R : List Int) (hq : 0 ≤ q ∧ q < 65536) (hR : R.length < 1000000) (hRB : Mk.bytes R) {i : Nat} {y : Int} (hi : i < (px q R).length) (hy : 0 ≤ y ∧ y ≤ 255) (hne : (px q R)[i] ≠ y) : (fr ((px q R).set i y) 0).e ≠ 0 := by
  have hlen := px_len q R
  by_cases h1 : i < 11
  · refine fr_bad (rm_chk _ (by rw [List.length_set]; omega) ?_)
    have hl := hd10_len q (R.length : Nat) (Ck.crc R)
    generalize hh : hd10 q (R.length : Nat) (Ck.crc R) = H at *
    have hHB : Mk.bytes H := by rw [← hh]; exact hd10_bytes _ _ _
    have hx : px q R = H ++ ([chk H] ++ R) := by simp [px, mkB, hh]
    rw [List.getElem_of_eq hx] at hne
    rw [hx]
    by_cases h2 : i < 10
    · have e : (H ++ ([chk H] ++ R)).set i y = H.set i y ++ ([chk H] ++ R) := by rw [List.set_append, if_pos (by omega)]
      rw [e]
      have e1 : sub (H.set i y ++ ([chk H] ++ R)) 0 0 10 = H.set i y := by
        have := sub_mid' [] (H.set i y) ([chk H] ++ R) 0 10 rfl (by rw [List.length_set]; exact hl)
        simpa using this
      have e2 : (H.set i y ++ ([chk H] ++ R)).getD 10 0 = chk H := by simp [hl]
      rw [e1, e2]
      rw [List.getElem_append_left (by omega)] at hne
      exact (chk_set hHB (by omega) hy hne).symm
    · obtain rfl : i = 10 := by omega
      have e : (H ++ ([chk H] ++ R)).set 10 y = H ++ ([y] ++ R) := by rw [List.set_append, if_neg (by omega), hl]; rfl
      rw [e]
      have e1 : sub (H ++ ([y] ++ R)) 0 0 10 = H := by
        have := sub_mid' [] H ([y] ++ R) 0 10 rfl hl
        simpa using this
      have e2 : (H ++ ([y] ++ R)).getD 10 0 = y := by simp [hl]
      rw [e1, e2]
      rw [List.getElem_append_right (by omega)] at hne
      simp [hl] at hne
      exact fun z => hne z.symm
  · have e : (px q R).set i y = mkB q (R.length : Nat) (Ck.crc R) ++ R.set (i - 11) y := by rw [px, List.set_append, if_neg (by rw [mkB_len]; omega), mkB_len]
    have hne' : R[i - 11]'(by omega) ≠ y := by
      have e0 : (px q R)[i]? = R[i - 11]? := by
        rw [px, List.getElem?_append_right (by rw [mkB_len]; omega), mkB_len]
      rw [List.getElem?_eq_getElem hi, List.getElem?_eq_getElem (by omega)] at e0
      injection e0 with e0
      rw [e0] at hne
      exact hne
    rw [e]
    have h2 := rm_pre (mkB q (R.length : Nat) (Ck.crc R)) (R.set (i - 11) y) q (R.length : Nat) (Ck.crc R) rfl hq ⟨by omega, by omega⟩ (crc_bd R)
    refine fr_bad2 ?_
    rw [h2]
    simp only
    rw [show (0 : Int).toNat = 0 from rfl]
    unfold rt
    have e3 := sub_tail (mkB q (R.length : Nat) (Ck.crc R)) (R.set (i - 11) y) (mkB_len _ _ _)
    rw [List.length_set] at e3
    rw [if_neg (by rw [List.length_append, mkB_len, List.length_set]; omega), Int.toNat_natCast, e3, if_pos (Ck.crc_set hRB (by omega) hy hne')]
    show (17 : Int) ≠ 0
    decide
/-- A row of bytes of the call's own, as a block. -/
theorem own_blk {w : World} {base : Nat} {v : Value} {l : List Int} (h : w.ownsRow base 5 1 v l.length (l.map (Value.int .u8))) (hl : 0 < l.length) :
    ∃ (g cap : Nat) (cur : Array Value), v = .slice (some ⟨g, 0, none⟩) l.length cap ∧ base ≤ g ∧ Blk w g 5 cur ∧ l.length ≤ cap ∧ ∀ k (hk : k < l.length), cur[k]? = some (.int .u8 l[k]) := by
  obtain ⟨h1, h2⟩ := h
  rcases h2 with ⟨rfl, h0⟩ | ⟨g, cap, cur, rfl, hb, hg, hc, hm, hs, ht⟩
  · omega
  · refine ⟨g, cap, cur, rfl, hb, hg, hc, fun k hk => ?_⟩
    have e : cur.toList[k]? = (cur.toList.take (l.length * 1))[k]? := by rw [List.getElem?_take, if_pos (by omega)]
    rw [← Array.getElem?_toList, e, ht]
    simp [hk]
theorem holds_cur {w : World} {g : Nat} {cur : Array Value} {l : List Int} (h : Blk w g 5 cur) (hc : ∀ k (hk : k < l.length), cur[k]? = some (.int .u8 l[k])) : HoldsB w (some ⟨g, 0, none⟩) l :=
  .inr ⟨g, 0, rfl, fun k hk => by rw [Nat.zero_add, h.cell k, hc k hk]⟩
theorem holds_cur_set {w : World} {g : Nat} {cur : Array Value} {l : List Int} (h : Blk w g 5 cur) (hc : ∀ k (hk : k < l.length), cur[k]? = some (.int .u8 l[k])) (i : Nat) (y : Int) : HoldsB (w.setCell ⟨g, i, none⟩ (.int .u8 y)) (some ⟨g, 0, none⟩) (l.set i y) := by
  refine .inr ⟨g, 0, rfl, fun k hk => ?_⟩
  rw [List.length_set] at hk
  rw [Nat.zero_add, (h.set i (.int .u8 y)).cell k]
  have hs : k < cur.size := by
    have := hc k hk
    exact (Array.getElem?_eq_some_iff.1 this).1
  by_cases e : i = k
  · subst e
    simp [hs]
  · have := hc k hk
    simp [e, this]
end Go.Proofs.Ytpnnmibdboelpaa
