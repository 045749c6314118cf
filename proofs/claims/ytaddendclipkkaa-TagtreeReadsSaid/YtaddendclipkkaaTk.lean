/-
  Layer 10: what is encoded is decoded (mathematics).
-/
import Derived.Test.YtaddendclipkkaaTj
import Derived.Test.YtaddendclipkkaaBl
set_option maxRecDepth 100000
namespace Go.Proofs.Ytaddendclipkkaa
open Go.RowKit

theorem P_leT {bs L : List Int} (hL : Bi.bits L) (h : Bi.Begins bs L) {j : Nat} (hj : j ≤ L.length) : Bi.P L j ≤ 8 * bs.length := by
  have c := Bi.read_at hL h (L.length - j) j (by omega)
  have := c.pos
  have := c.le
  omega
theorem enc_bytesT {L : List Int} (hL : Bi.bits L) : Bi.bytes (Bi.enc L) := by
  have h := (Bi.st_ok hL).byte
  unfold Bi.enc Bi.fin
  split
  · intro x hx
    rcases List.mem_append.1 hx with h1 | h1
    · exact h x h1
    · simp at h1; subst h1; decide
  · exact h
theorem enc_leT (L : List Int) : (Bi.enc L).length ≤ L.length + 1 := by
  have := Bi.st_len L
  unfold Bi.enc Bi.fin
  split
  · rw [List.length_append]; simp; omega
  · omega
theorem mv_up (w h : Nat) (f : Nat → Nat → Int) {x y : Nat} (hx : x < w) (hy : y < h) (k : Nat) : mv w h f (k + 1) (x / 2 ^ (k + 1)) (y / 2 ^ (k + 1)) ≤ mv w h f k (x / 2 ^ k) (y / 2 ^ k) := by
  have hx' := dm_at hx k
  have hy' := dm_at hy k
  rw [half_at, half_at]
  generalize x / 2 ^ k = X at *
  generalize y / 2 ^ k = Y at *
  show lsA (mv w h f k) (2 * (X / 2)) (2 * (Y / 2)) (min 2 (dm w k - 2 * (X / 2))) 65535 (min 2 (dm h k - 2 * (Y / 2))) ≤ _
  have := (lsA_le (mv w h f k) (2 * (X / 2)) (2 * (Y / 2)) (min 2 (dm w k - 2 * (X / 2))) 65535 (min 2 (dm h k - 2 * (Y / 2)))).2 (Y % 2) (X % 2) (by omega) (by omega)
  rwa [show 2 * (X / 2) + X % 2 = X by omega, show 2 * (Y / 2) + Y % 2 = Y by omega] at this
/-- A node of an encoder: the bound is at most the value, and is the value if that is known. -/
def Jn (n : Nd) : Prop := n.l ≤ n.v ∧ (n.b = true → n.l = n.v)
theorem encG_one (s : List Int) (n : Nd) : (encG s n).1 = 1 ↔ n.v = n.l := by
  unfold encG
  by_cases h : n.v = n.l
  · simp [h]
  · simp [h]
theorem encG_ok (s : List Int) (n : Nd) : ¬ (encG s n).2.1 ≠ 0 := by simp [encG]
theorem encG_s (s : List Int) (n : Nd) : (encG s n).2.2 = s ++ [(encG s n).1] := rfl
theorem nrun_J (t : Int) : ∀ (f : Nat) (s : List Int) (n : Nd), Jn n → Jn (nrun encG t f s n).2.2 ∧ (nrun encG t f s n).2.2.v = n.v
  | 0, s, n, h => ⟨h, rfl⟩
  | f + 1, s, n, h => by
    unfold nrun
    split
    · rename_i hc
      rw [if_neg (encG_ok s n)]
      split
      · rename_i h1
        rw [encG_one] at h1
        exact nrun_J t f _ { n with b := true } ⟨by simp only; omega, fun _ => by simp only; omega⟩
      · rename_i h1
        rw [encG_one] at h1
        exact nrun_J t f _ { n with l := n.l + 1 } ⟨by have := h.1; simp only; omega, fun hb => by simp only at hb; rw [hc.2] at hb; exact absurd hb (by decide)⟩
    · exact ⟨h, rfl⟩
theorem nrun_pre (t : Int) : ∀ (f : Nat) (s : List Int) (n : Nd), s <+: (nrun encG t f s n).2.1 ∧ (nrun encG t f s n).2.1.length ≤ s.length + f
  | 0, s, n => ⟨List.prefix_refl _, Nat.le_refl _⟩
  | f + 1, s, n => by
    unfold nrun
    split
    · rw [if_neg (encG_ok s n)]
      split
      · obtain ⟨a, b⟩ := nrun_pre t f (encG s n).2.2 { n with b := true }
        exact ⟨(List.prefix_append s _).trans a, by rw [encG_s] at b ⊢; simp at b ⊢; omega⟩
      · obtain ⟨a, b⟩ := nrun_pre t f (encG s n).2.2 { n with l := n.l + 1 }
        exact ⟨(List.prefix_append s _).trans a, by rw [encG_s] at b ⊢; simp at b ⊢; omega⟩
    · exact ⟨List.prefix_refl _, by simp only; omega⟩
theorem nrun_mir {bs S : List Int} (hS : Bi.bits S) (hB : Bi.Begins bs S) (t : Int) : ∀ (f : Nat) (s : List Int) (n n' : Nd), n'.l = n.l → n'.b = n.b → (nrun encG t f s n).2.1 <+: S →
    (nrun (decG bs) t f (Bi.P S s.length) n').1 = 0 ∧ (nrun (decG bs) t f (Bi.P S s.length) n').2.1 = Bi.P S (nrun encG t f s n).2.1.length ∧ (nrun (decG bs) t f (Bi.P S s.length) n').2.2.l = (nrun encG t f s n).2.2.l ∧ (nrun (decG bs) t f (Bi.P S s.length) n').2.2.b = (nrun encG t f s n).2.2.b
  | 0, s, n, n', hl, hb, _ => ⟨rfl, rfl, hl, hb⟩
  | f + 1, s, n, n', hl, hb, hp => by
    by_cases hc : n.l < t ∧ n.b = false
    · have hc' : n'.l < t ∧ n'.b = false := by rw [hl, hb]; exact hc
      have hpre : s ++ [(encG s n).1] <+: S := by
        unfold nrun at hp
        rw [if_pos hc, if_neg (encG_ok s n)] at hp
        split at hp
        · exact (nrun_pre t f _ _).1.trans hp
        · exact (nrun_pre t f _ _).1.trans hp
      have hj : s.length < S.length := by have := hpre.length_le; simp at this; omega
      obtain ⟨g1, g2, g3⟩ := Bi.get_at hS hB hj
      have hbit : S[s.length] = (encG s n).1 := by
        obtain ⟨c, rfl⟩ := hpre
        simp
      rw [hbit] at g2
      unfold nrun at hp ⊢
      rw [if_pos hc, if_neg (encG_ok s n)] at hp ⊢
      have d1 : (decG bs (Bi.P S s.length) n').2.1 = 0 := g1
      have d2 : (decG bs (Bi.P S s.length) n').1 = (encG s n).1 := g2
      have d3 : (decG bs (Bi.P S s.length) n').2.2 = Bi.P S (encG s n).2.2.length := by
        rw [encG_s, List.length_append, List.length_singleton]; exact g3
      rw [if_pos hc', if_neg (by rw [d1]; simp), d2, d3]
      by_cases h1 : (encG s n).1 = 1
      · rw [if_pos h1] at hp ⊢
        rw [if_pos h1]
        exact nrun_mir hS hB t f _ { n with b := true } { n' with b := true } hl rfl hp
      · rw [if_neg h1] at hp ⊢
        rw [if_neg h1]
        exact nrun_mir hS hB t f _ { n with l := n.l + 1 } { n' with l := n'.l + 1 } (by simp only; omega) hb hp
    · rw [nrun_stop encG t (f + 1) s n hc, nrun_stop (decG bs) t (f + 1) _ n' (by rw [hl, hb]; exact hc)]
      exact ⟨rfl, rfl, hl, hb⟩
theorem pst_enc (t : Int) (N : Nat → Nd) (D : Nat) (s : List Int) (j : Nat) : pst encG t N D s (j + 1) =
    ⟨(nrun encG t FU (pst encG t N D s j).s { N (D - 1 - j) with l := max (N (D - 1 - j)).l (pst encG t N D s j).low }).1, (nrun encG t FU (pst encG t N D s j).s { N (D - 1 - j) with l := max (N (D - 1 - j)).l (pst encG t N D s j).low }).2.1,
      (nrun encG t FU (pst encG t N D s j).s { N (D - 1 - j) with l := max (N (D - 1 - j)).l (pst encG t N D s j).low }).2.2.l, fun k => if k = D - 1 - j then (nrun encG t FU (pst encG t N D s j).s { N (D - 1 - j) with l := max (N (D - 1 - j)).l (pst encG t N D s j).low }).2.2 else (pst encG t N D s j).n k⟩ := by
  show (if (pst encG t N D s j).e ≠ 0 then _ else _) = _
  rw [if_neg (by rw [enc_e]; simp)]
theorem pst_pre (t : Int) (N : Nat → Nd) (D : Nat) (s : List Int) (j : Nat) : (pst encG t N D s j).s <+: (pst encG t N D s (j + 1)).s := by
  rw [pst_enc]
  exact (nrun_pre t FU _ _).1
theorem pst_pres (t : Int) (N : Nat → Nd) (D : Nat) (s : List Int) (j : Nat) : ∀ m, (pst encG t N D s j).s <+: (pst encG t N D s (j + m)).s
  | 0 => List.prefix_refl _
  | m + 1 => (pst_pres t N D s j m).trans (pst_pre t N D s (j + m))
theorem pst_len (t : Int) (N : Nat → Nd) (D : Nat) (s : List Int) : ∀ j, (pst encG t N D s j).s.length ≤ s.length + j * FU
  | 0 => by simp [pst]
  | j + 1 => by
    have ih := pst_len t N D s j
    rw [pst_enc]
    have := (nrun_pre t FU (pst encG t N D s j).s { N (D - 1 - j) with l := max (N (D - 1 - j)).l (pst encG t N D s j).low }).2
    rw [Nat.succ_mul]
    exact Nat.le_trans this (by omega)
theorem pst_J (t : Int) (N : Nat → Nd) (D : Nat) (s : List Int) (h0 : ∀ k, k < D → 0 ≤ (N k).l) (hJ : ∀ k, k < D → Jn (N k)) (hV : ∀ k, k + 1 < D → (N (k + 1)).v ≤ (N k).v) : ∀ j, j ≤ D →
    (∀ k, k < D → Jn ((pst encG t N D s j).n k) ∧ ((pst encG t N D s j).n k).v = (N k).v) ∧ (pst encG t N D s j).low ≤ if j = 0 then 0 else (N (D - j)).v
  | 0, _ => ⟨fun k hk => ⟨hJ k hk, rfl⟩, by simp [pst]⟩
  | j + 1, hj => by
    obtain ⟨k, hk⟩ : ∃ k, D = k + 1 + j := ⟨D - 1 - j, by omega⟩
    have hkD : k < D := by omega
    have hDk : D - 1 - j = k := by omega
    obtain ⟨i1, i2⟩ := pst_J t N D s h0 hJ hV j (by omega)
    have hlow : (pst encG t N D s j).low ≤ (N k).v := by
      split at i2
      · have := h0 k hkD; have := (hJ k hkD).1; omega
      · rw [show D - j = k + 1 by omega] at i2
        have := hV k (by omega)
        omega
    rw [pst_enc, hDk]
    have hj2 := hJ k hkD
    have hr := nrun_J t FU (pst encG t N D s j).s { N k with l := max (N k).l (pst encG t N D s j).low } ⟨by have := hj2.1; simp only; omega, fun hb => by have := hj2.2 hb; simp only; omega⟩
    generalize nrun encG t FU (pst encG t N D s j).s { N k with l := max (N k).l (pst encG t N D s j).low } = r at *
    refine ⟨fun i hi => ?_, ?_⟩
    · simp only
      by_cases h : i = k
      · rw [if_pos h, h]; exact hr
      · rw [if_neg h]; exact i1 i hi
    · simp only
      rw [if_neg (by omega), show D - (j + 1) = k by omega]
      have h1 := hr.1.1
      have h2 := hr.2
      simp only at h2
      omega
theorem pst_mir {bs S : List Int} (hS : Bi.bits S) (hB : Bi.Begins bs S) (t : Int) (N N' : Nat → Nd) (D : Nat) (s : List Int) (hN : ∀ k, (N' k).l = (N k).l ∧ (N' k).b = (N k).b) : ∀ j, (pst encG t N D s j).s <+: S →
    (pst (decG bs) t N' D (Bi.P S s.length) j).e = 0 ∧ (pst (decG bs) t N' D (Bi.P S s.length) j).s = Bi.P S (pst encG t N D s j).s.length ∧ (pst (decG bs) t N' D (Bi.P S s.length) j).low = (pst encG t N D s j).low ∧
    ∀ k, ((pst (decG bs) t N' D (Bi.P S s.length) j).n k).l = ((pst encG t N D s j).n k).l ∧ ((pst (decG bs) t N' D (Bi.P S s.length) j).n k).b = ((pst encG t N D s j).n k).b
  | 0, _ => ⟨rfl, rfl, rfl, hN⟩
  | j + 1, hp => by
    obtain ⟨i1, i2, i3, i4⟩ := pst_mir hS hB t N N' D s hN j ((pst_pre t N D s j).trans hp)
    have e : pst (decG bs) t N' D (Bi.P S s.length) (j + 1) = ⟨(nrun (decG bs) t FU (pst (decG bs) t N' D (Bi.P S s.length) j).s { N' (D - 1 - j) with l := max (N' (D - 1 - j)).l (pst (decG bs) t N' D (Bi.P S s.length) j).low }).1, (nrun (decG bs) t FU (pst (decG bs) t N' D (Bi.P S s.length) j).s { N' (D - 1 - j) with l := max (N' (D - 1 - j)).l (pst (decG bs) t N' D (Bi.P S s.length) j).low }).2.1,
      (nrun (decG bs) t FU (pst (decG bs) t N' D (Bi.P S s.length) j).s { N' (D - 1 - j) with l := max (N' (D - 1 - j)).l (pst (decG bs) t N' D (Bi.P S s.length) j).low }).2.2.l, fun k => if k = D - 1 - j then (nrun (decG bs) t FU (pst (decG bs) t N' D (Bi.P S s.length) j).s { N' (D - 1 - j) with l := max (N' (D - 1 - j)).l (pst (decG bs) t N' D (Bi.P S s.length) j).low }).2.2 else (pst (decG bs) t N' D (Bi.P S s.length) j).n k⟩ := by
      show (if (pst (decG bs) t N' D (Bi.P S s.length) j).e ≠ 0 then _ else _) = _
      rw [if_neg (by rw [i1]; simp)]
    rw [pst_enc] at hp ⊢
    rw [e, i2, i3]
    have hm := nrun_mir hS hB t FU (pst encG t N D s j).s { N (D - 1 - j) with l := max (N (D - 1 - j)).l (pst encG t N D s j).low } { N' (D - 1 - j) with l := max (N' (D - 1 - j)).l (pst encG t N D s j).low } (by simp only [(hN (D - 1 - j)).1]) (hN (D - 1 - j)).2 hp
    obtain ⟨m1, m2, m3, m4⟩ := hm
    refine ⟨m1, m2, m3, fun k => ?_⟩
    simp only
    by_cases h : k = D - 1 - j
    · rw [if_pos h, if_pos h]; exact ⟨m3, m4⟩
    · rw [if_neg h, if_neg h]; exact i4 k
/-- All nodes of an encoder. -/
def JQ (w h D : Nat) (f : Nat → Nat → Int) (Q : Nat → Nat → Nat → Nd) : Prop := ∀ k X Y, k < D → X < dm w k → Y < dm h k → Jn (Q k X Y) ∧ (Q k X Y).v = mv w h f k X Y
theorem jq_new {w h D : Nat} {f : Nat → Nat → Int} (hf : ∀ x y, 0 ≤ f x y ∧ f x y ≤ 65535) : JQ w h D f (mkQ w h f xl0 xb0) := fun k X Y _ _ _ =>
  ⟨⟨(mv_bd w h f hf k X Y).1, fun hb => absurd hb (by show ¬ false = true; decide)⟩, rfl⟩
def Lq (Q R : Nat → Nat → Nat → Nd) : Prop := ∀ k X Y, (R k X Y).l = (Q k X Y).l ∧ (R k X Y).b = (Q k X Y).b
theorem mir_step {w h D : Nat} {f : Nat → Nat → Int} {Q R : Nat → Nat → Nat → Nd} {u u' : Int} {s bs S : List Int} {x y t : Int} (hD : 1 ≤ D) (hJ : JQ w h D f Q) (hq : ∀ k x y, 0 ≤ (Q k x y).l ∧ (Q k x y).l ≤ 65536) (hL : Lq Q R) (hok : okT w h x y t 65536) (hu : u ≠ 2) (hu' : u' ≠ 1)
    (hS : Bi.bits S) (hB : Bi.Begins bs S) (hp : enS Q w h D u s x y t <+: S) :
    deE bs R w h D u' (Bi.P S s.length) x y t = 0 ∧ deT bs R w h D u' (Bi.P S s.length) x y t = Bi.P S (enS Q w h D u s x y t).length ∧ deU bs R w h D u' (Bi.P S s.length) x y t = 2 ∧
    Lq (enQ Q w h D u s x y t) (deQ bs R w h D u' (Bi.P S s.length) x y t) ∧ deB bs R w h D u' (Bi.P S s.length) x y t = decide (f x.toNat y.toNat < t) ∧
    (f x.toNat y.toNat < t → vlV w h (deQ bs R w h D u' (Bi.P S s.length) x y t) x y = f x.toNat y.toNat ∧ vlB w h (deQ bs R w h D u' (Bi.P S s.length) x y t) x y = true) := by
  have hn1 : ¬ (u = 2 ∨ ¬ okT w h x y t 65536) := fun c => c.elim hu (fun c => c hok)
  have hn2 : ¬ (u' = 1 ∨ ¬ okT w h x y t 65536) := fun c => c.elim hu' (fun c => c hok)
  have e1 : enQ Q w h D u s x y t = upP Q x.toNat y.toNat (enP Q D s x.toNat y.toNat t).n D := by unfold enQ; rw [if_neg hn1]
  have e2 : enS Q w h D u s x y t = (enP Q D s x.toNat y.toNat t).s := by unfold enS; rw [if_neg hn1]
  rw [e2] at hp
  obtain ⟨⟨x1, x2, y1, y2⟩, t1, t2⟩ := id hok
  have hX : x.toNat < w := by omega
  have hY : y.toNat < h := by omega
  have hin : inT w h x y := hok.1
  have mir := pst_mir hS hB t (fun k => Q k (x.toNat / 2 ^ k) (y.toNat / 2 ^ k)) (fun k => R k (x.toNat / 2 ^ k) (y.toNat / 2 ^ k)) D s (fun k => hL _ _ _) D hp
  have hee : (deP bs R D (Bi.P S s.length) x.toNat y.toNat t).e = 0 := mir.1
  have he : deE bs R w h D u' (Bi.P S s.length) x y t = 0 := by unfold deE; rw [if_neg hu', if_pos hok]; exact hee
  have hpath : ∀ k, k < D → Jn (Q k (x.toNat / 2 ^ k) (y.toNat / 2 ^ k)) ∧ (Q k (x.toNat / 2 ^ k) (y.toNat / 2 ^ k)).v = mv w h f k (x.toNat / 2 ^ k) (y.toNat / 2 ^ k) := fun k hk => hJ k _ _ hk (dm_at hX k) (dm_at hY k)
  have hJ2 := pst_J t (fun k => Q k (x.toNat / 2 ^ k) (y.toNat / 2 ^ k)) D s (fun k _ => (hq _ _ _).1) (fun k hk => (hpath k hk).1) (fun k hk => by
    show (Q (k + 1) _ _).v ≤ (Q k _ _).v
    rw [(hpath (k + 1) hk).2, (hpath k (by omega)).2]
    exact mv_up w h f hX hY k) D (Nat.le_refl _)
  have hdn := (pst_dn encG t t2 (fun k => Q k (x.toNat / 2 ^ k) (y.toNat / 2 ^ k)) (fun k => hq _ _ _) D s D (Nat.le_refl _) (enc_e _ _ _ _ _)).dn 0 (by omega) hD
  have hJ0 := hJ2.1 0 hD
  have hv0 : ((enP Q D s x.toNat y.toNat t).n 0).v = f x.toNat y.toNat := by
    have := hJ0.2
    show ((pst encG t (fun k => Q k (x.toNat / 2 ^ k) (y.toNat / 2 ^ k)) D s D).n 0).v = _
    rw [this, (hpath 0 hD).2]
    simp [mv]
  have hq0 : deQ bs R w h D u' (Bi.P S s.length) x y t = upP R x.toNat y.toNat (deP bs R D (Bi.P S s.length) x.toNat y.toNat t).n D := by unfold deQ; rw [if_pos he]
  have hlb : ((deP bs R D (Bi.P S s.length) x.toNat y.toNat t).n 0).l = ((enP Q D s x.toNat y.toNat t).n 0).l ∧ ((deP bs R D (Bi.P S s.length) x.toNat y.toNat t).n 0).b = ((enP Q D s x.toNat y.toNat t).n 0).b := mir.2.2.2 0
  have hJn : Jn ((enP Q D s x.toNat y.toNat t).n 0) := hJ0.1
  have hdn' : ((enP Q D s x.toNat y.toNat t).n 0).b = true ∨ t ≤ ((enP Q D s x.toNat y.toNat t).n 0).l := hdn
  have h00 : upP R x.toNat y.toNat (deP bs R D (Bi.P S s.length) x.toNat y.toNat t).n D 0 x.toNat y.toNat = (deP bs R D (Bi.P S s.length) x.toNat y.toNat t).n 0 := by
    unfold upP
    rw [if_pos ⟨hD, by simp, by simp⟩]
  refine ⟨he, ?_, ?_, ?_, ?_, ?_⟩
  · unfold deT
    rw [if_neg hn2, e2]
    exact mir.2.1
  · unfold deU; rw [if_pos he]
  · rw [e1, hq0]
    intro k X Y
    unfold upP
    by_cases hc : k < D ∧ X = x.toNat / 2 ^ k ∧ Y = y.toNat / 2 ^ k
    · rw [if_pos hc, if_pos hc]
      exact mir.2.2.2 k
    · rw [if_neg hc, if_neg hc]
      exact hL k X Y
  · unfold deB
    rw [if_pos he, hlb.1, hlb.2]
    cases hb : ((enP Q D s x.toNat y.toNat t).n 0).b with
    | true =>
      have := hJn.2 hb
      rw [this, hv0]
      simp
    | false =>
      rcases hdn' with h1 | h1
      · rw [hb] at h1; exact absurd h1 (by decide)
      · have := hJn.1
        rw [hv0] at this
        rw [Bool.false_and]
        exact (decide_eq_false (by omega)).symm
  · intro hlt
    have hb : ((enP Q D s x.toNat y.toNat t).n 0).b = true := by
      rcases hdn' with h1 | h1
      · exact h1
      · have := hJn.1
        rw [hv0] at this
        omega
    have hl := hJn.2 hb
    rw [hq0]
    unfold vlV vlB
    rw [h00, hlb.2, hb, hlb.1, if_pos ⟨hin, rfl⟩, decide_eq_true hin, hl, hv0]
    exact ⟨rfl, rfl⟩
theorem jq_enc {w h D : Nat} {f : Nat → Nat → Int} {Q : Nat → Nat → Nat → Nd} {u : Int} {s : List Int} {x y t : Int} (hJ : JQ w h D f Q) (hq : ∀ k x y, 0 ≤ (Q k x y).l ∧ (Q k x y).l ≤ 65536) : JQ w h D f (enQ Q w h D u s x y t) ∧ s <+: enS Q w h D u s x y t ∧ (enS Q w h D u s x y t).length ≤ s.length + D * FU := by
  unfold enQ enS
  by_cases hn1 : u = 2 ∨ ¬ okT w h x y t 65536
  · rw [if_pos hn1, if_pos hn1]
    exact ⟨hJ, List.prefix_refl _, by omega⟩
  rw [if_neg hn1, if_neg hn1]
  have hok : okT w h x y t 65536 := by
    by_cases hc : okT w h x y t 65536
    · exact hc
    · exact absurd (.inr hc) hn1
  obtain ⟨⟨x1, x2, y1, y2⟩, t1, t2⟩ := id hok
  have hX : x.toNat < w := by omega
  have hY : y.toNat < h := by omega
  have hpath : ∀ k, k < D → Jn (Q k (x.toNat / 2 ^ k) (y.toNat / 2 ^ k)) ∧ (Q k (x.toNat / 2 ^ k) (y.toNat / 2 ^ k)).v = mv w h f k (x.toNat / 2 ^ k) (y.toNat / 2 ^ k) := fun k hk => hJ k _ _ hk (dm_at hX k) (dm_at hY k)
  have hJ2 := pst_J t (fun k => Q k (x.toNat / 2 ^ k) (y.toNat / 2 ^ k)) D s (fun k _ => (hq _ _ _).1) (fun k hk => (hpath k hk).1) (fun k hk => by
    show (Q (k + 1) _ _).v ≤ (Q k _ _).v
    rw [(hpath (k + 1) hk).2, (hpath k (by omega)).2]
    exact mv_up w h f hX hY k) D (Nat.le_refl _)
  refine ⟨fun k X Y hk hX' hY' => ?_, ?_, pst_len _ _ _ _ _⟩
  · unfold upP
    by_cases hc : k < D ∧ X = x.toNat / 2 ^ k ∧ Y = y.toNat / 2 ^ k
    · rw [if_pos hc]
      obtain ⟨_, rfl, rfl⟩ := hc
      refine ⟨(hJ2.1 k hk).1, ?_⟩
      have := (hJ2.1 k hk).2
      exact this.trans (hpath k hk).2
    · rw [if_neg hc]
      exact hJ k X Y hk hX' hY'
  · have := pst_pres t (fun k => Q k (x.toNat / 2 ^ k) (y.toNat / 2 ^ k)) D s 0 D
    rw [Nat.zero_add] at this
    exact this
theorem dep_small {w h : Nat} (h1 : 1 ≤ w) (h2 : 1 ≤ h) (h3 : w ≤ 64) (h4 : h ≤ 64) : dep w h ≤ 7 := by
  unfold dep
  have h5 : max w h - 1 ≤ 63 := by omega
  generalize max w h - 1 = m at *
  have : ∀ m : Fin 64, 1 + Lib.bitLen m.1 ≤ 7 := by decide +kernel
  exact this ⟨m, by omega⟩
/-- What the accepted calls wrote, and the nodes. -/
def stp (w h D : Nat) (p : List Int × (Nat → Nat → Nat → Nd)) (o : OpT) : List Int × (Nat → Nat → Nat → Nd) := (enS p.2 w h D 0 p.1 o.x o.y o.v, enQ p.2 w h D 0 p.1 o.x o.y o.v)
def hist (w h D : Nat) (Q0 : Nat → Nat → Nat → Nd) (G : List OpT) : List Int × (Nat → Nat → Nat → Nd) := G.foldl (stp w h D) ([], Q0)
theorem hist_snoc (w h D : Nat) (Q0 : Nat → Nat → Nat → Nd) (G : List OpT) (o : OpT) : hist w h D Q0 (G ++ [o]) = stp w h D (hist w h D Q0 G) o := by simp [hist]
theorem enS_u {Q : Nat → Nat → Nat → Nd} {w h D : Nat} {u : Int} {s : List Int} {x y t : Int} (hu : u ≠ 2) : enS Q w h D u s x y t = enS Q w h D 0 s x y t ∧ enQ Q w h D u s x y t = enQ Q w h D 0 s x y t := by
  unfold enS enQ
  by_cases hok : okT w h x y t 65536
  · have h1 : ¬ (u = 2 ∨ ¬ okT w h x y t 65536) := fun c => c.elim hu (fun c => c hok)
    have h2 : ¬ ((0 : Int) = 2 ∨ ¬ okT w h x y t 65536) := fun c => c.elim (by omega) (fun c => c hok)
    simp only [if_neg h1, if_neg h2, and_self]
  · have h1 : u = 2 ∨ ¬ okT w h x y t 65536 := .inr hok
    have h2 : (0 : Int) = 2 ∨ ¬ okT w h x y t 65536 := .inr hok
    simp only [if_pos h1, if_pos h2, and_self]
theorem qb_enc {w h D : Nat} {Q : Nat → Nat → Nat → Nd} {u : Int} {s : List Int} {x y t : Int} (hq : ∀ k x y, 0 ≤ (Q k x y).l ∧ (Q k x y).l ≤ 65536) : ∀ k a b, 0 ≤ (enQ Q w h D u s x y t k a b).l ∧ (enQ Q w h D u s x y t k a b).l ≤ 65536 := by
  intro k a b
  unfold enQ
  by_cases hn1 : u = 2 ∨ ¬ okT w h x y t 65536
  · rw [if_pos hn1]; exact hq k a b
  rw [if_neg hn1]
  have hok : okT w h x y t 65536 := by
    by_cases hc : okT w h x y t 65536
    · exact hc
    · exact absurd (.inr hc) hn1
  have := pst_bd encG t hok.2.2 (fun k => Q k (x.toNat / 2 ^ k) (y.toNat / 2 ^ k)) D s (fun k => hq _ _ _) D
  unfold upP
  by_cases hc : k < D ∧ a = x.toNat / 2 ^ k ∧ b = y.toNat / 2 ^ k
  · rw [if_pos hc]; exact this.2.1 k
  · rw [if_neg hc]; exact hq k a b
theorem hist_go {w h D : Nat} {f : Nat → Nat → Int} : ∀ (G : List OpT) (p : List Int × (Nat → Nat → Nat → Nd)), JQ w h D f p.2 → (∀ k x y, 0 ≤ (p.2 k x y).l ∧ (p.2 k x y).l ≤ 65536) →
    JQ w h D f (G.foldl (stp w h D) p).2 ∧ (∀ k x y, 0 ≤ ((G.foldl (stp w h D) p).2 k x y).l ∧ ((G.foldl (stp w h D) p).2 k x y).l ≤ 65536) ∧ (G.foldl (stp w h D) p).1.length ≤ p.1.length + G.length * (D * FU) ∧ p.1 <+: (G.foldl (stp w h D) p).1
  | [], p, hJ, hq => ⟨hJ, hq, by simp, List.prefix_refl _⟩
  | o :: G, p, hJ, hq => by
    obtain ⟨a, b, c⟩ := jq_enc (u := 0) (s := p.1) (x := o.x) (y := o.y) (t := o.v) hJ hq
    obtain ⟨i1, i2, i3, i4⟩ := hist_go G (stp w h D p o) a (qb_enc hq)
    refine ⟨i1, i2, ?_, b.trans i4⟩
    have c' : (stp w h D p o).1.length ≤ p.1.length + D * FU := c
    rw [List.length_cons, Nat.succ_mul, List.foldl_cons]
    omega
theorem hist_ok {w h D : Nat} {f : Nat → Nat → Int} {Q0 : Nat → Nat → Nat → Nd} (hJ : JQ w h D f Q0) (hq : ∀ k x y, 0 ≤ (Q0 k x y).l ∧ (Q0 k x y).l ≤ 65536) (G : List OpT) :
    JQ w h D f (hist w h D Q0 G).2 ∧ (∀ k x y, 0 ≤ ((hist w h D Q0 G).2 k x y).l ∧ ((hist w h D Q0 G).2 k x y).l ≤ 65536) ∧ (hist w h D Q0 G).1.length ≤ G.length * (D * FU) := by
  obtain ⟨a, b, c, _⟩ := hist_go (f := f) G ([], Q0) hJ hq
  exact ⟨a, b, by simpa [hist] using c⟩
theorem hist_pre {w h D : Nat} {f : Nat → Nat → Int} {Q0 : Nat → Nat → Nat → Nd} (hJ : JQ w h D f Q0) (hq : ∀ k x y, 0 ≤ (Q0 k x y).l ∧ (Q0 k x y).l ≤ 65536) (G : List OpT) (i : Nat) : (hist w h D Q0 (G.take i)).1 <+: (hist w h D Q0 G).1 := by
  obtain ⟨a, b, _⟩ := hist_ok hJ hq (G.take i)
  have := (hist_go (f := f) (G.drop i) (hist w h D Q0 (G.take i)) a b).2.2.2
  unfold hist at this ⊢
  rwa [← List.foldl_append, List.take_append_drop] at this
/-- One call is decoded as it was encoded. -/
theorem ret_step {w h D : Nat} {f : Nat → Nat → Int} {G : List OpT} {j : Nat} {R : Nat → Nat → Nat → Nd} {u' : Int} {bs : List Int} (hD : 1 ≤ D) (hf : ∀ x y, 0 ≤ f x y ∧ f x y ≤ 65535) (hj : j < G.length) (hL : Lq (hist w h D (mkQ w h f xl0 xb0) (G.take j)).2 R) (hok : okT w h G[j].x G[j].y G[j].v 65536) (hu' : u' ≠ 1)
    (hS : Bi.bits (hist w h D (mkQ w h f xl0 xb0) G).1) (hB : Bi.Begins bs (hist w h D (mkQ w h f xl0 xb0) G).1) {tt : Nat} (ht : tt = Bi.P (hist w h D (mkQ w h f xl0 xb0) G).1 (hist w h D (mkQ w h f xl0 xb0) (G.take j)).1.length) :
    deE bs R w h D u' tt G[j].x G[j].y G[j].v = 0 ∧ deT bs R w h D u' tt G[j].x G[j].y G[j].v = Bi.P (hist w h D (mkQ w h f xl0 xb0) G).1 (hist w h D (mkQ w h f xl0 xb0) (G.take (j + 1))).1.length ∧ deU bs R w h D u' tt G[j].x G[j].y G[j].v = 2 ∧
    Lq (hist w h D (mkQ w h f xl0 xb0) (G.take (j + 1))).2 (deQ bs R w h D u' tt G[j].x G[j].y G[j].v) ∧ deB bs R w h D u' tt G[j].x G[j].y G[j].v = decide (f G[j].x.toNat G[j].y.toNat < G[j].v) ∧
    (f G[j].x.toNat G[j].y.toNat < G[j].v → vlV w h (deQ bs R w h D u' tt G[j].x G[j].y G[j].v) G[j].x G[j].y = f G[j].x.toNat G[j].y.toNat ∧ vlB w h (deQ bs R w h D u' tt G[j].x G[j].y G[j].v) G[j].x G[j].y = true) := by
  subst ht
  have hJ0 := jq_new (w := w) (h := h) (D := D) hf
  have hq0 : ∀ k x y, 0 ≤ (mkQ w h f xl0 xb0 k x y).l ∧ (mkQ w h f xl0 xb0 k x y).l ≤ 65536 := fun k x y => ⟨Int.le_refl _, by show (0 : Int) ≤ 65536; omega⟩
  obtain ⟨a, b, _⟩ := hist_ok hJ0 hq0 (G.take j)
  have hpre := hist_pre hJ0 hq0 G (j + 1)
  have hs : hist w h D (mkQ w h f xl0 xb0) (G.take (j + 1)) = stp w h D (hist w h D (mkQ w h f xl0 xb0) (G.take j)) G[j] := by
    rw [List.take_succ_eq_append_getElem hj, hist_snoc]
  rw [hs] at hpre ⊢
  exact mir_step (u := 0) hD a b hL hok (by omega) hu' hS hB hpre
end Go.Proofs.Ytaddendclipkkaa
