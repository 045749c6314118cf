/-
  The code's reader of layer 9: Gamma, Unary; a call of a reader.
-/
import Derived.Test.YtdhjmbjpigiadaaRc
set_option maxRecDepth 100000
namespace Go.Proofs.Ytdhjmbjpigiadaa
open Go.RowKit

set_option maxHeartbeats 1000000 in
theorem gam1_c (w : World) (B a bx : Nat) (bs : List Int) (t : Nat) (hR : Rd w B a bs t) (ht : t ≤ 8 * bs.length) (hb : Bi.bytes bs) (hl : bs.length ≤ 100000000)
    (h1 : w.cell? ⟨bx, 0, none⟩ = some (.pointer (some ⟨a, 0, none⟩))) (hbx : bx < w.heap.size) (hna : ¬ Fp w a bx) :
    Calls Try.prog 92 #[.pointer (some ⟨bx, 0, none⟩)] w (RGives B a bs (Bi.rgam bs t).2.2 (Bi.rgam bs t).1 (Bi.rgam bs t).2.1 w) := by
  have hr : Calls Try.prog 93 #[.pointer (some ⟨a, 0, none⟩), .int .i64 0, .int .i64 31] w (RGives B a bs (Bi.rrun bs 0 32 0 t).2.2 (Bi.rrun bs 0 32 0 t).1 (Bi.rrun bs 0 32 0 t).2.1 w) := rrun_c w B a bs t 31 0 hR ht hb hl (by decide)
  have hle := Bi.rrun_le (q := 0) 32 0 t ht
  unfold Bi.rgam
  rcases Bi.rrun_err bs 0 32 0 t with hE | hE | hE
  · obtain ⟨j, hj, hj2⟩ := Bi.rrun_num 32 0 t hE
    rw [if_pos hE]
    rw [hE, hj] at hr
    rw [hj]
    have hj32 : j < 32 := by omega
    clear hE hj hj2
    generalize (Bi.rrun bs 0 32 0 t).2.2 = t2 at *
    have hd := fun (x : World) (h : Rd x B a bs t2) => rdigits_c x B a bs t2 j 1 h hle hb hl (by omega) (by decide)
    simp only [Int.toNat_natCast]
    generalize Bi.rdg bs j t2 1 = R at *
    go_enter Try.func92, Try.ntmps92
    go_wp2_with (first | (go_at_call 93; (with_reducible refine hr.mono ?_); rintro e x1 ⟨rfl, hR1, hK1⟩; have h2 : x1.cell? ⟨bx, 0, none⟩ = some (.pointer (some ⟨a, 0, none⟩)) := (World.cell?_of_block (w := w) (hK1.block bx hbx hna)).trans h1) | (go_at_call 91; (with_reducible refine (hd _ hR1).mono ?_); rintro e x2 ⟨rfl, hR2, hK2⟩))
    go_ret2
    exact ⟨rfl, hR2, hK1.trans hK2⟩
  · rw [if_neg (by rw [hE]; decide)]
    rw [hE] at hr ⊢
    clear hE
    generalize (Bi.rrun bs 0 32 0 t).1 = v1 at *
    generalize (Bi.rrun bs 0 32 0 t).2.2 = t2 at *
    go_enter Try.func92, Try.ntmps92
    go_wp2_with (first | (go_at_call 93; (with_reducible refine hr.mono ?_); rintro e x1 ⟨rfl, hR1, hK1⟩))
    go_ret2
    exact ⟨rfl, hR1, hK1⟩
  · rw [if_neg (by rw [hE]; decide)]
    rw [hE] at hr ⊢
    clear hE
    generalize (Bi.rrun bs 0 32 0 t).1 = v1 at *
    generalize (Bi.rrun bs 0 32 0 t).2.2 = t2 at *
    go_enter Try.func92, Try.ntmps92
    go_wp2_with (first | (go_at_call 93; (with_reducible refine hr.mono ?_); rintro e x1 ⟨rfl, hR1, hK1⟩))
    go_ret2
    exact ⟨rfl, hR1, hK1⟩
/-- What a call of a reader returns: the number, the error, the place. -/
def fst3 (R : Int × Int × Nat) (t : Nat) : Int × Int × Nat := (R.1, R.2.1, if R.2.1 = 0 then R.2.2 else t)
set_option maxHeartbeats 1000000 in
theorem rgam_c (w : World) (B a : Nat) (bs : List Int) (t : Nat) (hR : Rd w B a bs t) (ht : t ≤ 8 * bs.length) (hb : Bi.bytes bs) (hl : bs.length ≤ 100000000) :
    Calls Try.prog 64 #[.pointer (some ⟨a, 0, none⟩)] w (RGives B a bs (fst3 (Bi.rgam bs t) t).2.2 (fst3 (Bi.rgam bs t) t).1 (fst3 (Bi.rgam bs t) t).2.1 w) := by
  have hA : Below w.heap.size w (w.alloc (.cells #[.pointer (some ⟨a, 0, none⟩)] 38)) := below_alloc (Below.refl _ _) _
  obtain ⟨hR1, hK1⟩ := made_low hR hA
  have c1 := hR1.made
  have hna : ¬ Fp (w.alloc (.cells #[.pointer (some ⟨a, 0, none⟩)] 38)) a w.heap.size := by
    rintro (h | ⟨v, hv, hk⟩)
    · have := hR.lt; omega
    · have := (hR.foot w.heap.size (.inr ⟨v, by rw [hA.cell (p := ⟨a, 1, none⟩) hR.lt] at hv; exact hv, hk⟩)).2
      omega
  have hC := gam1_c _ B a w.heap.size bs t hR1 ht hb hl (by simp) (by simp) hna
  have hW := whole_c _ B a bs t _ _ _ 92 _ hR1 (enters_of (fn := Try.f92) (by kernel_rfl) (by kernel_rfl) rfl) hC (Bi.rgam_err bs t)
  simp only [fst3]
  clear hC hna
  generalize Bi.rgam bs t = R at *
  generalize (if R.2.1 = 0 then R.2.2 else t) = T at *
  go_enter Try.func64, Try.ntmps64
  go_wp2_with (first | (go_at_call 70; refine (rmade_y _ _ c1).mono ?_; rintro e wn ⟨rfl, rfl⟩) | (go_at_call 89; (with_reducible refine hW.mono ?_); rintro e wn ⟨rfl, hR2, hK2⟩))
  go_ret2
  exact ⟨rfl, hR2, hK1.trans hK2⟩
set_option maxHeartbeats 1000000 in
theorem una1_c (w : World) (B a bx bn : Nat) (bs : List Int) (t n : Nat) (hR : Rd w B a bs t) (ht : t ≤ 8 * bs.length) (hb : Bi.bytes bs) (hl : bs.length ≤ 100000000) (hn : n ≤ 65535)
    (h1 : w.cell? ⟨bx, 0, none⟩ = some (.pointer (some ⟨a, 0, none⟩))) (h2 : w.cell? ⟨bn, 0, none⟩ = some (.int .i64 n)) :
    Calls Try.prog 94 #[.pointer (some ⟨bx, 0, none⟩), .pointer (some ⟨bn, 0, none⟩)] w (RGives B a bs (Bi.rrun bs 1 (n + 1) 0 t).2.2 (Bi.rrun bs 1 (n + 1) 0 t).1 (Bi.rrun bs 1 (n + 1) 0 t).2.1 w) := by
  have hd := rrun_c w B a bs t n 1 hR ht hb hl hn
  go_enter Try.func94, Try.ntmps94
  go_wp2_with (first | (go_at_call 93; (with_reducible refine hd.mono ?_); rintro e wn ⟨rfl, hR2, hK2⟩))
  go_ret2
  exact ⟨rfl, hR2, hK2⟩
def ruR (bs : List Int) (t : Nat) (n : Int) : Int × Int × Nat := if unB n then fst3 (Bi.rrun bs 1 (n.toNat + 1) 0 t) t else (0, 1, t)
set_option maxHeartbeats 1000000 in
theorem runa_c (w : World) (B a : Nat) (bs : List Int) (t : Nat) (n : Int) (hR : Rd w B a bs t) (ht : t ≤ 8 * bs.length) (hb : Bi.bytes bs) (hl : bs.length ≤ 100000000) :
    Calls Try.prog 65 #[.pointer (some ⟨a, 0, none⟩), .int .i64 n] w (RGives B a bs (ruR bs t n).2.2 (ruR bs t n).1 (ruR bs t n).2.1 w) := by
  have hA : Below w.heap.size w ((w.alloc (.cells #[.pointer (some ⟨a, 0, none⟩)] 38)).alloc (.cells #[.int .i64 n] 3)) := below_alloc (below_alloc (Below.refl _ _) _) _
  obtain ⟨hR1, hK1⟩ := made_low hR hA
  have c1 := hR1.made
  unfold ruR
  have hi := isU_c n
  cases hd : unB n with
  | false =>
    rw [hd] at hi
    go_enter Try.func65, Try.ntmps65
    go_wp2_with (first | (go_at_call 70; refine (rmade_y _ _ c1).mono ?_; rintro e wn ⟨rfl, rfl⟩) | (go_at_call 85; refine (hi _).mono ?_; rintro e wn ⟨rfl, rfl⟩))
    go_ret2
    exact ⟨rfl, hR1, hK1⟩
  | true =>
    rw [hd] at hi
    have hd' : 0 ≤ n ∧ n ≤ 65535 := by simpa [unB] using hd
    obtain ⟨k, rfl⟩ : ∃ k : Nat, n = k := ⟨n.toNat, by omega⟩
    have hk : k ≤ 65535 := by omega
    have hC := una1_c _ B a w.heap.size (w.heap.size + 1) bs t k hR1 ht hb hl hk (by simp) (by simp)
    have hW := whole_c _ B a bs t _ _ _ 94 _ hR1 (enters_of (fn := Try.f94) (by kernel_rfl) (by kernel_rfl) rfl) hC (Bi.rrun_err bs 1 (k + 1) 0 t)
    simp only [Int.toNat_natCast, if_true, fst3]
    clear hC hd hd'
    generalize Bi.rrun bs 1 (k + 1) 0 t = R at *
    generalize (if R.2.1 = 0 then R.2.2 else t) = T at *
    go_enter Try.func65, Try.ntmps65
    go_wp2_with (first | (go_at_call 70; refine (rmade_y _ _ c1).mono ?_; rintro e wn ⟨rfl, rfl⟩) | (go_at_call 85; refine (hi _).mono ?_; rintro e wn ⟨rfl, rfl⟩) | (go_at_call 89; (with_reducible refine hW.mono ?_); rintro e wn ⟨rfl, hR2, hK2⟩))
    go_ret2
    exact ⟨rfl, hR2, hK1.trans hK2⟩
/-- A call of a reader: the number, the error, the place. -/
def rdR (bs : List Int) (t : Nat) (k n : Int) : Int × Int × Nat :=
  if k = 0 then (Bi.gR bs t, Bi.gE bs t, Bi.gN bs t) else if k = 1 then (rbV bs t n, rbE bs t n, rbT bs t n) else if k = 2 then fst3 (Bi.rgam bs t) t else if k = 3 then ruR bs t n else if k = 4 then alR bs t else (0, 0, t)
set_option maxHeartbeats 1000000 in
theorem read_c (w : World) (B a : Nat) (bs : List Int) (t : Nat) (k v n : Int) (hR : Rd w B a bs t) (ht : t ≤ 8 * bs.length) (hb : Bi.bytes bs) (hl : bs.length ≤ 100000000) :
    Calls Try.prog 31 #[.pointer (some ⟨a, 0, none⟩), .agg #[.int .i64 k, .int .i64 v, .int .i64 n]] w (RGives B a bs (rdR bs t k n).2.2 (rdR bs t k n).1 (rdR bs t k n).2.1 w) := by
  have hA : Below w.heap.size w (w.alloc (.cells #[.int .i64 k, .int .i64 v, .int .i64 n] 30)) := (Below.refl _ _).alloc (Nat.le_refl _) _
  obtain ⟨hR1, hK⟩ := made_low hR hA
  have h0 := get_c _ B a bs t hR1 ht hb hl
  have h1 := rbits_c _ B a bs t n hR1 ht hb hl
  have h2 := rgam_c _ B a bs t hR1 ht hb hl
  have h3 := runa_c _ B a bs t n hR1 ht hb hl
  have h4 := align_c _ B a bs t hR1 ht hb hl
  unfold rdR
  by_cases e0 : k = 0
  · subst e0
    go_enter Try.func31, Try.ntmps31
    go_wp2_with (first | (go_at_call 34; (with_reducible refine h0.mono ?_); rintro e wn ⟨rfl, hR2, hK2⟩))
    go_ret2
    exact ⟨rfl, hR2, hK.trans hK2⟩
  by_cases e1 : k = 1
  · subst e1
    go_enter Try.func31, Try.ntmps31
    go_wp2_with (first | (go_at_call 56; (with_reducible refine h1.mono ?_); rintro e wn ⟨rfl, hR2, hK2⟩))
    go_ret2
    exact ⟨rfl, hR2, hK.trans hK2⟩
  by_cases e2 : k = 2
  · subst e2
    go_enter Try.func31, Try.ntmps31
    go_wp2_with (first | (go_at_call 64; (with_reducible refine h2.mono ?_); rintro e wn ⟨rfl, hR2, hK2⟩))
    go_ret2
    exact ⟨rfl, hR2, hK.trans hK2⟩
  by_cases e3 : k = 3
  · subst e3
    go_enter Try.func31, Try.ntmps31
    go_wp2_with (first | (go_at_call 65; (with_reducible refine h3.mono ?_); rintro e wn ⟨rfl, hR2, hK2⟩))
    go_ret2
    exact ⟨rfl, hR2, hK.trans hK2⟩
  by_cases e4 : k = 4
  · subst e4
    go_enter Try.func31, Try.ntmps31
    go_wp2_with (first | (go_at_call 33; (with_reducible refine h4.mono ?_); rintro e wn ⟨rfl, hR2, hK2⟩))
    go_ret2
    exact ⟨rfl, hR2, hK.trans hK2⟩
  · have q0 : (k == 0) = false := by simpa using e0
    have q1 : (k == 1) = false := by simpa using e1
    have q2 : (k == 2) = false := by simpa using e2
    have q3 : (k == 3) = false := by simpa using e3
    have q4 : (k == 4) = false := by simpa using e4
    rw [if_neg e0, if_neg e1, if_neg e2, if_neg e3, if_neg e4]
    clear e0 e1 e2 e3 e4
    go_enter Try.func31, Try.ntmps31
    go_wp2_with fail
    go_ret2
    exact ⟨rfl, hR1, hK⟩
end Go.Proofs.Ytdhjmbjpigiadaa
