/-
  Lists of planes in memory; what errors a transform of them meets.
-/
import Derived.Test.YtadkcgpkbcgeoaaCoU
import Derived.Shelf.Abstract
set_option maxRecDepth 100000
namespace Go.Proofs.Ytadkcgpkbcgeoaa
open Go.RowKit

structure Pn where
  r : Pl.R
  s : Option Addr
  l : List Int
  m : Nat
def Pn.v (p : Pn) : Value := .agg #[.int .i64 p.r.x0, .int .i64 p.r.y0, .int .i64 p.r.x1, .int .i64 p.r.y1, .slice p.s p.l.length p.m]
def PlAt (w : World) (b o : Nat) (p : Pn) : Prop := RectAt w b o p.r ∧ w.cell? ⟨b, o + 4, none⟩ = some (.slice p.s p.l.length p.m)
def PlsAt (w : World) (b off : Nat) (ps : List Pn) : Prop := ∀ k (_ : k < ps.length), PlAt w b (off + k * 5) ps[k]
def HoldsP (w : World) (a : Option Addr) (ps : List Pn) : Prop := ps = [] ∨ ∃ b off, a = some ⟨b, off, none⟩ ∧ PlsAt w b off ps
def HoldsL (w : World) (ps : List Pn) : Prop := ∀ p ∈ ps, HoldsI w p.s p.l
theorem PlAt.below {W w1 : World} {b o : Nat} {p : Pn} (h : PlAt W b o p) (hb : Below W.heap.size W w1) : PlAt w1 b o p :=
  ⟨h.1.below hb (cell_lt h.2), (hb.cell (p := ⟨b, o + 4, none⟩) (cell_lt h.2)).trans h.2⟩
theorem HoldsP.call {W w1 : World} {a : Option Addr} {ps : List Pn} (h : HoldsP W a ps) (hb : Below W.heap.size W w1) : HoldsP w1 a ps := by
  rcases h with h | ⟨b, off, e, hr⟩
  · exact .inl h
  · exact .inr ⟨b, off, e, fun k hk => (hr k hk).below hb⟩
theorem HoldsL.call {W w1 : World} {ps : List Pn} (h : HoldsL W ps) (hb : Below W.heap.size W w1) : HoldsL w1 ps := fun p hp => (h p hp).call hb
theorem HoldsP.at {w : World} {b off : Nat} {ps : List Pn} (h : HoldsP w (some ⟨b, off, none⟩) ps) {k : Nat} (hk : k < ps.length) : PlAt w b (off + k * 5) ps[k] := by
  rcases h with rfl | ⟨b', off', e, hr⟩
  · simp at hk
  · simp at e
    obtain ⟨rfl, rfl⟩ := e
    exact hr k hk
def vP (p : Pn) : Bool := pvB p.r.x0 p.r.y0 p.r.x1 p.r.y1 p.l.length
def allV (ps : List Pn) : Bool := decide (∀ p ∈ ps, vP p = true)
theorem allV_of {ps : List Pn} (h : ∀ j (hj : j < ps.length), vP ps[j] = true) : allV ps = true := by
  simp only [allV, decide_eq_true_eq]
  intro p hp
  obtain ⟨j, hj, rfl⟩ := List.getElem_of_mem hp
  exact h j hj
theorem allV_not {ps : List Pn} {k : Nat} (hk : k < ps.length) (h : vP ps[k] = false) : allV ps = false := by
  simp only [allV, decide_eq_false_iff_not]
  intro q
  rw [q _ (List.getElem_mem hk)] at h
  exact absurd h (by decide)
set_option maxHeartbeats 1000000 in
theorem vf_q (a b c d : Int) (s : Option Addr) (n m : Nat) (w : World) :
    Calls Try.prog 100 #[.agg #[.int .i64 a, .int .i64 b, .int .i64 c, .int .i64 d, .slice s n m]] w fun e w' => e = .returned (.bool (!(pvB a b c d n))) ∧ Below w.heap.size w w' := by
  have B := below_alloc (Below.refl _ w) (.cells #[.int .i64 a, .int .i64 b, .int .i64 c, .int .i64 d, .slice s n m] 40)
  go_enter Try.func100, Try.ntmps100
  go_wp2_with fail
  refine (pv_c _ _ _ _ _ _ _ _).mono ?_
  rintro e w1 ⟨rfl, hb⟩
  replace B := below_call B hb
  clear hb
  go_wp2
  go_ret
  exact ⟨rfl, B⟩
def GivesAt (ps : List Pn) (w : World) (e : Ending) (w' : World) : Prop := ∃ r : Int, e = .returned (.int .i64 r) ∧ (allV ps = true → r = -1) ∧ (allV ps = false → 0 ≤ r) ∧ Below w.heap.size w w'
set_option maxRecDepth 100000 in
set_option maxHeartbeats 2000000 in
theorem xf_q (ps : List Pn) (a : Option Addr) (m : Nat) (w : World) (hl : ps.length ≤ 1099511627776) (hH : HoldsP w a ps) :
    Calls Try.prog 103 #[.slice a ps.length m, .func (.func 100) #[] #[]] w (GivesAt ps w) := by
  go_enter Try.func103, Try.ntmps103
  go_wp2_with fail
  go_loopw [5, 8] (fun _ i wr => ∃ k : Nat, k ≤ ps.length ∧ i = .int .i64 k ∧ Hid (∀ j (hj : j < ps.length), j < k → vP ps[j] = true) ∧ Below w.heap.size w wr) (fun _ i _ => ps.length - (intOf i).toNat)
  case atStart => exact ⟨0, Nat.zero_le _, rfl, fun j _ h => absurd h (Nat.not_lt_zero _), Below.refl _ _⟩
  case round =>
    obtain ⟨k, hk, rfl, hall, B⟩ := hrel
    by_cases hlt : k < ps.length
    · obtain ⟨bb, off, rfl, hr⟩ : ∃ bb off, a = some ⟨bb, off, none⟩ ∧ PlsAt w bb off ps := by
        rcases hH with h | h
        · rw [h] at hlt; simp at hlt
        · exact h
      have y := (hr k hlt).below B
      have hki : (k : Int) < (ps.length : Int) := by omega
      have w2 : IntKind.i64.wrap ((k : Int) + 1) = (k : Int) + 1 := i64_in' _ (by omega) (by omega)
      have HV : Hid (vP ps[k] = true → ∀ j (hj : j < ps.length), j < k + 1 → vP ps[j] = true) := fun c j hj hjk => if e : j = k then by subst e; exact c else hall.out j hj (by omega)
      have HF : Hid (vP ps[k] = false → allV ps = false) := fun c => allV_not hlt c
      have cV := fun W => vf_q ps[k].r.x0 ps[k].r.y0 ps[k].r.x1 ps[k].r.y1 ps[k].s ps[k].l.length ps[k].m W
      unfold vP at HV HF
      obtain ⟨⟨y0, y1, y2, y3⟩, y4⟩ := y
      cases ho : pvB ps[k].r.x0 ps[k].r.y0 ps[k].r.x1 ps[k].r.y1 ps[k].l.length with
      | false =>
        rw [ho] at cV
        have hf := HF.out ho
        clear HF HV hall ho hr
        go_wp2_with (first | (go_at_call 100; (with_reducible refine (cV _).mono ?_); rintro e w1 ⟨rfl, hb⟩))
        go_ret
        exact ⟨_, rfl, fun h => by rw [hf] at h; exact absurd h (by decide), fun _ => by omega, below_call B hb⟩
      | true =>
        rw [ho] at cV
        have HN : Hid _ := HV.out ho
        clear HF HV hall ho hr
        go_wp2_with (first | (go_at_call 100; (with_reducible refine (cV _).mono ?_); rintro e w1 ⟨rfl, hb⟩))
        have B2 := below_call B hb
        clear B hb y0 y1 y2 y3 y4
        go_roundw
        case rel => exact ⟨k + 1, by omega, by go_num, HN.out, B2⟩
        case measure => simp [intOf]; omega
    · obtain rfl : k = ps.length := by omega
      have hf := allV_of fun j hj => hall.out j hj hj
      clear hall
      go_wp2
      go_ret
      exact ⟨_, rfl, fun _ => rfl, fun h => by rw [hf] at h; exact absurd h (by decide), B⟩
theorem cf_q (ps : List Pn) (a : Option Addr) (m : Nat) (w : World) (hl : ps.length ≤ 1099511627776) (hH : HoldsP w a ps) :
    Calls Try.prog 99 #[.slice a ps.length m, .func (.func 100) #[] #[]] w fun e w' => e = .returned (.bool (!allV ps)) ∧ Below w.heap.size w w' := by
  have cI := xf_q ps a m w hl hH
  cases hf : allV ps with
  | true =>
    go_enter Try.func99, Try.ntmps99
    go_wp2_with fail
    refine cI.mono ?_
    rintro e w' ⟨r, rfl, h1, h2, hb⟩
    obtain rfl := h1 hf
    clear h1 h2
    go_wp2
    go_ret
    exact ⟨rfl, hb⟩
  | false =>
    go_enter Try.func99, Try.ntmps99
    go_wp2_with fail
    refine cI.mono ?_
    rintro e w' ⟨r, rfl, h1, h2, hb⟩
    have h3 := h2 hf
    clear h1 h2
    go_wp2
    go_ret
    exact ⟨rfl, hb⟩
set_option maxRecDepth 100000 in
set_option maxHeartbeats 2000000 in
theorem tf_no1 (t bd : Int) (ps : List Pn) (a : Option Addr) (m : Nat) (w : World) (_hl : ps.length ≤ 1099511627776) (_hH : HoldsP w a ps) (hk : Co.kB t = false) : Calls Try.prog 90 #[.int .i64 t, .slice a ps.length m, .int .i64 bd] w fun e w' => e = .returned (.int .i64 3) ∧ Below w.heap.size w w' := by
  go_enter Try.func90, Try.ntmps90
  go_wp2_with (go_at_call 76; refine (kn_q _ _).mono ?_; rintro e wn ⟨rfl, hw⟩; replace hw := hw.symm; subst hw)
  go_ret
  exact ⟨rfl, Below.refl _ _⟩
set_option maxRecDepth 100000 in
set_option maxHeartbeats 2000000 in
theorem tf_no2 (t bd : Int) (ps : List Pn) (a : Option Addr) (m : Nat) (w : World) (hl : ps.length ≤ 1099511627776) (hH : HoldsP w a ps) (hk : Co.kB t = true) (hv : allV ps = false) : Calls Try.prog 90 #[.int .i64 t, .slice a ps.length m, .int .i64 bd] w fun e w' => e = .returned (.int .i64 1) ∧ Below w.heap.size w w' := by
  have hv' : (!allV ps) = true := by rw [hv]; rfl
  go_enter Try.func90, Try.ntmps90
  go_wp2_with (first | (go_at_call 76; refine (kn_q _ _).mono ?_; rintro e wn ⟨rfl, hw⟩; replace hw := hw.symm; subst hw) | (go_at_call 99; (with_reducible refine (cf_q ps a m _ hl hH).mono ?_); rintro e w1 ⟨rfl, hb⟩))
  go_ret
  exact ⟨rfl, hb⟩
set_option maxRecDepth 100000 in
set_option maxHeartbeats 2000000 in
theorem tf_yes0 (t bd : Int) (ps : List Pn) (a : Option Addr) (m : Nat) (w : World) (hl : ps.length ≤ 1099511627776) (hH : HoldsP w a ps) (hv : allV ps = true) (h0 : t = 0) : Calls Try.prog 90 #[.int .i64 t, .slice a ps.length m, .int .i64 bd] w fun e w' => e = .returned (.int .i64 0) ∧ Below w.heap.size w w' := by
  subst h0
  have hk : Co.kB 0 = true := by decide
  go_enter Try.func90, Try.ntmps90
  go_wp2_with (first | (go_at_call 76; refine (kn_q _ _).mono ?_; rintro e wn ⟨rfl, hw⟩; replace hw := hw.symm; subst hw) | (go_at_call 99; (with_reducible refine (cf_q ps a m _ hl hH).mono ?_); rintro e w1 ⟨rfl, hb⟩))
  go_ret
  exact ⟨rfl, hb⟩
set_option maxRecDepth 100000 in
set_option maxHeartbeats 2000000 in
theorem tf_no3 (t bd : Int) (ps : List Pn) (a : Option Addr) (m : Nat) (w : World) (hl : ps.length ≤ 1099511627776) (hH : HoldsP w a ps) (hk : Co.kB t = true) (hv : allV ps = true) (h0 : ¬ t = 0) (h3 : ps.length < 3) : Calls Try.prog 90 #[.int .i64 t, .slice a ps.length m, .int .i64 bd] w fun e w' => e = .returned (.int .i64 4) ∧ Below w.heap.size w w' := by
  have h3' : (ps.length : Int) < 3 := by omega
  go_enter Try.func90, Try.ntmps90
  go_wp2_with (first | (go_at_call 76; refine (kn_q _ _).mono ?_; rintro e wn ⟨rfl, hw⟩; replace hw := hw.symm; subst hw) | (go_at_call 99; (with_reducible refine (cf_q ps a m _ hl hH).mono ?_); rintro e w1 ⟨rfl, hb⟩))
  go_ret
  exact ⟨rfl, hb⟩
def sameR (ps : List Pn) : Bool := match ps with
  | p0 :: p1 :: p2 :: _ => Pl.eqB p1.r.x0 p1.r.y0 p1.r.x1 p1.r.y1 p0.r.x0 p0.r.y0 p0.r.x1 p0.r.y1 && Pl.eqB p2.r.x0 p2.r.y0 p2.r.x1 p2.r.y1 p0.r.x0 p0.r.y0 p0.r.x1 p0.r.y1
  | _ => false
theorem three {ps : List Pn} (h : ¬ ps.length < 3) : ∃ p0 p1 p2 qs, ps = p0 :: p1 :: p2 :: qs := by
  match ps, h with
  | p0 :: p1 :: p2 :: qs, _ => exact ⟨p0, p1, p2, qs, rfl⟩
  | [], h => simp at h
  | [_], h => simp at h
  | [_, _], h => simp at h
/-- The rectangles of the first three. -/
theorem HoldsP.rects {W : World} {b off : Nat} {p0 p1 p2 : Pn} {qs : List Pn} (h : HoldsP W (some ⟨b, off, none⟩) (p0 :: p1 :: p2 :: qs)) : RectAt W b off p0.r ∧ RectAt W b (off + 5) p1.r ∧ RectAt W b (off + 10) p2.r := by
  have h0 := (h.at (k := 0) (by simp)).1
  have h1 := (h.at (k := 1) (by simp)).1
  have h2 := (h.at (k := 2) (by simp)).1
  simpa using ⟨h0, h1, h2⟩
set_option maxRecDepth 100000 in
set_option maxHeartbeats 2000000 in
theorem tf_no4 (t bd : Int) (ps : List Pn) (a : Option Addr) (m : Nat) (w : World) (hl : ps.length ≤ 1099511627776) (hH : HoldsP w a ps) (hk : Co.kB t = true) (hv : allV ps = true) (h0 : ¬ t = 0) (h3 : ¬ ps.length < 3) (hr : sameR ps = false) : Calls Try.prog 90 #[.int .i64 t, .slice a ps.length m, .int .i64 bd] w fun e w' => e = .returned (.int .i64 1) ∧ Below w.heap.size w w' := by
  obtain ⟨p0, p1, p2, qs, rfl⟩ := three h3
  have hl3 : ¬ ((p0 :: p1 :: p2 :: qs).length : Int) < 3 := by simp; omega
  have HLen : Hid _ := hl3
  obtain ⟨b, off, rfl⟩ : ∃ b off, a = some ⟨b, off, none⟩ := by
    rcases hH with h | ⟨b, off, h, _⟩
    · simp at h
    · exact ⟨b, off, h⟩
  obtain ⟨N, hN⟩ : ∃ N, N = (p0 :: p1 :: p2 :: qs).length := ⟨_, rfl⟩
  have hcf := fun W (h : HoldsP W (some ⟨b, off, none⟩) (p0 :: p1 :: p2 :: qs)) => cf_q (p0 :: p1 :: p2 :: qs) (some ⟨b, off, none⟩) m W hl h
  rw [← hN] at hcf hl3 ⊢
  have hn3 : (3 : Int) ≤ (N : Int) := by omega
  have hn1 : (1 : Int) < (N : Int) := by omega
  have hn2 : (2 : Int) < (N : Int) := by omega
  have hn0 : (0 : Int) < (N : Int) := by omega
  have heq := eqR
  clear HLen
  rw [hv] at hcf
  have HR : Hid _ := hr
  clear hN hr hl hv h3
  go_enter Try.func90, Try.ntmps90
  go_upto_region 9 with (first | (go_at_call 76; refine (kn_q _ _).mono ?_; rintro e wn ⟨rfl, hw⟩; replace hw := hw.symm; subst hw) | (go_at_call 99; (with_reducible refine (hcf _ hH).mono ?_); rintro e w1 ⟨rfl, hb⟩))
  obtain ⟨⟨a0, a1, a2, a3⟩, ⟨b0, b1, b2, b3⟩, ⟨c0, c1, c2, c3⟩⟩ := (hH.call hb).rects
  by_cases q1 : Pl.eqB p1.r.x0 p1.r.y0 p1.r.x1 p1.r.y1 p0.r.x0 p0.r.y0 p0.r.x1 p0.r.y1 = true
  · have q2 : Pl.eqB p2.r.x0 p2.r.y0 p2.r.x1 p2.r.y1 p0.r.x0 p0.r.y0 p0.r.x1 p0.r.y1 = false := by
      have := HR.out
      simpa [sameR, q1] using this
    go_region
    go_wp2_with fail
    go_ret
    exact ⟨rfl, hb.drew⟩
  · have q1' : Pl.eqB p1.r.x0 p1.r.y0 p1.r.x1 p1.r.y1 p0.r.x0 p0.r.y0 p0.r.x1 p0.r.y1 = false := by simpa using q1
    clear q1
    go_region
    go_wp2_with fail
    go_ret
    exact ⟨rfl, hb.drew⟩
end Go.Proofs.Ytadkcgpkbcgeoaa
