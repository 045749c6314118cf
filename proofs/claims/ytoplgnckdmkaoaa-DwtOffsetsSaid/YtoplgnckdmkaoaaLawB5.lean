/-
  What the statements of layer 5 ask for themselves; the finer bounds of coefficients; Merge of what Split gives.
-/
import Derived.Test.YtoplgnckdmkaoaaBsL
import Derived.Test.YtoplgnckdmkaoaaBsI
set_option maxRecDepth 100000
namespace Go.Proofs.Ytoplgnckdmkaoaa
open Go.RowKit

set_option maxHeartbeats 4000000 in
theorem same5_c (p q : Pl.R) (s t : Option Addr) (m m' n n' : Nat) (l k : List Int) (w : World) (hn : n = l.length) (hn' : n' = k.length) (hl : n ≤ 140737488351232) (h1 : HoldsI w s l) (h2 : HoldsI w t k) : Calls Try.prog 19 #[.agg #[.int .i64 p.x0, .int .i64 p.y0, .int .i64 p.x1, .int .i64 p.y1, .slice s n m], .agg #[.int .i64 q.x0, .int .i64 q.y0, .int .i64 q.x1, .int .i64 q.y1, .slice t n' m']] w fun e w' => e = .returned (.bool (psB p q l k)) ∧ Below w.heap.size w w' := by
  have heq := fun W => eqR p.x0 p.y0 p.x1 p.y1 q.x0 q.y0 q.x1 q.y1 W
  by_cases hq : Pl.eqB p.x0 p.y0 p.x1 p.y1 q.x0 q.y0 q.x1 q.y1 = true
  · rw [hq] at heq
    by_cases hlen : n = n'
    · subst hlen
      have HR : Hid (psB p q l k = eqL l k) := by rw [psB, hq, Bool.true_and]; exact rfl
      have HN : Hid _ := hn
      have HN' : Hid _ := hn'
      clear hq hn hn'
      have x0 := (QBox.fresh w p.x0 p.y0 p.x1 p.y1 s n m 26).alloc (.cells #[.int .i64 q.x0, .int .i64 q.y0, .int .i64 q.x1, .int .i64 q.y1, .slice t n m'] 26)
      have x1 := QBox.freshAt (w.alloc (.cells #[.int .i64 p.x0, .int .i64 p.y0, .int .i64 p.x1, .int .i64 p.y1, .slice s n m] 26)) (w.heap.size + 1) (by simp) q.x0 q.y0 q.x1 q.y1 t n m' 26
      have B := below_alloc (below_alloc (Below.refl _ w) (.cells #[.int .i64 p.x0, .int .i64 p.y0, .int .i64 p.x1, .int .i64 p.y1, .slice s n m] 26)) (.cells #[.int .i64 q.x0, .int .i64 q.y0, .int .i64 q.x1, .int .i64 q.y1, .slice t n m'] 26)
      go_enter Try.func19, Try.ntmps19
      obtain ⟨y0, y1, y2, y3, y4⟩ := x0.open
      obtain ⟨z0, z1, z2, z3, z4⟩ := x1.open
      go_upto_region 4 with fail
      clear y0 y1 y2 y3 y4 z0 z1 z2 z3 z4
      go_loopw [23] (fun i wr => ∃ j : Nat, j ≤ n ∧ i = .int .i64 j ∧ (∀ x (a : x < l.length) (b : x < k.length), x < j → l[x] = k[x]) ∧ QBox wr w.heap.size p (.slice s n m) ∧ QBox wr (w.heap.size + 1) q (.slice t n m') ∧ Below w.heap.size w wr) (fun i _ => n - (intOf i).toNat)
      case atStart => exact ⟨0, Nat.zero_le _, rfl, fun _ _ _ h => absurd h (Nat.not_lt_zero _), x0, x1, B⟩
      case round =>
        obtain ⟨j, hj, rfl, hall, hx0, hx1, hB⟩ := hrel
        have HA : Hid _ := hall
        clear hall x0 x1 B
        by_cases hlt : j < n
        · have hjl : j < l.length := by rw [← HN.out]; exact hlt
          have hjk : j < k.length := by rw [← HN'.out]; exact hlt
          rcases h1 with rfl | ⟨b, off, rfl, hr⟩
          · simp at hjl
          rcases h2 with rfl | ⟨b', off', rfl, hr'⟩
          · simp at hjk
          have e0 : wr.cell? ⟨b, off + j, none⟩ = some (.int .i64 l[j]) := (hB.cell (p := ⟨b, _, none⟩) (cell_lt (hr j hjl))).trans (hr j hjl)
          have f0 : wr.cell? ⟨b', off' + j, none⟩ = some (.int .i64 k[j]) := (hB.cell (p := ⟨b', _, none⟩) (cell_lt (hr' j hjk))).trans (hr' j hjk)
          have hi : (j : Int) < (n : Int) := by omega
          obtain ⟨y0, y1, y2, y3, y4⟩ := hx0.open
          obtain ⟨z0, z1, z2, z3, z4⟩ := hx1.open
          have hne : l[j] ≠ k[j] → eqL l k = false := fun h => eqL_ne hjl hjk h
          have HNE : Hid _ := hne
          have HSTEP : Hid (l[j] = k[j] → ∀ x (a : x < l.length) (b : x < k.length), x < j + 1 → l[x] = k[x]) := fun e x a b hx => if hxj : x = j then by subst hxj; exact e else HA.out x a b (by omega)
          clear hne hr hr'
          generalize l[j] = V at *
          generalize k[j] = V' at *
          go_wp2_with fail
          go_quiet (fail)
          have x0 : QBox (wr.drewN nq) w.heap.size p (.slice (some ⟨b, off, none⟩) n m) := hx0.below (below_drewN (Below.refl _ _) nq)
          have x1 : QBox (wr.drewN nq) (w.heap.size + 1) q (.slice (some ⟨b', off', none⟩) n m') := hx1.below (below_drewN (Below.refl _ _) nq)
          have Bn := below_drewN hB nq
          clear y0 y1 y2 y3 y4 z0 z1 z2 z3 z4 e0 f0 hx0 hx1 hB
          by_cases he : V = V'
          · have HE : Hid _ := HSTEP.out he
            have g1 : (V == V') = true := by simp [he]
            have g2 : (V != V') = false := by simp [he]
            have g3 : decide (V = V') = true := by simp [he]
            clear he
            go_wp2
            go_roundw
            case rel => exact ⟨j + 1, hlt, by go_num, HE.out, x0, x1, Bn⟩
            case measure => simp [intOf]; omega
          · have HF : Hid _ := HNE.out he
            have g1 : (V == V') = false := by simp [he]
            have g2 : (V != V') = true := by simp [he]
            have g3 : decide (V = V') = false := by simp [he]
            clear he
            go_wp2
            go_ret
            exact ⟨by rw [HR.out, HF.out]; rfl, Bn⟩
        · obtain rfl : j = n := by omega
          have HF : Hid (eqL l k = true) := eqL_all (by rw [← HN.out, ← HN'.out]) (fun x a b => HA.out x a b (by rw [HN.out]; exact a))
          clear hx0 hx1
          go_wp2
          go_ret
          exact ⟨by rw [HR.out, HF.out]; rfl, hB⟩
    · have HR : Hid (psB p q l k = false) := by rw [psB, eqL_len (by omega), Bool.and_false]; exact rfl
      have g1 : ((n : Int) == (n' : Int)) = false := by rw [beq_eq_false_iff_ne]; omega
      have g2 : ((n : Int) != (n' : Int)) = true := by rw [bne_iff_ne]; omega
      have g3 : decide ((n : Int) = (n' : Int)) = false := by rw [decide_eq_false_iff_not]; omega
      have g4 : decide (n = n') = false := by rw [decide_eq_false_iff_not]; exact hlen
      clear hq hn hn'
      have x0 := (QBox.fresh w p.x0 p.y0 p.x1 p.y1 s n m 26).alloc (.cells #[.int .i64 q.x0, .int .i64 q.y0, .int .i64 q.x1, .int .i64 q.y1, .slice t n' m'] 26)
      have x1 := QBox.freshAt (w.alloc (.cells #[.int .i64 p.x0, .int .i64 p.y0, .int .i64 p.x1, .int .i64 p.y1, .slice s n m] 26)) (w.heap.size + 1) (by simp) q.x0 q.y0 q.x1 q.y1 t n' m' 26
      have B := below_alloc (below_alloc (Below.refl _ w) (.cells #[.int .i64 p.x0, .int .i64 p.y0, .int .i64 p.x1, .int .i64 p.y1, .slice s n m] 26)) (.cells #[.int .i64 q.x0, .int .i64 q.y0, .int .i64 q.x1, .int .i64 q.y1, .slice t n' m'] 26)
      go_enter Try.func19, Try.ntmps19
      obtain ⟨y0, y1, y2, y3, y4⟩ := x0.open
      obtain ⟨z0, z1, z2, z3, z4⟩ := x1.open
      go_wp2
      go_ret
      exact ⟨by rw [HR.out]; rfl, B⟩
  · have hq' : Pl.eqB p.x0 p.y0 p.x1 p.y1 q.x0 q.y0 q.x1 q.y1 = false := by simpa using hq
    rw [hq'] at heq
    have HR : Hid (psB p q l k = false) := by rw [psB, hq', Bool.false_and]; exact rfl
    clear hq hq' hn hn'
    have x0 := (QBox.fresh w p.x0 p.y0 p.x1 p.y1 s n m 26).alloc (.cells #[.int .i64 q.x0, .int .i64 q.y0, .int .i64 q.x1, .int .i64 q.y1, .slice t n' m'] 26)
    have x1 := QBox.freshAt (w.alloc (.cells #[.int .i64 p.x0, .int .i64 p.y0, .int .i64 p.x1, .int .i64 p.y1, .slice s n m] 26)) (w.heap.size + 1) (by simp) q.x0 q.y0 q.x1 q.y1 t n' m' 26
    have B := below_alloc (below_alloc (Below.refl _ w) (.cells #[.int .i64 p.x0, .int .i64 p.y0, .int .i64 p.x1, .int .i64 p.y1, .slice s n m] 26)) (.cells #[.int .i64 q.x0, .int .i64 q.y0, .int .i64 q.x1, .int .i64 q.y1, .slice t n' m'] 26)
    go_enter Try.func19, Try.ntmps19
    obtain ⟨y0, y1, y2, y3, y4⟩ := x0.open
    obtain ⟨z0, z1, z2, z3, z4⟩ := x1.open
    go_wp2
    go_ret
    exact ⟨by rw [HR.out]; rfl, B⟩
set_option maxHeartbeats 1000000 in
theorem few5_c (r : Pl.R) (s : Option Addr) (n m : Nat) (w : World) : Calls Try.prog 15 #[.agg #[.int .i64 r.x0, .int .i64 r.y0, .int .i64 r.x1, .int .i64 r.y1, .slice s n m]] w fun e w' => e = .returned (.bool (decide (n ≤ 4000))) ∧ Below w.heap.size w w' := by
  have B := below_alloc (Below.refl _ w) (.cells #[.int .i64 r.x0, .int .i64 r.y0, .int .i64 r.x1, .int .i64 r.y1, .slice s n m] 26)
  by_cases h : (n : Int) ≤ 4000
  · have HR : Hid (decide (n ≤ 4000) = true) := decide_eq_true (by omega)
    go_enter Try.func15, Try.ntmps15
    go_wp2
    go_ret
    exact ⟨by rw [HR.out]; rfl, B⟩
  · have HR : Hid (decide (n ≤ 4000) = false) := decide_eq_false (by omega)
    go_enter Try.func15, Try.ntmps15
    go_wp2
    go_ret
    exact ⟨by rw [HR.out]; rfl, B⟩

/-! Finer bounds of coefficients -/
def fn (b : Int) : Int := (9 * b + 8) / 4
theorem hb_fine {k : Int} (hk : k = 1 ∨ k = 2 ∨ k = 3) {b : Int} (hb : 0 ≤ b) : Ex.hbI b k ≤ fn b ∧ Ex.lbI b k ≤ fn b := by
  unfold Ex.lbI Ex.hbI fn
  rcases hk with rfl | rfl | rfl
  · simp only [Int.reduceEq, ↓reduceIte]; omega
  · simp only [Int.reduceEq, ↓reduceIte]; omega
  · simp only [Int.reduceEq, ↓reduceIte]; omega
theorem lohi_fine {b s kn : Int} {x : List Int} (hk : kB kn = true) (hb : 0 ≤ b) (hw : Ex.within b x) : Ex.within (fn b) (Ex.loF s kn x) ∧ Ex.within (fn b) (Ex.hiF s kn x) := by
  have hkk := k_iff.1 hk
  obtain ⟨b1, b2⟩ := hb_fine hkk hb
  refine ⟨fun v hv => ?_, fun v hv => ?_⟩
  · obtain ⟨j, hj, hp, rfl⟩ := Ex.splitE_mem hv
    have hj' := hj
    rw [Ex.fwd_len] at hj'
    have := (Ex.fwd_bd (s := s) hkk hb hw (i := s + (j : Int)) (by omega) (by omega)).1 hp
    rw [Ex.sg_at hj] at this
    omega
  · obtain ⟨j, hj, hp, rfl⟩ := Ex.splitO_mem hv
    have hj' := hj
    rw [Ex.fwd_len] at hj'
    have := (Ex.fwd_bd (s := s) hkk hb hw (i := s + (j : Int)) (by omega) (by omega)).2 hp
    rw [Ex.sg_at hj] at this
    omega
theorem rows_fine {b s kn : Int} {P : List (List Int)} (hk : kB kn = true) (hb : 0 ≤ b) (hw : Ex.within b P.flatten) : Ex.within (fn b) (Ex.lowR s kn P).flatten ∧ Ex.within (fn b) (Ex.highR s kn P).flatten := by
  have hr : ∀ r ∈ P, Ex.within b r := fun r hr v hv => hw v (List.mem_flatten.2 ⟨r, hr, hv⟩)
  refine ⟨fun v hv => ?_, fun v hv => ?_⟩
  · obtain ⟨q, hq, hv⟩ := List.mem_flatten.1 hv
    obtain ⟨r, hr', rfl⟩ := List.mem_map.1 hq
    exact (lohi_fine hk hb (hr r hr')).1 v hv
  · obtain ⟨q, hq, hv⟩ := List.mem_flatten.1 hv
    obtain ⟨r, hr', rfl⟩ := List.mem_map.1 hq
    exact (lohi_fine hk hb (hr r hr')).2 v hv
theorem trn_within {b : Int} {n : Nat} {M : List (List Int)} (hb : 0 ≤ b) (hw : Ex.within b M.flatten) : Ex.within b (Ex.trn n M).flatten := fun v hv => by
  obtain ⟨r, hr, hvr⟩ := List.mem_flatten.1 hv
  obtain ⟨y, _, rfl⟩ := List.mem_map.1 hr
  obtain ⟨c, hc, rfl⟩ := List.mem_map.1 hvr
  rcases Nat.lt_or_ge y c.length with q | q
  · rw [List.getD_eq_getElem?_getD, List.getElem?_eq_getElem q]
    exact hw _ (List.mem_flatten.2 ⟨c, hc, List.getElem_mem q⟩)
  · rw [List.getD_eq_getElem?_getD, List.getElem?_eq_none q]
    simp only [Option.getD_none]
    omega
theorem fn_pos {b : Int} (hb : 0 ≤ b) : 0 ≤ fn b := by unfold fn; omega
theorem cols_fine {b s kn : Int} {n : Nat} {L : List (List Int)} (hk : kB kn = true) (hb : 0 ≤ b) (hw : Ex.within b L.flatten) : Ex.within (fn b) (Ex.lowC s kn n L).flatten ∧ Ex.within (fn b) (Ex.highC s kn n L).flatten := by
  have h := rows_fine (s := s) hk hb (trn_within (n := n) hb hw)
  exact ⟨trn_within (fn_pos hb) h.1, trn_within (fn_pos hb) h.2⟩
theorem band_fine {a b kn bd : Int} {n : Nat} {P : List (List Int)} (hk : kB kn = true) (hb : 0 ≤ bd) (hw : Ex.within bd P.flatten) (o : Nat) (ho : o < 4) : Ex.within (fn (fn bd)) (bandQ a b kn n P o).flatten := by
  obtain ⟨h1, h2⟩ := rows_fine (s := a) hk hb hw
  rcases lt4 ho with rfl | rfl | rfl | rfl
  · exact (cols_fine hk (fn_pos hb) h1).1
  · exact (cols_fine hk (fn_pos hb) h2).1
  · exact (cols_fine hk (fn_pos hb) h1).2
  · exact (cols_fine hk (fn_pos hb) h2).2
/-- Merge of what Split gives. -/
theorem mrg_bands {a b kn : Int} {n h : Nat} {P : List (List Int)} (hW : Ex.Wide n P) (hP : P.length = h) :
    (Ex.mrg a b kn n (Ex.cutR (wdO a n 0) (bandQ a b kn n P 0).flatten (htO b h 0)) (Ex.cutR (wdO a n 1) (bandQ a b kn n P 1).flatten (htO b h 1)) (Ex.cutR (wdO a n 2) (bandQ a b kn n P 2).flatten (htO b h 2)) (Ex.cutR (wdO a n 3) (bandQ a b kn n P 3).flatten (htO b h 3))).flatten = P.flatten := by
  have e : ∀ o, o < 4 → Ex.cutR (wdO a n o) (bandQ a b kn n P o).flatten (htO b h o) = bandQ a b kn n P o := fun o ho => by
    obtain ⟨h1, h2⟩ := band_wide (a := a) (b := b) (kn := kn) hW hP o ho
    have := Ex.cut_flat h1
    rw [h2] at this
    exact this
  rw [e 0 (by decide), e 1 (by decide), e 2 (by decide), e 3 (by decide)]
  exact congrArg List.flatten (Ex.mrg_split hW)
theorem merge_split (a b c d kn : Int) (l : List Int) (n h : Nat) (hp : pvB a b c d l.length = true) (hk : kB kn = true) (hf : fewB l 35184372088832 = true) (hn : c - a = (n : Int)) (hh : d - b = (h : Int)) (s : Nat → Option Addr) (m : Nat → Nat) (A : Array Value)
    (hA : A = arrP (bnds ⟨a, b, c, d⟩) fun o => .slice (s o) (bandQ a b kn n (Ex.cutR n l h) o).flatten.length (m o)) (w : World) (hH : ∀ o, o < 4 → HoldsI w (s o) (bandQ a b kn n (Ex.cutR n l h) o).flatten) :
    Calls Try.prog 17 #[.agg A, .agg #[.int .i64 a, .int .i64 b, .int .i64 c, .int .i64 d], .int .i64 kn] w (GivesPl ⟨a, b, c, d⟩ l 0 w) := by
  obtain ⟨hv, ha, he⟩ := pv_iff.1 hp
  have har : Pl.areaI a b c d = ((h * n : Nat) : Int) := by rw [Pl.areaI, if_pos hv, hn, hh, Int.mul_comm, ← Int.natCast_mul]
  have hlen : l.length = h * n := by omega
  have hW := Ex.cutR_wide hlen
  have hP : (Ex.cutR n l h).length = h := Ex.cutR_len _ _ _
  have hwl : Ex.within 35184372088832 (Ex.cutR n l h).flatten := by rw [Ex.cutR_flat hlen]; exact few_iff.1 hf
  have fw : ∀ o, o < 4 → fewB (bandQ a b kn n (Ex.cutR n l h) o).flatten 281474976710656 = true := fun o ho => few_iff.2 (within_mono (band_fine hk (show (0 : Int) ≤ 35184372088832 by decide) hwl o ho) (by decide))
  have pv : ∀ o, o < 4 → pvB (bnds ⟨a, b, c, d⟩ o).x0 (bnds ⟨a, b, c, d⟩ o).y0 (bnds ⟨a, b, c, d⟩ o).x1 (bnds ⟨a, b, c, d⟩ o).y1 (bandQ a b kn n (Ex.cutR n l h) o).flatten.length = true := fun o ho => by
    refine pv_iff.2 ⟨(bnd_size hv hn hh o).2.2, ?_, ?_⟩
    · rw [bnd_area hv hn hh o]; have := bnd_area_le hp hn hh o; omega
    · rw [bnd_area hv hn hh o, band_len (a := a) (b := b) (kn := kn) hW hP o ho]
  have hE : mgE ⟨a, b, c, d⟩ (bnds ⟨a, b, c, d⟩) (fun o => (bandQ a b kn n (Ex.cutR n l h) o).flatten) kn = 0 := by
    rw [mgE, if_pos ⟨hv, ha⟩, if_pos hk, if_pos, if_pos]
    · exact ok4_true fw
    · refine ok4_true fun o ho => ?_
      simp only [okO, Bool.and_eq_true]
      exact ⟨pv o ho, Pl.eq_self _ _ _ _⟩
  have h1 := mergec_yes ⟨a, b, c, d⟩ (fun o => (bandQ a b kn n (Ex.cutR n l h) o).flatten) s m kn n h A hA w hH hE hv (by omega) hn hh hk pv fw
  rw [mrg_bands hW hP, Ex.cutR_flat hlen] at h1
  exact h1
/-- Split of the code, in any case. -/
theorem splitc_cases (a b c d kn : Int) (l : List Int) (s : Option Addr) (m : Nat) (hm : l.length ≤ m) (_hl : l.length ≤ 140737488351232) :
    (∃ E : Int, (E = 1 ∨ E = 2 ∨ E = 3) ∧ ∀ w, HoldsI w s l → Calls Try.prog 20 #[.agg #[.int .i64 a, .int .i64 b, .int .i64 c, .int .i64 d, .slice s l.length m], .int .i64 kn] w (GivesP4 (fun _ => zR) (fun _ => []) E w)) ∨
    (∃ n h : Nat, pvB a b c d l.length = true ∧ kB kn = true ∧ fewB l 35184372088832 = true ∧ c - a = (n : Int) ∧ d - b = (h : Int) ∧ ∀ w, HoldsI w s l → Calls Try.prog 20 #[.agg #[.int .i64 a, .int .i64 b, .int .i64 c, .int .i64 d, .slice s l.length m], .int .i64 kn] w (GivesP4 (bnds ⟨a, b, c, d⟩) (fun o => (bandQ a b kn n (Ex.cutR n l h) o).flatten) 0 w)) := by
  cases hp : pvB a b c d l.length with
  | false => exact .inl ⟨1, .inl rfl, fun w _ => splitc_no1 a b c d kn l s m w hp⟩
  | true =>
    cases hk : kB kn with
    | false => exact .inl ⟨3, .inr (.inr rfl), fun w _ => splitc_no2 a b c d kn l s m w hp hk⟩
    | true =>
      cases hf : fewB l 35184372088832 with
      | false => exact .inl ⟨2, .inr (.inl rfl), fun w hH => splitc_no3 a b c d kn l s m w hp hk hf hH⟩
      | true =>
        obtain ⟨n, h, e1, e2, _⟩ := pv_facts hp
        exact .inr ⟨n, h, rfl, rfl, rfl, e1, e2, fun w hH => splitc_yes a b c d kn l s m n h w hp hk hf hm hH e1 e2⟩

theorem psB5_self (q : Pl.R) (l : List Int) : psB q q l l = true := by rw [psB, Pl.eq_self, eqL_all rfl (fun _ _ _ => rfl)]; rfl
theorem ps_eq (a b c d : Int) (s t : Option Addr) (m m' : Nat) (l : List Int) (w : World) (hl : l.length ≤ 140737488351232) (h1 : HoldsI w s l) (h2 : HoldsI w t l) : Calls Try.prog 41 #[.agg #[.int .i64 a, .int .i64 b, .int .i64 c, .int .i64 d, .slice s l.length m], .agg #[.int .i64 a, .int .i64 b, .int .i64 c, .int .i64 d, .slice t l.length m']] w fun e w' => e = .returned (.bool true) ∧ Below w.heap.size w w' := by
  have h := ps_c ⟨a, b, c, d⟩ ⟨a, b, c, d⟩ s t m m' l l w hl hl h1 h2
  rw [psB5_self] at h
  exact h
theorem same5_eq (a b c d : Int) (s t : Option Addr) (m m' : Nat) (l : List Int) (w : World) (hl : l.length ≤ 140737488351232) (h1 : HoldsI w s l) (h2 : HoldsI w t l) : Calls Try.prog 19 #[.agg #[.int .i64 a, .int .i64 b, .int .i64 c, .int .i64 d, .slice s l.length m], .agg #[.int .i64 a, .int .i64 b, .int .i64 c, .int .i64 d, .slice t l.length m']] w fun e w' => e = .returned (.bool true) ∧ Below w.heap.size w w' := by
  have h := same5_c ⟨a, b, c, d⟩ ⟨a, b, c, d⟩ s t m m' l.length l.length l l w rfl rfl hl h1 h2
  rw [psB5_self] at h
  exact h
theorem holds_rowed {W : World} {s : Option Addr} {l : List Int} (h : HoldsI W s l) (X : Obj) (A : Array Value) : HoldsI ((W.alloc X).setRow W.heap.size A) s l := by
  cases l with
  | nil => exact .inl rfl
  | cons v t => exact (h.alloc X).but (But.setRow _) (fun p e => by have := h.lt (by simp) p e; omega)
end Go.Proofs.Ytoplgnckdmkaoaa
