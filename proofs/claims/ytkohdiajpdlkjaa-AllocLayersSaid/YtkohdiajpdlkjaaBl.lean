/-
  Layer 21: contracts of the reference's Layers.
-/
import Derived.Test.YtkohdiajpdlkjaaBi
set_option maxRecDepth 100000
namespace Go.Proofs.Ytkohdiajpdlkjaa
open Go.RowKit

theorem rlayers_lim (a : Value) (b : Option Addr) (p q : Nat) (W : World) (hp : 16 < p) : Calls Try.prog 12 #[a, .slice b p q] W fun e w' => e = .returned (.tuple #[.slice none 0 0, .int .i64 5]) ∧ w' = W := by
  have h1 : (16 : Int) < (p : Int) := by omega
  go_enter Try.func12, Try.ntmps12
  go_wp2_with fail
  go_ret2
  exact ⟨rfl, rfl⟩
theorem rlayers_bad (a b : Option Addr) (n m p q : Nat) (cs : List Cv) (W : World) (hC : HoldsCv W a cs) (hn : n = cs.length) (hn2 : n ≤ 65536) (hok : ¬ okC cs) (hp : p ≤ 16) : Calls Try.prog 12 #[.slice a n m, .slice b p q] W fun e w' => e = .returned (.tuple #[.slice none 0 0, .int .i64 1]) ∧ Below W.heap.size W w' := by
  have h1 : ¬ (16 : Int) < (p : Int) := by omega
  have kc := vcurves_c a m n cs W hC hn hn2 1 ⟨fun h => absurd h hok, fun _ => rfl⟩
  clear hC hn hn2 hok
  go_enter Try.func12, Try.ntmps12
  go_wp2_with (first | (go_at_call 17; (with_reducible refine kc.mono ?_); rintro e w1 ⟨rfl, hb⟩; have HB := Lib.hid hb; clear hb) | fail)
  go_ret2
  exact ⟨rfl, HB.out⟩
theorem riseD (lo b : Int) (l : List Int) : rise lo (b :: l) = if b = -1 ∧ l = [] then true else if b < lo then false else rise b l := rfl
/-- The budgets before k are right; lo is the last of them. -/
structure Rs (B : List Int) (k : Nat) (lo : Int) : Prop where
  pos : 0 ≤ lo
  zero : k = 0 → lo = 0
  prev : 0 < k → lo = B.getD (k - 1) 0
  ris : rise lo (B.drop k) = rise 0 B
theorem Rs.start (B : List Int) : Rs B 0 0 := ⟨Int.le_refl _, fun _ => rfl, fun h => absurd h (Nat.lt_irrefl _), by rw [List.drop_zero]⟩
theorem Rs.next {B : List Int} {k : Nat} {lo : Int} (h : Rs B k lo) (hk : k < B.length) (h0 : 0 ≤ B.getD k 0) (hl : lo ≤ B.getD k 0) : Rs B (k + 1) (B.getD k 0) :=
  ⟨h0, fun q => absurd q (Nat.succ_ne_zero _), fun _ => rfl, by rw [← h.ris, drop_at hk, riseD, if_neg (fun q => by have := q.1; omega), if_neg (by omega)]⟩
theorem Rs.no {B : List Int} {k : Nat} {lo : Int} (h : Rs B k lo) (hk : k < B.length) (hl : B.getD k 0 < lo) (h1 : ¬ (B.getD k 0 = -1 ∧ k + 1 = B.length)) : rise 0 B = false := by
  rw [← h.ris, drop_at hk, riseD, if_neg, if_pos hl]
  rintro ⟨q, e⟩
  refine h1 ⟨q, ?_⟩
  have := congrArg List.length e
  simp at this
  omega
theorem Rs.last {B : List Int} {k : Nat} {lo : Int} (h : Rs B k lo) (hk : k < B.length) (h1 : B.getD k 0 = -1) (h2 : k + 1 = B.length) : rise 0 B = true := by
  rw [← h.ris, drop_at hk, riseD, if_pos ⟨h1, List.drop_eq_nil_of_le (by omega)⟩]
theorem Rs.fin {B : List Int} {lo : Int} (h : Rs B B.length lo) : rise 0 B = true := by
  rw [← h.ris, List.drop_eq_nil_of_le (Nat.le_refl _)]; rfl
theorem rise_ge : ∀ (l : List Int) (lo : Int), 0 ≤ lo → rise lo l = true → ∀ x ∈ l, -1 ≤ x
  | [], _, _, _, _, h => by cases h
  | b :: l, lo, h0, hr, x, hx => by
    rw [rise] at hr
    by_cases h1 : b = -1 ∧ l = []
    · obtain ⟨rfl, rfl⟩ := h1
      simp at hx
      omega
    · rw [if_neg h1] at hr
      by_cases h2 : b < lo
      · rw [if_pos h2] at hr; cases hr
      · rw [if_neg h2] at hr
        rcases List.mem_cons.1 hx with q | q
        · omega
        · exact rise_ge l b (by omega) hr x q
set_option maxHeartbeats 4000000 in
theorem rlayers_range (a b : Option Addr) (n m p q : Nat) (cs : List Cv) (B : List Int) (W : World) (hC : HoldsCv W a cs) (hn : n = cs.length) (hok : okC cs) (hp : p ≤ 16) (hB : HoldsI W b B) (hpB : p = B.length) (hr : rise 0 B = false) :
    Calls Try.prog 12 #[.slice a n m, .slice b p q] W fun e w' => e = .returned (.tuple #[.slice none 0 0, .int .i64 2]) ∧ Below W.heap.size W w' := by
  have h1 : ¬ (16 : Int) < (p : Int) := by omega
  have kc := vcurves_c a m n cs W hC hn (by have := hok.1; omega) 0 ⟨fun _ => rfl, fun h => absurd hok h⟩
  have HBU := Lib.hid hB
  have HP := Lib.hid hpB
  have HR := Lib.hid hr
  have HP2 := Lib.hid hp
  clear hC hn hok hB hpB hr hp
  go_enter Try.func12, Try.ntmps12
  go_wp2_with (first | (go_at_call 17; (with_reducible refine kc.mono ?_); rintro e w1 ⟨rfl, hb⟩; have B1 := Lib.hid hb; clear hb kc) | fail)
  go_loopw [24] (fun i wr => ∃ k : Nat, k ≤ p ∧ i = .int .i64 (k : Int) ∧ Hid (∃ lo, Rs B k lo) ∧ Hid (Below W.heap.size W wr)) (fun i _ => p - (intOf i).toNat)
  case atStart => exact ⟨0, Nat.zero_le _, rfl, Lib.hid ⟨0, Rs.start B⟩, B1⟩
  case round =>
    obtain ⟨k, hk, rfl, hS, hB⟩ := hrel
    obtain ⟨w0, rfl⟩ : ∃ w0 : World, w0 = wr := ⟨_, rfl⟩
    have hp9 := HP2.out
    by_cases hlt : k < p
    · have hkB : k < B.length := by have := HP.out; omega
      obtain ⟨lo, hR⟩ := hS.out
      obtain ⟨bb, off, rfl, c0⟩ := (HBU.out.below hB.out (Nat.le_refl _)).at hkB
      have cp : 0 < k → w0.cell? ⟨bb, off + (k - 1), none⟩ = some (.int .i64 (B.getD (k - 1) 0)) := fun h => (HBU.out.below hB.out (Nat.le_refl _)).of (by omega)
      have hno := fun h h1 => hR.no hkB h h1
      have hnx := hR.next hkB
      have hla := hR.last hkB
      obtain ⟨v, hv⟩ : ∃ v, v = B.getD k 0 := ⟨_, rfl⟩
      rw [← hv] at c0 hno hnx hla
      have hpos := hR.pos
      have hz := hR.zero
      have hpr := hR.prev
      have HNX := Lib.hid hnx
      have HNO := Lib.hid hno
      have HLA := Lib.hid hla
      have HV := Lib.hid hv
      have wn : IntKind.i64.wrap ((p : Int) - 1) = (p : Int) - 1 := by rw [IntWalk.i64_left]; unfold wrap64; omega
      have z0 : (0 : Int) ≤ (k : Int) := by omega
      have z1 : (k : Int) < (p : Int) := by omega
      clear hkB hR hno hnx hla hv
      by_cases a1 : v < -1
      · clear cp hz hpr
        go_wp2_with fail
        go_ret2
        exact ⟨rfl, hB.out⟩
      · by_cases a2 : v = -1
        · subst a2
          by_cases a3 : k + 1 = p
          · have e := HLA.out rfl (by have := HP.out; omega)
            rw [HR.out] at e
            cases e
          · have a4 : (k : Int) < (p : Int) - 1 := by omega
            clear cp hz hpr
            go_wp2_with fail
            go_ret2
            exact ⟨rfl, hB.out⟩
        · have a5 : 0 ≤ v := by omega
          by_cases a6 : k = 0
          · have a7 := hz a6
            have HN2 := Lib.hid (HNX.out a5 (by omega))
            have a8 : (k : Int) = 0 := by omega
            clear cp hz hpr a7
            subst a6
            rw [Nat.add_zero] at c0
            go_wp2_with fail
            go_roundw
            case rel => exact ⟨0 + 1, by omega, by go_num, Lib.hid ⟨_, HN2.out⟩, hB⟩
            case measure => simp [intOf]; omega
          · have c1 := cp (by omega)
            obtain ⟨k', hk'⟩ : ∃ k', k = k' + 1 := ⟨k - 1, by omega⟩
            have e1 : k - 1 = k' := by omega
            replace hpr := hpr (by omega)
            rw [e1] at c1 hpr
            rw [← hpr] at c1
            have w3 : IntKind.i64.wrap ((k : Int) - 1) = (k' : Int) := by rw [IntWalk.i64_left]; unfold wrap64; omega
            have a7 : (0 : Int) < (k : Int) := by omega
            have a9 : (0 < k) = True := eq_true (by omega)
            have y0 : (0 : Int) ≤ (k' : Int) := by omega
            have y1 : (k' : Int) < (p : Int) := by omega
            by_cases a8 : v < lo
            · clear cp hz hpr hk' e1
              go_wp2_with fail
              go_ret2
              exact ⟨rfl, hB.out⟩
            · have HN2 := Lib.hid (HNX.out a5 (by omega))
              clear cp hz hpr hk' e1
              go_wp2_with fail
              go_roundw
              case rel => exact ⟨k + 1, by omega, by go_num, Lib.hid ⟨_, HN2.out⟩, hB⟩
              case measure => simp [intOf]; omega
    · obtain rfl : k = p := by omega
      obtain ⟨lo, hR⟩ := hS.out
      have e := (show Rs B B.length lo by rw [← HP.out]; exact hR).fin
      rw [HR.out] at e
      cases e
set_option maxHeartbeats 4000000 in
theorem rlayers_y (KS : StepsOk) (a b : Option Addr) (n m p q : Nat) (cs : List Cv) (B : List Int) (W : World) (hC : HoldsCv W a cs) (hn : n = cs.length) (hok : okC cs) (hp : p ≤ 16) (hB : HoldsI W b B) (hpB : p = B.length) (hr : rise 0 B = true) :
    Calls Try.prog 12 #[.slice a n m, .slice b p q] W fun e w' => ∃ sv mv vs, e = .returned (.tuple #[.slice sv p mv, .int .i64 0]) ∧ w'.ownsRow W.heap.size 25 1 (.slice sv p mv) p vs ∧ (∀ j, j < p → ∃ g, vs.getD j undef = .slice (some ⟨g, 0, none⟩) n n ∧ Blk w' g 3 (cI (chs cs (B.getD j 0)))) ∧ Below W.heap.size W w' := by
  have h1 : ¬ (16 : Int) < (p : Int) := by omega
  have kc := vcurves_c a m n cs W hC hn (by have := hok.1; omega) 0 ⟨fun _ => rfl, fun h => absurd hok h⟩
  have kb := fun (v : Int) (hv : -1 ≤ v) (W1 : World) (h : Below W.heap.size W W1) => rchoose_y KS a n m v cs W1 (hC.below h (Nat.le_refl _)) hn hok hv
  obtain ⟨i0, hi, hz0, hz1, hz2⟩ := info_parts infoTI
  have KB := Lib.hid kb
  have HBU := Lib.hid hB
  have HP := Lib.hid hpB
  have HR := Lib.hid hr
  have HP2 := Lib.hid hp
  have HGE := Lib.hid (rise_ge B 0 (Int.le_refl _) hr)
  clear hC hn hok hB hpB hr hp kb
  go_enter Try.func12, Try.ntmps12
  go_wp2_with (first | (go_at_call 17; (with_reducible refine kc.mono ?_); rintro e w1 ⟨rfl, hb⟩; have B1 := Lib.hid hb; clear hb kc) | fail)
  go_loopw [24] (fun i wr => ∃ k : Nat, k ≤ p ∧ i = .int .i64 (k : Int) ∧ Hid ((∃ lo, Rs B k lo) ∨ k = p) ∧ Hid (Below W.heap.size W wr)) (fun i _ => p - (intOf i).toNat)
  case atStart => exact ⟨0, Nat.zero_le _, rfl, Lib.hid (.inl ⟨0, Rs.start B⟩), B1⟩
  case round =>
    obtain ⟨k, hk, rfl, hS, hB⟩ := hrel
    obtain ⟨w0, rfl⟩ : ∃ w0 : World, w0 = wr := ⟨_, rfl⟩
    have hp9 := HP2.out
    by_cases hlt : k < p
    · have hkB : k < B.length := by have := HP.out; omega
      obtain ⟨lo, hR⟩ : ∃ lo, Rs B k lo := by rcases hS.out with h | h; exact h; omega
      obtain ⟨bb, off, rfl, c0⟩ := (HBU.out.below hB.out (Nat.le_refl _)).at hkB
      have cp : 0 < k → w0.cell? ⟨bb, off + (k - 1), none⟩ = some (.int .i64 (B.getD (k - 1) 0)) := fun h => (HBU.out.below hB.out (Nat.le_refl _)).of (by omega)
      have hno := fun h h1 => hR.no hkB h h1
      have hnx := hR.next hkB
      have hla := hR.last hkB
      obtain ⟨v, hv⟩ : ∃ v, v = B.getD k 0 := ⟨_, rfl⟩
      rw [← hv] at c0 hno hnx hla
      have hpos := hR.pos
      have hz := hR.zero
      have hpr := hR.prev
      have HNX := Lib.hid hnx
      have HNO := Lib.hid hno
      have HLA := Lib.hid hla
      have HV := Lib.hid hv
      have wn : IntKind.i64.wrap ((p : Int) - 1) = (p : Int) - 1 := by rw [IntWalk.i64_left]; unfold wrap64; omega
      have z0 : (0 : Int) ≤ (k : Int) := by omega
      have z1 : (k : Int) < (p : Int) := by omega
      clear hkB hR hno hnx hla hv
      have b1 : ¬ v < lo ∨ (v = -1 ∧ k + 1 = p) := by
        by_cases c : v < lo
        · by_cases d : v = -1 ∧ k + 1 = B.length
          · exact .inr (by have := HP.out; exact ⟨d.1, by omega⟩)
          · have e := HNO.out c d
            rw [HR.out] at e
            cases e
        · exact .inl c
      by_cases a2 : v = -1
      · subst a2
        have a3 : k + 1 = p := by rcases b1 with h | h; omega; exact h.2
        have a4 : ¬ (k : Int) < (p : Int) - 1 := by omega
        have a5 : (k : Int) + 1 = (p : Int) := by omega
        clear cp hz hpr b1
        go_wp2_with fail
        go_roundw
        case rel => exact ⟨k + 1, by omega, by go_num, Lib.hid (.inr a3), hB⟩
        case measure => simp [intOf]; omega
      · have a5 : 0 ≤ v := by omega
        by_cases a6 : k = 0
        · have a7 := hz a6
          have HN2 := Lib.hid (HNX.out a5 (by omega))
          have a8 : (k : Int) = 0 := by omega
          clear cp hz hpr a7
          subst a6
          rw [Nat.add_zero] at c0
          go_wp2_with fail
          go_roundw
          case rel => exact ⟨0 + 1, by omega, by go_num, Lib.hid (.inl ⟨_, HN2.out⟩), hB⟩
          case measure => simp [intOf]; omega
        · have c1 := cp (by omega)
          obtain ⟨k', hk'⟩ : ∃ k', k = k' + 1 := ⟨k - 1, by omega⟩
          have e1 : k - 1 = k' := by omega
          replace hpr := hpr (by omega)
          rw [e1] at c1 hpr
          rw [← hpr] at c1
          have w3 : IntKind.i64.wrap ((k : Int) - 1) = (k' : Int) := by rw [IntWalk.i64_left]; unfold wrap64; omega
          have a7 : (0 : Int) < (k : Int) := by omega
          have a9 : (0 < k) = True := eq_true (by omega)
          have y0 : (0 : Int) ≤ (k' : Int) := by omega
          have y1 : (k' : Int) < (p : Int) := by omega
          by_cases a8 : v < lo
          · exact absurd a8 (by rcases b1 with h | h; exact h; exact absurd h.1 a2)
          · have HN2 := Lib.hid (HNX.out a5 (by omega))
            clear cp hz hpr hk' e1
            go_wp2_with fail
            go_roundw
            case rel => exact ⟨k + 1, by omega, by go_num, Lib.hid (.inl ⟨_, HN2.out⟩), hB⟩
            case measure => simp [intOf]; omega
    · obtain rfl : k = p := by omega
      clear hS
      go_wp2_with fail
      go_loopw [9, 62] (fun v i wr => ∃ j : Nat, ∃ sv : Option Addr, ∃ mv : Nat, ∃ vs : List Value, v = .slice sv j mv ∧ j ≤ k ∧ i = .int .i64 (j : Int) ∧ Hid (wr.ownsRow W.heap.size 25 1 (.slice sv j mv) j vs) ∧ Hid (∀ x, x < j → ∃ g, vs.getD x undef = .slice (some ⟨g, 0, none⟩) n n ∧ Blk wr g 3 (cI (chs cs (B.getD x 0)))) ∧ Hid (Below W.heap.size W wr)) (fun _ i _ => k - (intOf i).toNat)
      case atStart => exact ⟨0, none, 0, [], rfl, Nat.zero_le _, rfl, Lib.hid (World.ownsRow_nil _ _ _ _), Lib.hid (fun x hx => absurd hx (Nat.not_lt_zero _)), hB⟩
      case round =>
        obtain ⟨j, sv, mv, vs, rfl, hj, rfl, hO, hV, hB2⟩ := hrel
        obtain ⟨w2, rfl⟩ : ∃ w2 : World, w2 = wr := ⟨_, rfl⟩
        by_cases hjk : j < k
        · have hjB : j < B.length := by have := HP.out; omega
          obtain ⟨bb, off, rfl, c0⟩ := (HBU.out.below hB2.out (Nat.le_refl _)).at hjB
          have hge := HGE.out (B.getD j 0) (by rw [List.getD_eq_getElem?_getD, List.getElem?_eq_getElem hjB]; exact List.getElem_mem hjB)
          have kb := KB.out (B.getD j 0) hge w2 hB2.out
          obtain ⟨l, hl⟩ : ∃ l, l = chs cs (B.getD j 0) := ⟨_, rfl⟩
          rw [← hl] at kb
          have HLL := Lib.hid hl
          generalize B.getD j 0 = v at c0 kb
          have z0 : (0 : Int) ≤ (j : Int) := by omega
          have z1 : (j : Int) < (k : Int) := by omega
          have HJ := Lib.hid hjk
          clear hge hl hjB
          go_wp2_with (first | (go_at_call 9; (with_reducible refine kb.mono ?_); rintro e w3 ⟨g, rfl, hd, hb⟩; have B3 := Lib.hid (hB2.out.trans (hb.mono hB2.out.size)); have HD := Lib.hid hd; have HV3 := Lib.hid (fun x hx => by obtain ⟨g9, e9, h9⟩ := hV.out x hx; exact (⟨g9, e9, h9.below hb⟩ : ∃ g, vs.getD x undef = .slice (some ⟨g, 0, none⟩) n n ∧ Blk w3 g 3 (cI (chs cs (B.getD x 0))))); have HO3 := Lib.hid (own4_below (own4_below hO.out hb (Nat.le_refl _)) (below_alloc (Below.refl w3.heap.size w3) (.cells #[.slice (some ⟨g, 0, none⟩) n n] 25)) (Nat.le_refl _)); clear hb hd kb) | (at_builtin; refine wpList_append_own_at _ rfl _ _ 31 rfl W.heap.size 25 i0 (.slice none 0 0) 1 24 Try.underlying31 hi hz0 hz1 hz2 rfl (by decide) (.slice sv j mv) j _ rfl HO3.out ⟨w3.heap.size, 0, none⟩ 1 1 [.slice (some ⟨g, 0, none⟩) n n] rfl rfl (cell_one_new _ _ _) (by intro u hu; simp at hu; subst hu; rfl) (by unfold maxLen; omega) (by omega) (below_alloc B3.out _).size ?_) | fail)
          intro v' w4 hown hgrow _ hat
          obtain ⟨sv2, mv2, rfl⟩ := own4_slice hown
          have hlen : vs.length = j := by have := hO.out.1; omega
          have HV4 := Lib.hid (show ∀ x, x < j + 1 → ∃ ga, (vs ++ [Value.slice (some ⟨g, 0, none⟩) n n]).getD x undef = .slice (some ⟨ga, 0, none⟩) n n ∧ Blk w4 ga 3 (cI (chs cs (B.getD x 0))) from fun x hx => by
            rcases Nat.lt_or_ge x j with q | q
            · obtain ⟨g9, e9, h9⟩ := HV3.out x q
              refine ⟨g9, ?_, (h9.alloc _).grown hgrow (fun e => own_blk_ne HO3.out (h9.alloc _) (by decide) e.symm)⟩
              rw [List.getD_eq_getElem?_getD, List.getElem?_append_left (by omega), ← List.getD_eq_getElem?_getD]; exact e9
            · obtain rfl : x = j := by omega
              refine ⟨_, ?_, (Blk.alloc (by rw [← HLL.out]; exact HD.out) _).grown hgrow (fun e => own_blk_ne HO3.out (HD.out.alloc _) (by decide) e.symm)⟩
              rw [List.getD_eq_getElem?_getD, List.getElem?_append_right (by omega), hlen, Nat.sub_self]; rfl)
          have HB4 := Lib.hid ((below_alloc B3.out _).grown hgrow (below_alloc B3.out _).size (fun q hq => (own4_lt HO3.out q hq).1))
          have HOW := Lib.hid hown
          clear hown hgrow hat hlen
          go_wp2_with fail
          go_roundw
          case rel => exact ⟨j + 1, sv2, mv2, _, rfl, HJ.out, by go_num, HOW, HV4, HB4⟩
          case measure => have := HJ.out; simp [intOf]; omega
        · obtain rfl : j = k := by omega
          go_wp2_with fail
          go_ret2
          exact ⟨sv, mv, vs, rfl, hO.out, hV.out, hB2.out⟩
end Go.Proofs.Ytkohdiajpdlkjaa
