/-
  What each call of lift returns and leaves: contracts.
-/
import Derived.Test.YtnfnidgabgdphaaLiftI
import Derived.Test.YtnfnidgabgdphaaExtC
import Derived.Shelf.Abstract
import Derived.Lib.SliceRun
set_option maxRecDepth 100000
namespace Go.Proofs.Ytnfnidgabgdphaa
open Go.RowKit

set_option maxHeartbeats 1000000 in
theorem kn_q (k : Int) (w : World) : Calls Try.prog 85 #[.int .i64 k] w fun e w' => e = .returned (.bool (kB k)) ∧ w = w' := by
  by_cases h1 : k = 1
  · subst h1
    go_enter Try.func85, Try.ntmps85
    go_wp2
    go_ret
    exact ⟨rfl, rfl⟩
  · by_cases h2 : k = 2
    · subst h2
      go_enter Try.func85, Try.ntmps85
      go_wp2
      go_ret
      exact ⟨rfl, rfl⟩
    · by_cases h3 : k = 3
      · subst h3
        go_enter Try.func85, Try.ntmps85
        go_wp2
        go_ret
        exact ⟨rfl, rfl⟩
      · go_enter Try.func85, Try.ntmps85
        go_wp2
        all_goals
          go_ret
          exact ⟨ret_bool (by simp [kB, h1, h2, h3]), rfl⟩
def outB (v b : Int) : Bool := decide (v < -b ∨ b < v)
set_option maxHeartbeats 1000000 in
theorem wi1_q (v b : Int) (bx : Nat) (W : World) (hb : 0 ≤ b) (hb' : b ≤ 4611686018427387904) (hx : W.cell? ⟨bx, 0, none⟩ = some (.int .i64 b)) :
    Calls Try.prog 131 #[.int .i64 v, .pointer (some ⟨bx, 0, none⟩)] W fun e w' => e = .returned (.bool (outB v b)) ∧ w' = W := by
  have w1 : IntKind.i64.wrap (-b) = -b := IntWalk.i64_in _ (by omega)
  by_cases h1 : v < -b
  · go_enter Try.func131, Try.ntmps131
    go_wp2
    go_ret
    exact ⟨ret_bool (by simp [outB, h1]), rfl⟩
  · by_cases h2 : b < v
    · go_enter Try.func131, Try.ntmps131
      go_wp2
      go_ret
      exact ⟨ret_bool (by simp [outB, h2]), rfl⟩
    · go_enter Try.func131, Try.ntmps131
      go_wp2
      go_ret
      exact ⟨ret_bool (by simp [outB, h1, h2]), rfl⟩
/-- The place of the first number outside. -/
def GivesPlace (l : List Int) (b : Int) (w : World) (e : Ending) (w' : World) : Prop := ∃ r : Int, e = .returned (.int .i64 r) ∧ (fewB l b = true → r = -1) ∧ (fewB l b = false → 0 ≤ r) ∧ w' = w
set_option maxHeartbeats 1000000 in
theorem ix_q (l : List Int) (b : Int) (s : Option Addr) (m bx : Nat) (w : World) (hb : 0 ≤ b) (hb' : b ≤ 4611686018427387904) (hl : l.length ≤ 9223372036854775807) (hH : HoldsI w s l) (hx : w.cell? ⟨bx, 0, none⟩ = some (.int .i64 b)) :
    Calls Try.prog 145 #[.slice s l.length m, .func (.func 131) #[] #[.pointer (some ⟨bx, 0, none⟩)]] w (GivesPlace l b w) := by
  go_enter Try.func145, Try.ntmps145
  go_wp2_with fail
  go_loopw [5, 8] (fun _ i wr => ∃ k : Nat, k ≤ l.length ∧ i = .int .i64 k ∧ (∀ j (hj : j < l.length), j < k → -b ≤ l[j] ∧ l[j] ≤ b) ∧ w = wr) (fun _ i _ => l.length - (intOf i).toNat)
  case atStart => exact ⟨0, Nat.zero_le _, rfl, fun j _ h => absurd h (Nat.not_lt_zero _), rfl⟩
  case round =>
    obtain ⟨k, hk, rfl, hall, rfl⟩ := hrel
    have HA : Hid _ := hall
    clear hall
    by_cases hlt : k < l.length
    · rcases hH with rfl | ⟨bb, off, rfl, hr⟩
      · simp at hlt
      have y0 := hr k hlt
      have hki : (k : Int) < (l.length : Int) := by omega
      have w2 : IntKind.i64.wrap ((k : Int) + 1) = (k : Int) + 1 := IntWalk.i64_in _ (by omega)
      have HF : Hid (b < l[k] ∨ l[k] < -b → fewB l b = false) := few_none hlt
      have HV : Hid (-b ≤ l[k] → l[k] ≤ b → ∀ j (hj : j < l.length), j < k + 1 → -b ≤ l[j] ∧ l[j] ≤ b) := fun a c j hj hjk => if e : j = k then by subst e; exact ⟨a, c⟩ else HA.out j hj (by omega)
      generalize l[k] = V at *
      have cW := wi1_q V b bx w hb hb' hx
      cases ho : outB V b with
      | true =>
        rw [ho] at cW
        have hf := HF.out (by have := of_decide_eq_true ho; omega)
        clear HF HV HA
        go_wp2_with (first | (go_at_call 131; (with_reducible refine cW.mono ?_); rintro e wn ⟨rfl, rfl⟩))
        go_ret
        exact ⟨_, rfl, fun h => by rw [hf] at h; exact absurd h (by decide), fun _ => by omega, rfl⟩
      | false =>
        rw [ho] at cW
        have HN : Hid _ := HV.out (by have := of_decide_eq_false ho; omega) (by have := of_decide_eq_false ho; omega)
        clear HF HV HA
        go_wp2_with (first | (go_at_call 131; (with_reducible refine cW.mono ?_); rintro e wn ⟨rfl, rfl⟩))
        go_roundw
        case rel => exact ⟨k + 1, by omega, by go_num, HN.out, by first | trivial | rfl⟩
        case measure => simp [intOf]; omega
    · obtain rfl : k = l.length := by omega
      have hf := few_all fun j hj => HA.out j hj hj
      clear HA
      go_wp2
      go_ret
      exact ⟨_, rfl, fun _ => rfl, fun h => by rw [hf] at h; exact absurd h (by decide), rfl⟩
theorem co_q (l : List Int) (b : Int) (s : Option Addr) (m bx : Nat) (w : World) (hb : 0 ≤ b) (hb' : b ≤ 4611686018427387904) (hl : l.length ≤ 9223372036854775807) (hH : HoldsI w s l) (hx : w.cell? ⟨bx, 0, none⟩ = some (.int .i64 b)) :
    Calls Try.prog 130 #[.slice s l.length m, .func (.func 131) #[] #[.pointer (some ⟨bx, 0, none⟩)]] w fun e w' => e = .returned (.bool (!fewB l b)) ∧ w' = w := by
  have cI := ix_q l b s m bx w hb hb' hl hH hx
  cases hf : fewB l b with
  | true =>
    go_enter Try.func130, Try.ntmps130
    go_wp2_with fail
    refine cI.mono ?_
    rintro e w' ⟨r, rfl, h1, h2, rfl⟩
    obtain rfl := h1 hf
    clear h1 h2
    go_wp2
    go_ret
    exact ⟨rfl, rfl⟩
  | false =>
    go_enter Try.func130, Try.ntmps130
    go_wp2_with fail
    refine cI.mono ?_
    rintro e w' ⟨r, rfl, h1, h2, rfl⟩
    have h3 := h2 hf
    clear h1 h2
    go_wp2
    go_ret
    exact ⟨rfl, rfl⟩
theorem wi_q (l : List Int) (b : Int) (s : Option Addr) (m : Nat) (w : World) (hb : 0 ≤ b) (hb' : b ≤ 4611686018427387904) (hl : l.length ≤ 9223372036854775807) (hH : HoldsI w s l) :
    Calls Try.prog 110 #[.slice s l.length m, .int .i64 b] w fun e w' => e = .returned (.bool (fewB l b)) ∧ Below w.heap.size w w' := by
  have cC := co_q l b s m w.heap.size (w.alloc (.cells #[.int .i64 b] 3)) hb hb' hl (hH.alloc _) (by simp)
  have B : Below w.heap.size w (w.alloc (.cells #[.int .i64 b] 3)) := (Below.refl _ _).alloc (Nat.le_refl _) _
  go_enter Try.func110, Try.ntmps110
  go_wp2_with fail
  refine cC.mono ?_
  rintro e w' ⟨rfl, rfl⟩
  go_wp2
  go_ret
  exact ⟨ret_bool (by simp), B⟩
set_option maxHeartbeats 1000000 in
theorem cl_q (l : List Int) (s : Option Addr) (m : Nat) (w : World) (hs : s = none → l.length = 0 ∧ m = 0) (hl : l.length ≤ 4096) (hH : HoldsI w s l) :
    Calls Try.prog 111 #[.slice s l.length m] w fun e w' => ∃ v, e = .returned v ∧ Gl w v l w' := by
  obtain ⟨i0, hi, hz0, hz1, hz2⟩ := info_parts infoI
  have q22 : ∀ (w : World) (a : Option Addr) (n c n' c' : Nat), (binOp .eql 28 (.slice a n c) (.slice none n' c')).run Try.prog w = .ok (.bool a.isNone) w := fun w a n c n' c' => Go.Lib.run_eql_slice_nil w _ _ a n c n' c' Try.underlying28
  cases s with
  | some p =>
    have HN : Hid _ := holdsI_list (hH.alloc (.cells #[] 3))
    go_enter Try.func111, Try.ntmps111
    go_wp2_with (first | (at_builtin; refine wpList_append_own _ rfl _ _ 28 rfl w.heap.size 3 i0 (.int .i64 0) 1 8 Try.underlying28 hi hz0 hz1 hz2 rfl (by decide) _ 0 [] rfl (World.ownsRow_made w #[] 0 (Nat.le_refl _) (by decide) (by simp)) p l.length m (l.map (Value.int .i64)) rfl (by simp) HN.out (oneI _) (by unfold maxLen; omega) (by omega) (by simp) ?_))
    intro v' w0 hown hgrow _
    have GB : Gl w v' l w0 := ⟨(below_alloc (Below.refl _ w) _).grown hgrow (below_alloc (Below.refl _ w) _).size (fun k hk => by simp [Value.ownBlock] at hk; omega), by simpa using hown⟩
    have HG : Hid _ := GB
    clear hown hgrow GB
    go_wp2
    go_ret
    exact ⟨_, rfl, HG.out⟩
  | none =>
    obtain ⟨h0, rfl⟩ := hs rfl
    obtain rfl := List.length_eq_zero_iff.1 h0
    go_enter Try.func111, Try.ntmps111
    go_wp2
    go_ret
    exact ⟨_, rfl, Gl.start (Below.refl _ _)⟩
theorem fo_q (n : Int) (h0 : 0 ≤ n) (w : World) : Calls Try.prog 114 #[.int .i64 n] w fun e w' => e = .returned (.int .i64 (1 - n % 2)) ∧ w = w' := by
  have t1 : n.tmod 2 = n % 2 := Int.tmod_eq_emod_of_nonneg h0
  have w1 : IntKind.i64.wrap (1 - n % 2) = 1 - n % 2 := IntWalk.i64_in _ (by omega)
  go_enter Try.func114, Try.ntmps114
  go_wp2
  go_ret
  exact ⟨rfl, rfl⟩
theorem fe_q (n : Int) (h0 : 0 ≤ n) (w : World) : Calls Try.prog 115 #[.int .i64 n] w fun e w' => e = .returned (.int .i64 (n % 2)) ∧ w = w' := by
  have t1 : n.tmod 2 = n % 2 := Int.tmod_eq_emod_of_nonneg h0
  go_enter Try.func115, Try.ntmps115
  go_wp2
  go_ret
  exact ⟨rfl, rfl⟩
/-- One world is another with but one block changed, and new blocks. -/
def SameBut (g : Nat) (a b : World) : Prop := a.heap.size ≤ b.heap.size ∧ ∀ k, k < a.heap.size → k ≠ g → b.heap[k]? = a.heap[k]?
theorem SameBut.refl (g : Nat) (a : World) : SameBut g a a := ⟨Nat.le_refl _, fun _ _ _ => rfl⟩
theorem SameBut.trans {g : Nat} {a b c : World} (h : SameBut g a b) (h' : SameBut g b c) : SameBut g a c := ⟨Nat.le_trans h.1 h'.1, fun k hk hn => (h'.2 k (Nat.lt_of_lt_of_le hk h.1) hn).trans (h.2 k hk hn)⟩
theorem SameBut.drewN {g : Nat} {a b : World} (h : SameBut g a b) (q : Nat) : SameBut g a (b.drewN q) := h
theorem SameBut.drew {g : Nat} {a b : World} (h : SameBut g a b) : SameBut g a b.drew := h
theorem SameBut.set {g j : Nat} {a b : World} (h : SameBut g a b) (v : Value) : SameBut g a (b.setCell ⟨g, j, none⟩ v) :=
  ⟨by simpa using h.1, fun k hk hn => (Below.heap_setCell _ _ _ _ hn).trans (h.2 k hk hn)⟩
theorem SameBut.cell {g b o : Nat} {w w1 : World} {v : Value} (h : SameBut g w w1) (hc : w.cell? ⟨b, o, none⟩ = some v) (hn : b ≠ g) : w1.cell? ⟨b, o, none⟩ = some v :=
  (World.cell?_of_block (w := w) (h.2 b (cell_lt hc) hn)).trans hc
theorem HoldsI.drewN {w : World} {s : Option Addr} {l : List Int} (h : HoldsI w s l) (q : Nat) : HoldsI (w.drewN q) s l := h
/-- The blocks that the steps of a kernel read besides the signal's own. -/
structure Bx (W : World) (g n m bx ba br : Nat) : Prop where
  cx : W.cell? ⟨bx, 0, none⟩ = some (.slice (some ⟨g, 0, none⟩) n m)
  ca : W.cell? ⟨ba, 0, none⟩ = some (.func (.func 146) #[] #[.pointer (some ⟨bx, 0, none⟩)])
  cr : W.cell? ⟨br, 0, none⟩ = some (.func (.func 133) #[] #[.pointer (some ⟨ba, 0, none⟩)])
  nx : bx ≠ g
  na : ba ≠ g
  nr : br ≠ g
theorem Bx.same {W W1 : World} {g n m bx ba br : Nat} (h : Bx W g n m bx ba br) (hs : SameBut g W W1) : Bx W1 g n m bx ba br :=
  ⟨hs.cell h.cx h.nx, hs.cell h.ca h.na, hs.cell h.cr h.nr, h.nx, h.na, h.nr⟩
theorem Bx.drewN {W : World} {g n m bx ba br : Nat} (h : Bx W g n m bx ba br) (q : Nat) : Bx (W.drewN q) g n m bx ba br := h.same ((SameBut.refl _ _).drewN q)
theorem ex_at {y : List Int} {i : Int} {k : Nat} (hk : k < y.length) (h : Ex.mirI i 0 y.length = k) : Ex.ex 0 y i = y[k] := by
  have := Ex.sg_at (s := 0) hk
  rw [Int.zero_add] at this
  rw [Ex.ex, Int.zero_add, h, this]
set_option maxHeartbeats 1000000 in
theorem at1_q (y : List Int) (i : Int) (g n m bx ba br : Nat) (W : World) (hX : Bx W g n m bx ba br) (hy : y.length = n) (hH : HoldsI W (some ⟨g, 0, none⟩) y) (hn : 0 < n) (hn' : n ≤ 4096) (hi : -100 ≤ i) (hi' : i ≤ 10000) :
    Calls Try.prog 146 #[.int .i64 i, .pointer (some ⟨bx, 0, none⟩)] W fun e w' => e = .returned (.int .i64 (Ex.ex 0 y i)) ∧ w' = W := by
  subst hy
  have hx := hX.cx
  obtain ⟨m0, m1⟩ := Ex.mir_mem (i := i) (lo := 0) (hi := y.length) (by omega)
  obtain ⟨k, hk⟩ : ∃ k : Nat, Ex.mirI i 0 y.length = (k : Int) := ⟨(Ex.mirI i 0 y.length).toNat, by omega⟩
  rw [hk] at m0 m1
  have hkl : k < y.length := by omega
  have y0 := holdsI_at hH hkl
  rw [Nat.zero_add] at y0
  rw [ex_at hkl hk]
  generalize y[k] = V at *
  have hmv : mirV i 0 y.length = (k : Int) := by rw [← hk]; exact if_pos ⟨by omega, vi_iff.2 (by omega), vi_iff.2 (by omega), vi_iff.2 (by omega)⟩
  have cM := mir_q i 0 y.length W
  rw [hmv] at cM
  by_cases h0 : i < 0
  · clear hk hmv
    go_enter Try.func146, Try.ntmps146
    go_wp2_with (go_at_call 147; (with_reducible refine cM.mono ?_); rintro e wn ⟨rfl, rfl⟩)
    go_ret
    exact ⟨rfl, rfl⟩
  · by_cases h1 : (y.length : Int) ≤ i
    · clear hk hmv
      go_enter Try.func146, Try.ntmps146
      go_wp2_with (go_at_call 147; (with_reducible refine cM.mono ?_); rintro e wn ⟨rfl, rfl⟩)
      go_ret
      exact ⟨rfl, rfl⟩
    · rw [Ex.mir_id (by omega) (by omega)] at hk
      subst hk
      clear hmv cM
      go_enter Try.func146, Try.ntmps146
      go_wp2
      go_ret
      exact ⟨rfl, rfl⟩
set_option maxHeartbeats 1000000 in
theorem ar_q (y : List Int) (i d : Int) (g n m bx ba br : Nat) (W : World) (hX : Bx W g n m bx ba br) (hy : y.length = n) (hH : HoldsI W (some ⟨g, 0, none⟩) y) (hn : 0 < n) (hn' : n ≤ 4096) (hd : 0 ≤ d) (hd' : d ≤ 50) (hi : 0 ≤ i) (hi' : i ≤ 9000) (hw : Ex.within 9007199254740992 y) :
    Calls Try.prog 133 #[.int .i64 i, .int .i64 d, .pointer (some ⟨ba, 0, none⟩)] W fun e w' => e = .returned (.int .i64 (Ex.ex 0 y (i - d) + Ex.ex 0 y (i + d))) ∧ ∃ q, w' = W.drewN q := by
  have hca := hX.ca
  have w1 : IntKind.i64.wrap (i - d) = i - d := IntWalk.i64_in _ (by omega)
  have w2 : IntKind.i64.wrap (i + d) = i + d := IntWalk.i64_in _ (by omega)
  have c1 := fun q => at1_q y (i - d) g n m bx ba br (W.drewN q) (hX.drewN q) hy (hH.drewN q) hn hn' (by omega) (by omega)
  have c2 := fun q => at1_q y (i + d) g n m bx ba br (W.drewN q) (hX.drewN q) hy (hH.drewN q) hn hn' (by omega) (by omega)
  have b1 := Ex.ex_bd (s := 0) (by omega) hw (i - d)
  have b2 := Ex.ex_bd (s := 0) (by omega) hw (i + d)
  obtain ⟨a1, e1⟩ : ∃ a1, Ex.ex 0 y (i - d) = a1 := ⟨_, rfl⟩
  obtain ⟨a2, e2⟩ : ∃ a2, Ex.ex 0 y (i + d) = a2 := ⟨_, rfl⟩
  rw [e1] at b1 c1
  rw [e2] at b2 c2
  rw [e1, e2]
  have w3 : IntKind.i64.wrap (a1 + a2) = a1 + a2 := IntWalk.i64_in _ (by omega)
  have w3' : wrap64 (a1 + a2) = a1 + a2 := IntWalk.wrap64_in _ ⟨by omega, by omega⟩
  clear e1 e2 hX hH hw hy
  go_enter Try.func133, Try.ntmps133
  go_wp2_with fail
  go_quiet (first | (go_at_call 146; with_reducible exact Calls.quiet_of_same (c1 _)) | (go_at_call 146; with_reducible exact Calls.quiet_of_same (c2 _)))
  go_wp2
  go_ret
  exact ⟨rfl, _, rfl⟩
set_option maxHeartbeats 1000000 in
theorem s2_q (y : List Int) (i : Int) (g n m bx ba br : Nat) (W : World) (hX : Bx W g n m bx ba br) (hy : y.length = n) (hH : HoldsI W (some ⟨g, 0, none⟩) y) (hn : 0 < n) (hn' : n ≤ 4096) (hi : 0 ≤ i) (hi' : i ≤ 9000) (hw : Ex.within 9007199254740992 y) (kn : Int) (hk : kn = 2 ∨ kn = 3) :
    Calls Try.prog 134 #[.int .i64 i, .pointer (some ⟨br, 0, none⟩)] W fun e w' => e = .returned (.int .i64 (Ex.updF (Ex.ex 0 y) i kn)) ∧ ∃ q, w' = W.drewN q := by
  have hcr := hX.cr
  have c1 := ar_q y i 1 g n m bx ba br W hX hy hH hn hn' (by decide) (by decide) hi hi' hw
  have b1l := Ex.ex_bd (s := 0) (by omega) hw (i - 1)
  have b1r := Ex.ex_bd (s := 0) (by omega) hw (i + 1)
  obtain ⟨p1, e1l⟩ : ∃ a, Ex.ex 0 y (i - 1) = a := ⟨_, rfl⟩
  obtain ⟨r1, e1r⟩ : ∃ a, Ex.ex 0 y (i + 1) = a := ⟨_, rfl⟩
  rw [e1l] at b1l c1
  rw [e1r] at b1r c1
  rw [Ex.updF, if_neg (by omega), e1l, e1r]
  clear e1l e1r
  have w1 : IntKind.i64.wrap (p1 + r1 + 2) = p1 + r1 + 2 := IntWalk.i64_in _ (by omega)
  have w1' : wrap64 (p1 + r1 + 2) = p1 + r1 + 2 := IntWalk.wrap64_in _ ⟨by omega, by omega⟩
  clear hX hH hw hy
  go_enter Try.func134, Try.ntmps134
  go_wp2_with (go_at_call 133; (with_reducible refine c1.mono ?_); rintro e wn ⟨rfl, q, rfl⟩)
  go_ret
  exact ⟨rfl, _, rfl⟩
set_option maxHeartbeats 1000000 in
theorem s3_q (y : List Int) (i : Int) (g n m bx ba br : Nat) (W : World) (hX : Bx W g n m bx ba br) (hy : y.length = n) (hH : HoldsI W (some ⟨g, 0, none⟩) y) (hn : 0 < n) (hn' : n ≤ 4096) (hi : 0 ≤ i) (hi' : i ≤ 9000) :
    Calls Try.prog 135 #[.int .i64 i, .pointer (some ⟨ba, 0, none⟩)] W fun e w' => e = .returned (.int .i64 (Ex.predF (Ex.ex 0 y) i 1)) ∧ ∃ q, w' = W.drewN q := by
  have hca := hX.ca
  have w1 : IntKind.i64.wrap (i - 1) = i - 1 := IntWalk.i64_in _ (by omega)
  have c1 := at1_q y (i - 1) g n m bx ba br W hX hy hH hn hn' (by omega) (by omega)
  obtain ⟨p1, e1l⟩ : ∃ a, Ex.ex 0 y (i - 1) = a := ⟨_, rfl⟩
  rw [e1l] at c1
  rw [Ex.predF, if_pos rfl, e1l]
  clear e1l
  clear hX hH hy
  go_enter Try.func135, Try.ntmps135
  go_wp2_with (go_at_call 146; (with_reducible refine c1.mono ?_); rintro e wn ⟨rfl, rfl⟩)
  go_ret
  exact ⟨rfl, 0, rfl⟩
set_option maxHeartbeats 1000000 in
theorem s4_q (y : List Int) (i : Int) (g n m bx ba br : Nat) (W : World) (hX : Bx W g n m bx ba br) (hy : y.length = n) (hH : HoldsI W (some ⟨g, 0, none⟩) y) (hn : 0 < n) (hn' : n ≤ 4096) (hi : 0 ≤ i) (hi' : i ≤ 9000) :
    Calls Try.prog 136 #[.int .i64 i, .pointer (some ⟨ba, 0, none⟩)] W fun e w' => e = .returned (.int .i64 (Ex.updF (Ex.ex 0 y) i 1)) ∧ ∃ q, w' = W.drewN q := by
  have hca := hX.ca
  have w1 : IntKind.i64.wrap (i + 1) = i + 1 := IntWalk.i64_in _ (by omega)
  have c1 := at1_q y (i + 1) g n m bx ba br W hX hy hH hn hn' (by omega) (by omega)
  obtain ⟨p1, e1l⟩ : ∃ a, Ex.ex 0 y (i + 1) = a := ⟨_, rfl⟩
  rw [e1l] at c1
  rw [Ex.updF, if_pos rfl, e1l]
  clear e1l
  clear hX hH hy
  go_enter Try.func136, Try.ntmps136
  go_wp2_with (go_at_call 146; (with_reducible refine c1.mono ?_); rintro e wn ⟨rfl, rfl⟩)
  go_ret
  exact ⟨rfl, 0, rfl⟩
set_option maxHeartbeats 1000000 in
theorem s5_q (y : List Int) (i : Int) (g n m bx ba br : Nat) (W : World) (hX : Bx W g n m bx ba br) (hy : y.length = n) (hH : HoldsI W (some ⟨g, 0, none⟩) y) (hn : 0 < n) (hn' : n ≤ 4096) (hi : 0 ≤ i) (hi' : i ≤ 9000) (hw : Ex.within 9007199254740992 y) :
    Calls Try.prog 137 #[.int .i64 i, .pointer (some ⟨br, 0, none⟩)] W fun e w' => e = .returned (.int .i64 (Ex.predF (Ex.ex 0 y) i 2)) ∧ ∃ q, w' = W.drewN q := by
  have hcr := hX.cr
  have c1 := ar_q y i 1 g n m bx ba br W hX hy hH hn hn' (by decide) (by decide) hi hi' hw
  have b1l := Ex.ex_bd (s := 0) (by omega) hw (i - 1)
  have b1r := Ex.ex_bd (s := 0) (by omega) hw (i + 1)
  obtain ⟨p1, e1l⟩ : ∃ a, Ex.ex 0 y (i - 1) = a := ⟨_, rfl⟩
  obtain ⟨r1, e1r⟩ : ∃ a, Ex.ex 0 y (i + 1) = a := ⟨_, rfl⟩
  rw [e1l] at b1l c1
  rw [e1r] at b1r c1
  rw [Ex.predF, if_neg (by decide), if_pos rfl, e1l, e1r]
  clear e1l e1r
  clear hX hH hw hy
  go_enter Try.func137, Try.ntmps137
  go_wp2_with (go_at_call 133; (with_reducible refine c1.mono ?_); rintro e wn ⟨rfl, q, rfl⟩)
  go_ret
  exact ⟨rfl, _, rfl⟩
set_option maxHeartbeats 1000000 in
theorem s6_q (y : List Int) (i : Int) (g n m bx ba br : Nat) (W : World) (hX : Bx W g n m bx ba br) (hy : y.length = n) (hH : HoldsI W (some ⟨g, 0, none⟩) y) (hn : 0 < n) (hn' : n ≤ 4096) (hi : 0 ≤ i) (hi' : i ≤ 9000) (hw : Ex.within 9007199254740992 y) :
    Calls Try.prog 138 #[.int .i64 i, .pointer (some ⟨br, 0, none⟩)] W fun e w' => e = .returned (.int .i64 (Ex.predF (Ex.ex 0 y) i 3)) ∧ ∃ q, w' = W.drewN q := by
  have hcr := hX.cr
  have c1 := fun q => ar_q y i 1 g n m bx ba br (W.drewN q) (hX.drewN q) hy (hH.drewN q) hn hn' (by decide) (by decide) hi hi' hw
  have b1l := Ex.ex_bd (s := 0) (by omega) hw (i - 1)
  have b1r := Ex.ex_bd (s := 0) (by omega) hw (i + 1)
  obtain ⟨p1, e1l⟩ : ∃ a, Ex.ex 0 y (i - 1) = a := ⟨_, rfl⟩
  obtain ⟨r1, e1r⟩ : ∃ a, Ex.ex 0 y (i + 1) = a := ⟨_, rfl⟩
  rw [e1l] at b1l c1
  rw [e1r] at b1r c1
  have c2 := fun q => ar_q y i 3 g n m bx ba br (W.drewN q) (hX.drewN q) hy (hH.drewN q) hn hn' (by decide) (by decide) hi hi' hw
  have b2l := Ex.ex_bd (s := 0) (by omega) hw (i - 3)
  have b2r := Ex.ex_bd (s := 0) (by omega) hw (i + 3)
  obtain ⟨p2, e2l⟩ : ∃ a, Ex.ex 0 y (i - 3) = a := ⟨_, rfl⟩
  obtain ⟨r2, e2r⟩ : ∃ a, Ex.ex 0 y (i + 3) = a := ⟨_, rfl⟩
  rw [e2l] at b2l c2
  rw [e2r] at b2r c2
  rw [Ex.predF, if_neg (by decide), if_neg (by decide), e1l, e1r, e2l, e2r]
  clear e1l e1r e2l e2r
  have w1 : IntKind.i64.wrap (9 * (p1 + r1)) = 9 * (p1 + r1) := IntWalk.i64_in _ (by omega)
  have w1' : wrap64 (9 * (p1 + r1)) = 9 * (p1 + r1) := IntWalk.wrap64_in _ ⟨by omega, by omega⟩
  have w2 : IntKind.i64.wrap (9 * (p1 + r1) - (p2 + r2)) = 9 * (p1 + r1) - (p2 + r2) := IntWalk.i64_in _ (by omega)
  have w2' : wrap64 (9 * (p1 + r1) - (p2 + r2)) = 9 * (p1 + r1) - (p2 + r2) := IntWalk.wrap64_in _ ⟨by omega, by omega⟩
  have w3 : IntKind.i64.wrap (9 * (p1 + r1) - (p2 + r2) + 8) = 9 * (p1 + r1) - (p2 + r2) + 8 := IntWalk.i64_in _ (by omega)
  have w3' : wrap64 (9 * (p1 + r1) - (p2 + r2) + 8) = 9 * (p1 + r1) - (p2 + r2) + 8 := IntWalk.wrap64_in _ ⟨by omega, by omega⟩
  clear hX hH hw hy
  go_enter Try.func138, Try.ntmps138
  go_wp2_with fail
  go_quiet (first | (go_at_call 133; with_reducible exact Calls.quiet_of (c1 _)) | (go_at_call 133; with_reducible exact Calls.quiet_of (c2 _)))
  go_wp2
  go_ret
  exact ⟨rfl, _, rfl⟩
/-- What one pass over every other index leaves. -/
theorem mix_past {A B : List Int} {k : Nat} (hl : A.length = B.length) (hk : B.length ≤ k) : mixT A B k = A := by
  simp [mixT, List.take_of_length_le (hl ▸ hk), List.drop_eq_nil_of_le hk]
theorem mix_get {A B : List Int} {k j : Nat} (hl : A.length = B.length) (hj : j < B.length) : (mixT A B k)[j]'(by simp [mixT]; omega) = if j < k then A[j] else B[j] := by
  by_cases h : j < k
  · rw [if_pos h]
    simp only [mixT]
    rw [List.getElem_append_left (by simp; omega), List.getElem_take]
  · rw [if_neg h]
    simp only [mixT]
    rw [List.getElem_append_right (by simp; omega)]
    simp only [List.getElem_drop]
    congr 1
    simp; omega
/-- The world of a row whose number at a place is written: what is kept. -/
def ApplyTo (w w0 : World) (g : Nat) (A : List Int) (e : Ending) (w' : World) : Prop := e = .returned (.tuple #[]) ∧ Yr w w' g A ∧ SameBut g w0 w'
theorem Yr.drewN {w W : World} {g : Nat} {y : List Int} (h : Yr w W g y) (q : Nat) : Yr w (W.drewN q) g y := ⟨below_drewN h.below q, h.row, h.hg⟩
set_option maxRecDepth 100000 in
set_option maxHeartbeats 2000000 in
theorem apply_q (w w0 : World) (g n m f : Nat) (A B : List Int) (c : Int) (gf : Nat) (lb : Array Value) (F : Nat → Int) (eg : ∀ args w, (callFunc gf args).run Try.prog w = .ok (.enter gf args) w)
    (hf : f ≤ 1) (hlB : B.length = n) (hl : A.length = B.length) (hn : 1 < n) (hn' : n ≤ 4096) (hY0 : Yr w w0 g B)
    (hS : ∀ (k : Nat) (W : World), k < n → k % 2 = f % 2 → SameBut g w0 W → HoldsI W (some ⟨g, 0, none⟩) (mixT A B k) → Calls Try.prog gf (#[.int .i64 k] ++ lb) W fun e w' => e = .returned (.int .i64 (F k)) ∧ ∃ q, w' = W.drewN q)
    (hA1 : ∀ k (hk : k < B.length), k % 2 = f % 2 → A[k] = B[k] + c * F k) (hA0 : ∀ k (hk : k < B.length), k % 2 ≠ f % 2 → A[k] = B[k])
    (hbA : Ex.within 9007199254740992 A) (hbB : Ex.within 9007199254740992 B) :
    Calls Try.prog 113 #[.slice (some ⟨g, 0, none⟩) n m, .int .i64 f, .int .i64 c, .func (.func gf) #[] lb] w0 (ApplyTo w w0 g A) := by
  obtain ⟨J, hJ⟩ : ∃ J : Nat, (n - f + 1) / 2 = J := ⟨_, rfl⟩
  have w1 : IntKind.i64.wrap ((n : Int) - (f : Int)) = (n : Int) - (f : Int) := IntWalk.i64_in _ (by omega)
  have w2 : IntKind.i64.wrap ((n : Int) - (f : Int) + 1) = (n : Int) - (f : Int) + 1 := IntWalk.i64_in _ (by omega)
  have t1 : ((n : Int) - (f : Int) + 1).tdiv 2 = (J : Int) := by rw [Int.tdiv_eq_ediv_of_nonneg (by omega)]; omega
  have w3 : IntKind.i64.wrap (J : Int) = (J : Int) := IntWalk.i64_in _ (by omega)
  have HA0 : Hid _ := hA0
  have HA1 : Hid _ := hA1
  clear hA0 hA1
  have Y0 : Yr w w0 g (mixT A B (f + 2 * 0)) := by
    by_cases h : f = 0
    · subst h
      rw [show 0 + 2 * 0 = 0 by omega, mix_zero]; exact hY0
    · obtain rfl : f = 1 := by omega
      rw [show 1 + 2 * 0 = 0 + 1 by omega, ← mix_same hl (by omega) (HA0.out 0 (by omega) (by omega)), mix_zero]
      exact hY0
  clear hY0
  go_enter Try.func113, Try.ntmps113
  go_wp2_with fail
  go_loopw [8, 9, 16] (fun _ _ i wr => ∃ j : Nat, j ≤ J ∧ i = .int .i64 j ∧ Yr w wr g (mixT A B (f + 2 * j)) ∧ SameBut g w0 wr) (fun _ _ i _ => J - (intOf i).toNat)
  case atStart => exact ⟨0, Nat.zero_le _, rfl, Y0, SameBut.refl _ _⟩
  case round =>
    obtain ⟨j, hj, rfl, hY, hSB⟩ := hrel
    clear Y0
    by_cases hlt : j < J
    · have hji : (j : Int) < (J : Int) := by omega
      obtain ⟨k, hk⟩ : ∃ k : Nat, f + 2 * j = k := ⟨_, rfl⟩
      rw [hk] at hY
      have hkn : k < n := by omega
      have hkB : k < B.length := by omega
      have hkA : k < A.length := by omega
      have w4 : IntKind.i64.wrap ((j : Int) + 1) = (j : Int) + 1 := IntWalk.i64_in _ (by omega)
      have w5 : IntKind.i64.wrap (2 * (j : Int)) = 2 * (j : Int) := IntWalk.i64_in _ (by omega)
      have w5' : wrap64 (2 * (j : Int)) = 2 * (j : Int) := IntWalk.wrap64_in _ ⟨by omega, by omega⟩
      have w6 : IntKind.i64.wrap ((f : Int) + 2 * (j : Int)) = (k : Int) := by rw [IntWalk.i64_in _ (by omega)]; omega
      have hkf : k % 2 = f % 2 := by omega
      have gx := HA1.out k hkB hkf
      have y0 := hY.at (k := k) (by rw [mix_len hl]; exact hkB)
      rw [mix_at hl hkB] at y0
      have z1 := hY.free k
      have hset := fun q => (hY.drewN q).set (k := k) (by rw [mix_len hl]; exact hkB) (A[k]'hkA)
      rw [mix_next hl hkB] at hset
      have hnext : mixT A B (k + 1) = mixT A B (f + 2 * (j + 1)) := by
        by_cases h : k + 1 < B.length
        · rw [mix_same hl h (HA0.out _ h (by omega)), show k + 1 + 1 = f + 2 * (j + 1) by omega]
        · rw [mix_past hl (by omega), mix_past hl (by omega)]
      rw [hnext] at hset
      have hsb := fun q v => (hSB.drewN q).set (j := k) v
      have cP := hS k wr.drew hkn hkf hSB.drew hY.drew.holds
      have hSA := hbA _ (List.getElem_mem hkA)
      have hSB2 := hbB _ (List.getElem_mem hkB)
      generalize F k = P at *
      generalize A[k]'hkA = S at *
      generalize B[k]'hkB = X at *
      obtain ⟨Q, hQ⟩ : ∃ Q, c * P = Q := ⟨_, rfl⟩
      rw [hQ] at gx
      have w7 : IntKind.i64.wrap (c * P) = Q := by rw [hQ, IntWalk.i64_in _ (by omega)]
      have w7' : wrap64 (c * P) = Q := by rw [hQ]; exact IntWalk.wrap64_in _ ⟨by omega, by omega⟩
      have w8 : IntKind.i64.wrap (X + Q) = S := by rw [IntWalk.i64_in _ (by omega)]; exact gx.symm
      have hki : (k : Int) < (n : Int) := by omega
      have HY : Hid _ := hset
      have HSB : Hid _ := hsb
      clear hSA hSB2 gx hset hsb hY hSB hnext hQ hkf hk
      go_wp2_with fail
      go_region_law (first | (go_simp; go_at_fn gf; (with_reducible refine cP.mono ?_); rintro e wn ⟨rfl, q, rfl⟩; go_wp2_with fail))
      all_goals
        go_wp2
        go_roundw
        case rel => exact ⟨j + 1, by omega, by go_num, HY.out _, HSB.out _ _⟩
        case measure => simp [intOf]; omega
    · obtain rfl : j = J := by omega
      have HY : Hid (Yr w wr g A) := by
        rw [mix_past hl (by omega)] at hY; exact hY
      have HSB : Hid _ := hSB
      clear hY hSB
      go_wp2
      first | go_end0 | go_ret
      exact ⟨rfl, HY.out, HSB.out⟩
/-- What the steps of a kernel return, whatever the signal's numbers are by then. -/
def StepOf (W : World) (g n : Nat) (f : Nat) (lb : Array Value) (G : List Int → Int → Int) : Prop :=
  (∀ args w, (callFunc f args).run Try.prog w = .ok (.enter f args) w) ∧ ∀ (y : List Int) (i : Int) (W1 : World), SameBut g W W1 → y.length = n → HoldsI W1 (some ⟨g, 0, none⟩) y → 0 ≤ i → i ≤ 9000 → Ex.within 9007199254740992 y →
    Calls Try.prog f (#[.int .i64 i] ++ lb) W1 fun e w' => e = .returned (.int .i64 (G y i)) ∧ ∃ q, w' = W1.drewN q
/-- The two steps of a kernel. -/
def GivesSteps (g n : Nat) (kn : Int) (w0 : World) (e : Ending) (w' : World) : Prop :=
  ∃ pf plb uf ulb, e = .returned (.tuple #[.func (.func pf) #[] plb, .func (.func uf) #[] ulb]) ∧ Below w0.heap.size w0 w' ∧ StepOf w' g n pf plb (fun y i => Ex.predF (Ex.ex 0 y) i kn) ∧ StepOf w' g n uf ulb (fun y i => Ex.updF (Ex.ex 0 y) i kn)
theorem xt_q (s : Option Addr) (n m : Nat) (w : World) : Calls Try.prog 132 #[.slice s n m] w fun e w' => e = .returned (.func (.func 146) #[] #[.pointer (some ⟨w.heap.size, 0, none⟩)]) ∧ w' = w.alloc (.cells #[.slice s n m] 28) := by
  go_enter Try.func132, Try.ntmps132
  go_wp2
  go_ret
  exact ⟨rfl, rfl⟩
theorem bx_stepP (kn : Int) (W : World) (g n m bx ba br : Nat) (hX : Bx W g n m bx ba br) (hn : 0 < n) (hn' : n ≤ 4096) :
    (kn = 1 → StepOf W g n 135 #[.pointer (some ⟨ba, 0, none⟩)] (fun y i => Ex.predF (Ex.ex 0 y) i kn) ∧ StepOf W g n 136 #[.pointer (some ⟨ba, 0, none⟩)] (fun y i => Ex.updF (Ex.ex 0 y) i kn)) ∧
    (kn = 2 → StepOf W g n 137 #[.pointer (some ⟨br, 0, none⟩)] (fun y i => Ex.predF (Ex.ex 0 y) i kn)) ∧
    (kn = 3 → StepOf W g n 138 #[.pointer (some ⟨br, 0, none⟩)] (fun y i => Ex.predF (Ex.ex 0 y) i kn)) ∧
    (kn = 2 ∨ kn = 3 → StepOf W g n 134 #[.pointer (some ⟨br, 0, none⟩)] (fun y i => Ex.updF (Ex.ex 0 y) i kn)) := by
  refine ⟨fun h => ?_, fun h => ?_, fun h => ?_, fun h => ?_⟩
  · subst h
    exact ⟨⟨enters_of (fn := Try.f135) (by kernel_rfl) (by kernel_rfl) rfl, fun y i W1 hs hy hH hi hi' _ => s3_q y i g n m bx ba br W1 (hX.same hs) hy hH hn hn' hi hi'⟩,
      ⟨enters_of (fn := Try.f136) (by kernel_rfl) (by kernel_rfl) rfl, fun y i W1 hs hy hH hi hi' _ => s4_q y i g n m bx ba br W1 (hX.same hs) hy hH hn hn' hi hi'⟩⟩
  · subst h
    exact ⟨enters_of (fn := Try.f137) (by kernel_rfl) (by kernel_rfl) rfl, fun y i W1 hs hy hH hi hi' hw => s5_q y i g n m bx ba br W1 (hX.same hs) hy hH hn hn' hi hi' hw⟩
  · subst h
    exact ⟨enters_of (fn := Try.f138) (by kernel_rfl) (by kernel_rfl) rfl, fun y i W1 hs hy hH hi hi' hw => s6_q y i g n m bx ba br W1 (hX.same hs) hy hH hn hn' hi hi' hw⟩
  · exact ⟨enters_of (fn := Try.f134) (by kernel_rfl) (by kernel_rfl) rfl, fun y i W1 hs hy hH hi hi' hw => s2_q y i g n m bx ba br W1 (hX.same hs) hy hH hn hn' hi hi' hw kn h⟩
theorem new_cell (w : World) (v : Value) (t : TypeId) (k : Nat) (hk : k = w.heap.size) : (w.alloc (.cells #[v] t)).cell? ⟨k, 0, none⟩ = some v := by
  subst hk
  simp
theorem bx_fresh (w0 : World) (g n m : Nat) (t1 t2 t3 : TypeId) (hg : g < w0.heap.size) :
    Bx (((w0.alloc (.cells #[.slice (some ⟨g, 0, none⟩) n m] t1)).alloc (.cells #[.func (.func 146) #[] #[.pointer (some ⟨w0.heap.size, 0, none⟩)]] t2)).alloc (.cells #[.func (.func 133) #[] #[.pointer (some ⟨w0.heap.size + 1, 0, none⟩)]] t3)) g n m w0.heap.size (w0.heap.size + 1) (w0.heap.size + 1 + 1) ∧
    Below w0.heap.size w0 (((w0.alloc (.cells #[.slice (some ⟨g, 0, none⟩) n m] t1)).alloc (.cells #[.func (.func 146) #[] #[.pointer (some ⟨w0.heap.size, 0, none⟩)]] t2)).alloc (.cells #[.func (.func 133) #[] #[.pointer (some ⟨w0.heap.size + 1, 0, none⟩)]] t3)) := by
  refine ⟨⟨?_, ?_, ?_, by omega, by omega, by omega⟩, ((((Below.refl _ w0).alloc (Nat.le_refl _) _).alloc (by simp) _).alloc (by simp; omega) _)⟩
  · exact cell_alloc (cell_alloc (new_cell _ _ _ _ rfl) _) _
  · exact cell_alloc (new_cell _ _ _ _ (by simp)) _
  · exact new_cell _ _ _ _ (by simp)
theorem steps_q (g n m : Nat) (kn : Int) (w0 : World) (hk : kn = 1 ∨ kn = 2 ∨ kn = 3) (hg : g < w0.heap.size) (hn : 0 < n) (hn' : n ≤ 4096) :
    Calls Try.prog 112 #[.slice (some ⟨g, 0, none⟩) n m, .int .i64 kn] w0 (GivesSteps g n kn w0) := by
  have hsf := fun (w : World) (a : Addr) (k : Nat) (c : Array Value) (md : Mode) => run_store Try.prog w a (.func (.func k) #[] c) md rfl
  rcases hk with rfl | rfl | rfl
  · go_enter Try.func112, Try.ntmps112
    go_wp2_with (go_at_call 132; refine (xt_q _ _ _ _).mono ?_; rintro e wn ⟨rfl, rfl⟩)
    go_ret2
    obtain ⟨hX, hB⟩ := bx_fresh w0 g n m 28 54 46 hg
    have s := bx_stepP 1 _ g n m _ _ _ hX hn hn'
    exact ⟨_, _, _, _, rfl, hB, (s.1 rfl).1, (s.1 rfl).2⟩
  · go_enter Try.func112, Try.ntmps112
    go_wp2_with (go_at_call 132; refine (xt_q _ _ _ _).mono ?_; rintro e wn ⟨rfl, rfl⟩)
    go_ret2
    obtain ⟨hX, hB⟩ := bx_fresh w0 g n m 28 54 46 hg
    have s := bx_stepP 2 _ g n m _ _ _ hX hn hn'
    exact ⟨_, _, _, _, rfl, hB, s.2.1 rfl, s.2.2.2 (.inl rfl)⟩
  · go_enter Try.func112, Try.ntmps112
    go_wp2_with (go_at_call 132; refine (xt_q _ _ _ _).mono ?_; rintro e wn ⟨rfl, rfl⟩)
    go_ret2
    obtain ⟨hX, hB⟩ := bx_fresh w0 g n m 28 54 46 hg
    have s := bx_stepP 3 _ g n m _ _ _ hX hn hn'
    exact ⟨_, _, _, _, rfl, hB, s.2.2.1 rfl, s.2.2.2 (.inr rfl)⟩
theorem mix_par {st p : Int} {A B : List Int} {k : Nat} (hl : A.length = B.length) (h : ∀ j (hj : j < B.length), (st + (j : Int)) % 2 = p → A[j] = B[j]) {i : Int} (h0 : st ≤ i) (h1 : i < st + B.length) (hp : i % 2 = p) : Ex.sg st (mixT A B k) i = Ex.sg st B i := by
  obtain ⟨j, rfl⟩ : ∃ j : Nat, i = st + (j : Int) := ⟨(i - st).toNat, by omega⟩
  have hj : j < B.length := by omega
  rw [Ex.sg_at hj, Ex.sg_at (x := mixT A B k) (by rw [mix_len hl]; exact hj), mix_get hl hj]
  split
  · exact h j hj hp
  · rfl
theorem pred_mix {st kn : Int} {A B : List Int} {k : Nat} (hl : A.length = B.length) (hn : 1 < B.length) (h : ∀ j (hj : j < B.length), (st + (j : Int)) % 2 = 0 → A[j] = B[j]) (hk : (st + (k : Int)) % 2 = 1) :
    Ex.predF (Ex.ex 0 (mixT A B k)) k kn = Ex.predF (Ex.ex st B) (st + k) kn := by
  have e := Ex.pred_shift 0 st (mixT A B k) k kn
  rw [Int.zero_add] at e
  rw [← e, Int.add_comm]
  exact Ex.pred_congr hk fun j hj => Ex.ex_par (mix_len hl) hn (fun i h0 h1 h2 => mix_par hl h h0 h1 h2) hj
theorem upd_mix {st kn : Int} {A B : List Int} {k : Nat} (hl : A.length = B.length) (hn : 1 < B.length) (h : ∀ j (hj : j < B.length), (st + (j : Int)) % 2 = 1 → A[j] = B[j]) (hk : (st + (k : Int)) % 2 = 0) :
    Ex.updF (Ex.ex 0 (mixT A B k)) k kn = Ex.updF (Ex.ex st B) (st + k) kn := by
  have e := Ex.upd_shift 0 st (mixT A B k) k kn
  rw [Int.zero_add] at e
  rw [← e, Int.add_comm]
  exact Ex.upd_congr hk fun j hj => Ex.ex_par (mix_len hl) hn (fun i h0 h1 h2 => mix_par hl h h0 h1 h2) hj
theorem mix_within {b : Int} {A B : List Int} {k : Nat} (hA : Ex.within b A) (hB : Ex.within b B) : Ex.within b (mixT A B k) := by
  intro v hv
  simp only [mixT, List.mem_append] at hv
  rcases hv with hv | hv
  · exact hA v (List.mem_of_mem_take hv)
  · exact hB v (List.mem_of_mem_drop hv)
theorem Gl.base {w w1 W : World} {v : Value} {l : List Int} (hb : Below w.heap.size w w1) (h : Gl w1 v l W) : Gl w v l W := by
  refine ⟨below_call hb h.below, h.own.1, ?_⟩
  rcases h.own.2 with h' | ⟨g, cap, cur, rfl, h3, h4⟩
  · exact .inl h'
  · exact .inr ⟨g, cap, cur, rfl, Nat.le_trans hb.size h3, h4⟩
theorem pass_s1 (w w0 W0 : World) (g n m : Nat) (st kn : Int) (B : List Int) (pf : Nat) (plb : Array Value) (hlB : B.length = n) (hn : 1 < n) (hn' : n ≤ 4096) (hY : Yr w w0 g B) (hW : SameBut g W0 w0) (hS : StepOf W0 g n pf plb (fun y i => Ex.predF (Ex.ex 0 y) i kn))
    (hbA : Ex.within 9007199254740992 (Ex.step1 st B kn)) (hbB : Ex.within 9007199254740992 B) :
    Calls Try.prog 113 #[.slice (some ⟨g, 0, none⟩) n m, .int .i64 (1 - st % 2), .int .i64 (-1), .func (.func pf) #[] plb] w0 (ApplyTo w w0 g (Ex.step1 st B kn)) := by
  obtain ⟨f, hf⟩ : ∃ f : Nat, 1 - st % 2 = (f : Int) := ⟨(1 - st % 2).toNat, by omega⟩
  have hl : (Ex.step1 st B kn).length = B.length := Ex.step1_len _ _ _
  have hsame : ∀ j (hj : j < B.length), (st + (j : Int)) % 2 = 0 → (Ex.step1 st B kn)[j] = B[j] := fun k hk hp => (st1_get (st := st) (kn := kn) (l := B) hk).1 (by omega)
  rw [hf]
  refine apply_q w w0 g n m f _ B (-1) pf plb (fun k => Ex.predF (Ex.ex st B) (st + k) kn) hS.1 (by omega) hlB hl hn hn' hY (fun k W hk hkf hs hH => ?_) (fun k hk hkf => ?_) (fun k hk hkf => ?_) hbA hbB
  · have h := hS.2 (mixT (Ex.step1 st B kn) B k) k W (hW.trans hs) (by rw [mix_len hl]; exact hlB) hH (by omega) (by omega) (mix_within hbA hbB)
    rw [show (fun y i => Ex.predF (Ex.ex 0 y) i kn) (mixT (Ex.step1 st B kn) B k) (k : Int) = Ex.predF (Ex.ex st B) (st + k) kn from pred_mix hl (by omega) hsame (by omega)] at h
    exact h
  · have h := (st1_get (st := st) (kn := kn) (l := B) hk).2 (by omega)
    rw [h]
    generalize Ex.predF (Ex.ex st B) (st + (k : Int)) kn = Q
    omega
  · exact hsame k hk (by omega)
theorem pass_s2 (w w0 W0 : World) (g n m : Nat) (st kn : Int) (B : List Int) (pf : Nat) (plb : Array Value) (hlB : B.length = n) (hn : 1 < n) (hn' : n ≤ 4096) (hY : Yr w w0 g B) (hW : SameBut g W0 w0) (hS : StepOf W0 g n pf plb (fun y i => Ex.updF (Ex.ex 0 y) i kn))
    (hbA : Ex.within 9007199254740992 (Ex.step2 st B kn)) (hbB : Ex.within 9007199254740992 B) :
    Calls Try.prog 113 #[.slice (some ⟨g, 0, none⟩) n m, .int .i64 (st % 2), .int .i64 (1), .func (.func pf) #[] plb] w0 (ApplyTo w w0 g (Ex.step2 st B kn)) := by
  obtain ⟨f, hf⟩ : ∃ f : Nat, st % 2 = (f : Int) := ⟨(st % 2).toNat, by omega⟩
  have hl : (Ex.step2 st B kn).length = B.length := Ex.step2_len _ _ _
  have hsame : ∀ j (hj : j < B.length), (st + (j : Int)) % 2 = 1 → (Ex.step2 st B kn)[j] = B[j] := fun k hk hp => (st2_get (st := st) (kn := kn) (l := B) hk).2 (by omega)
  rw [hf]
  refine apply_q w w0 g n m f _ B (1) pf plb (fun k => Ex.updF (Ex.ex st B) (st + k) kn) hS.1 (by omega) hlB hl hn hn' hY (fun k W hk hkf hs hH => ?_) (fun k hk hkf => ?_) (fun k hk hkf => ?_) hbA hbB
  · have h := hS.2 (mixT (Ex.step2 st B kn) B k) k W (hW.trans hs) (by rw [mix_len hl]; exact hlB) hH (by omega) (by omega) (mix_within hbA hbB)
    rw [show (fun y i => Ex.updF (Ex.ex 0 y) i kn) (mixT (Ex.step2 st B kn) B k) (k : Int) = Ex.updF (Ex.ex st B) (st + k) kn from upd_mix hl (by omega) hsame (by omega)] at h
    exact h
  · have h := (st2_get (st := st) (kn := kn) (l := B) hk).1 (by omega)
    rw [h]
    generalize Ex.updF (Ex.ex st B) (st + (k : Int)) kn = Q
    omega
  · exact hsame k hk (by omega)
theorem pass_u2 (w w0 W0 : World) (g n m : Nat) (st kn : Int) (B : List Int) (pf : Nat) (plb : Array Value) (hlB : B.length = n) (hn : 1 < n) (hn' : n ≤ 4096) (hY : Yr w w0 g B) (hW : SameBut g W0 w0) (hS : StepOf W0 g n pf plb (fun y i => Ex.updF (Ex.ex 0 y) i kn))
    (hbA : Ex.within 9007199254740992 (Ex.unst2 st B kn)) (hbB : Ex.within 9007199254740992 B) :
    Calls Try.prog 113 #[.slice (some ⟨g, 0, none⟩) n m, .int .i64 (st % 2), .int .i64 (-1), .func (.func pf) #[] plb] w0 (ApplyTo w w0 g (Ex.unst2 st B kn)) := by
  obtain ⟨f, hf⟩ : ∃ f : Nat, st % 2 = (f : Int) := ⟨(st % 2).toNat, by omega⟩
  have hl : (Ex.unst2 st B kn).length = B.length := Ex.unst2_len _ _ _
  have hsame : ∀ j (hj : j < B.length), (st + (j : Int)) % 2 = 1 → (Ex.unst2 st B kn)[j] = B[j] := fun k hk hp => (un2_get (st := st) (kn := kn) (l := B) hk).2 (by omega)
  rw [hf]
  refine apply_q w w0 g n m f _ B (-1) pf plb (fun k => Ex.updF (Ex.ex st B) (st + k) kn) hS.1 (by omega) hlB hl hn hn' hY (fun k W hk hkf hs hH => ?_) (fun k hk hkf => ?_) (fun k hk hkf => ?_) hbA hbB
  · have h := hS.2 (mixT (Ex.unst2 st B kn) B k) k W (hW.trans hs) (by rw [mix_len hl]; exact hlB) hH (by omega) (by omega) (mix_within hbA hbB)
    rw [show (fun y i => Ex.updF (Ex.ex 0 y) i kn) (mixT (Ex.unst2 st B kn) B k) (k : Int) = Ex.updF (Ex.ex st B) (st + k) kn from upd_mix hl (by omega) hsame (by omega)] at h
    exact h
  · have h := (un2_get (st := st) (kn := kn) (l := B) hk).1 (by omega)
    rw [h]
    generalize Ex.updF (Ex.ex st B) (st + (k : Int)) kn = Q
    omega
  · exact hsame k hk (by omega)
theorem pass_u1 (w w0 W0 : World) (g n m : Nat) (st kn : Int) (B : List Int) (pf : Nat) (plb : Array Value) (hlB : B.length = n) (hn : 1 < n) (hn' : n ≤ 4096) (hY : Yr w w0 g B) (hW : SameBut g W0 w0) (hS : StepOf W0 g n pf plb (fun y i => Ex.predF (Ex.ex 0 y) i kn))
    (hbA : Ex.within 9007199254740992 (Ex.unst1 st B kn)) (hbB : Ex.within 9007199254740992 B) :
    Calls Try.prog 113 #[.slice (some ⟨g, 0, none⟩) n m, .int .i64 (1 - st % 2), .int .i64 (1), .func (.func pf) #[] plb] w0 (ApplyTo w w0 g (Ex.unst1 st B kn)) := by
  obtain ⟨f, hf⟩ : ∃ f : Nat, 1 - st % 2 = (f : Int) := ⟨(1 - st % 2).toNat, by omega⟩
  have hl : (Ex.unst1 st B kn).length = B.length := Ex.unst1_len _ _ _
  have hsame : ∀ j (hj : j < B.length), (st + (j : Int)) % 2 = 0 → (Ex.unst1 st B kn)[j] = B[j] := fun k hk hp => (un1_get (st := st) (kn := kn) (l := B) hk).1 (by omega)
  rw [hf]
  refine apply_q w w0 g n m f _ B (1) pf plb (fun k => Ex.predF (Ex.ex st B) (st + k) kn) hS.1 (by omega) hlB hl hn hn' hY (fun k W hk hkf hs hH => ?_) (fun k hk hkf => ?_) (fun k hk hkf => ?_) hbA hbB
  · have h := hS.2 (mixT (Ex.unst1 st B kn) B k) k W (hW.trans hs) (by rw [mix_len hl]; exact hlB) hH (by omega) (by omega) (mix_within hbA hbB)
    rw [show (fun y i => Ex.predF (Ex.ex 0 y) i kn) (mixT (Ex.unst1 st B kn) B k) (k : Int) = Ex.predF (Ex.ex st B) (st + k) kn from pred_mix hl (by omega) hsame (by omega)] at h
    exact h
  · have h := (un1_get (st := st) (kn := kn) (l := B) hk).2 (by omega)
    rw [h]
    generalize Ex.predF (Ex.ex st B) (st + (k : Int)) kn = Q
    omega
  · exact hsame k hk (by omega)
set_option maxHeartbeats 1000000 in
theorem fwd_cno1 (l : List Int) (st kn : Int) (s : Option Addr) (m : Nat) (w : World) (hk : kB kn = false) : Calls Try.prog 69 #[.slice s l.length m, .int .i64 st, .int .i64 kn] w (GivesSplit [] [] 3 w) := by
  go_enter Try.func69, Try.ntmps69
  go_wp2_with (go_at_call 85; refine (kn_q _ _).mono ?_; rintro e wn ⟨rfl, rfl⟩)
  go_ret3
  exact ⟨none, 0, none, 0, rfl, .inl rfl, .inl rfl, Below.refl _ _, ⟨Nat.le_refl _, fun _ => rfl, fresh_none _⟩, ⟨Nat.le_refl _, fun _ => rfl, fresh_none _⟩⟩
set_option maxHeartbeats 1000000 in
theorem fwd_cno2 (l : List Int) (st kn : Int) (s : Option Addr) (m : Nat) (w : World) (hk : kB kn = true) (hh : fwB l st = false) (hl : l.length ≤ 140737488351232) (hH : HoldsI w s l) : Calls Try.prog 69 #[.slice s l.length m, .int .i64 st, .int .i64 kn] w (GivesSplit [] [] 2 w) := by
  by_cases h1 : st < 0
  · go_enter Try.func69, Try.ntmps69
    go_wp2_with (go_at_call 85; refine (kn_q _ _).mono ?_; rintro e wn ⟨rfl, rfl⟩)
    go_ret3
    exact ⟨none, 0, none, 0, rfl, .inl rfl, .inl rfl, Below.refl _ _, ⟨Nat.le_refl _, fun _ => rfl, fresh_none _⟩, ⟨Nat.le_refl _, fun _ => rfl, fresh_none _⟩⟩
  · by_cases h2 : 4096 < st
    · go_enter Try.func69, Try.ntmps69
      go_wp2_with (go_at_call 85; refine (kn_q _ _).mono ?_; rintro e wn ⟨rfl, rfl⟩)
      go_ret3
      exact ⟨none, 0, none, 0, rfl, .inl rfl, .inl rfl, Below.refl _ _, ⟨Nat.le_refl _, fun _ => rfl, fresh_none _⟩, ⟨Nat.le_refl _, fun _ => rfl, fresh_none _⟩⟩
    · by_cases h3 : (4096 : Int) < (l.length : Int)
      · go_enter Try.func69, Try.ntmps69
        go_wp2_with (go_at_call 85; refine (kn_q _ _).mono ?_; rintro e wn ⟨rfl, rfl⟩)
        go_ret3
        exact ⟨none, 0, none, 0, rfl, .inl rfl, .inl rfl, Below.refl _ _, ⟨Nat.le_refl _, fun _ => rfl, fresh_none _⟩, ⟨Nat.le_refl _, fun _ => rfl, fresh_none _⟩⟩
      · have h4 : fewB l 281474976710656 = false := by
          cases hf : fewB l 281474976710656 with
          | false => rfl
          | true => rw [fwB, hf, Bool.and_true, decide_eq_false_iff_not] at hh; exact absurd ⟨by omega, by omega, by omega⟩ hh
        have cW := wi_q l 281474976710656 s m w (by decide) (by decide) (by omega) hH
        rw [h4] at cW
        clear hh h4
        go_enter Try.func69, Try.ntmps69
        go_wp2_with (first | (go_at_call 85; refine (kn_q _ _).mono ?_; rintro e wn ⟨rfl, rfl⟩) | (go_at_call 110; (with_reducible refine cW.mono ?_); rintro e w1 ⟨rfl, B1⟩))
        go_ret3
        exact ⟨none, 0, none, 0, rfl, .inl rfl, .inl rfl, B1, ⟨Nat.le_refl _, fun _ => rfl, fresh_none _⟩, ⟨Nat.le_refl _, fun _ => rfl, fresh_none _⟩⟩
set_option maxRecDepth 100000 in
set_option maxHeartbeats 2000000 in
theorem fwd_cyes (l : List Int) (st kn : Int) (s : Option Addr) (m : Nat) (w : World) (hk : kB kn = true) (hh : fwB l st = true) (hs : s = none → l.length = 0 ∧ m = 0) (hH : HoldsI w s l) : Calls Try.prog 69 #[.slice s l.length m, .int .i64 st, .int .i64 kn] w (GivesSplit (Ex.splitE st (Ex.fwdL st l kn)) (Ex.splitO st (Ex.fwdL st l kn)) 0 w) := by
  obtain ⟨⟨h1, h2, h3⟩, hw⟩ := fw_iff.1 hh
  have hkk := k_iff.1 hk
  have n1 : ¬ st < 0 := by omega
  have n2 : ¬ 4096 < st := by omega
  have n3 : ¬ (4096 : Int) < (l.length : Int) := by omega
  have cW := wi_q l 281474976710656 s m w (by decide) (by decide) (by omega) hH
  rw [few_iff.2 hw] at cW
  clear hh
  by_cases hn : 1 < l.length
  · have hni : (1 : Int) < (l.length : Int) := by omega
    obtain ⟨hwY, hwZ⟩ := fwd_within (st := st) hkk hw hn
    have hfin : Ex.fwdL st l kn = Ex.step2 st (Ex.step1 st l kn) kn := by rw [Ex.fwdL, if_pos hn]
    have HF : Hid _ := hfin
    have HW : Hid (Ex.within 9007199254740992 l ∧ Ex.within 9007199254740992 (Ex.step1 st l kn) ∧ Ex.within 9007199254740992 (Ex.step2 st (Ex.step1 st l kn) kn)) := ⟨within_mono hw (by decide), within_mono hwY (by decide), within_mono hwZ (by decide)⟩
    clear hfin hwY hwZ
    go_enter Try.func69, Try.ntmps69
    go_wp2_with (first | (go_at_call 85; refine (kn_q _ _).mono ?_; rintro e wn ⟨rfl, rfl⟩) | (go_at_call 110; (with_reducible refine cW.mono ?_); rintro e w1 ⟨rfl, B1⟩))
    refine (cl_q l s m w1 hs h3 (hH.call B1)).mono ?_
    rintro e w2 ⟨v, rfl, G1⟩
    have GB := G1.base B1
    obtain ⟨g, mg, rfl, hmg, Y0⟩ := Yr.of GB (by omega)
    have hg := Y0.lt
    have HY0 : Hid _ := Y0
    clear G1 GB cW n1 n2 n3 B1 Y0
    go_wp2_with fail
    refine (steps_q g l.length mg kn w2 hkk hg (by omega) h3).mono ?_
    rintro e w3 ⟨pf, plb, uf, ulb, rfl, B3, S1, S2⟩
    have Y1 : Yr w w3 g l := HY0.out.step B3
    have HY1 : Hid _ := Y1
    have HS1 : Hid _ := S1
    have HS2 : Hid _ := S2
    clear Y1 S1 S2 B3
    go_wp2_with (go_at_call 114; refine (fo_q _ h1 _).mono ?_; rintro e wn ⟨rfl, rfl⟩)
    refine (pass_s1 w w3 w3 g l.length mg st kn l pf plb rfl hn h3 HY1.out (SameBut.refl _ _) HS1.out HW.out.2.1 HW.out.1).mono ?_
    rintro e w4 ⟨rfl, Y2, SB⟩
    have HY2 : Hid _ := Y2
    have HSB : Hid _ := SB
    clear Y2 SB
    go_wp2_with (go_at_call 115; refine (fe_q _ h1 _).mono ?_; rintro e wn ⟨rfl, rfl⟩)
    refine (pass_s2 w w4 w3 g l.length mg st kn (Ex.step1 st l kn) uf ulb (Ex.step1_len _ _ _) hn h3 HY2.out HSB.out HS2.out HW.out.2.2 HW.out.2.1).mono ?_
    rintro e w5 ⟨rfl, Y3, _⟩
    have hlen : l.length = (Ex.step2 st (Ex.step1 st l kn) kn).length := by rw [Ex.step2_len, Ex.step1_len]
    have cS := split_cyes (Ex.step2 st (Ex.step1 st l kn) kn) st (some ⟨g, 0, none⟩) mg w5 (sp_iff.2 ⟨h1, h2, by omega⟩) Y3.holds
    rw [← hlen, ← HF.out] at cS
    have HB : Hid _ := Y3.below
    clear Y3 hlen
    go_wp2_with fail
    refine cS.mono ?_
    rintro e w6 ⟨s1, m1, s2, m2, rfl, a1, a2, hb, b1, b2⟩
    have HA1 : Hid _ := a1
    have HA2 : Hid _ := a2
    have HBB : Hid _ := below_call HB.out hb
    clear a1 a2 hb
    go_wp2
    go_ret3
    exact ⟨s1, m1, s2, m2, rfl, HA1.out, HA2.out, HBB.out, fresh_up HB.out b1, fresh_up HB.out b2⟩
  · have hni : ¬ (1 : Int) < (l.length : Int) := by omega
    have hfin : Ex.fwdL st l kn = l := by rw [Ex.fwdL, if_neg hn]
    rw [hfin]
    clear hfin
    go_enter Try.func69, Try.ntmps69
    go_wp2_with (first | (go_at_call 85; refine (kn_q _ _).mono ?_; rintro e wn ⟨rfl, rfl⟩) | (go_at_call 110; (with_reducible refine cW.mono ?_); rintro e w1 ⟨rfl, B1⟩))
    refine (cl_q l s m w1 hs h3 (hH.call B1)).mono ?_
    rintro e w2 ⟨v, rfl, G1⟩
    have GB := G1.base B1
    obtain ⟨sb, mb, rfl, lb, _⟩ := GB.holds
    have HB : Hid _ := GB.below
    have hsp := split_cyes l st sb mb w2 (sp_iff.2 ⟨h1, h2, h3⟩) lb
    clear G1 GB cW n1 n2 n3 B1
    go_wp2_with fail
    refine hsp.mono ?_
    rintro e w6 ⟨s1, m1, s2, m2, rfl, a1, a2, hb, b1, b2⟩
    have HA1 : Hid _ := a1
    have HA2 : Hid _ := a2
    have HBB : Hid _ := below_call HB.out hb
    clear a1 a2 hb
    go_wp2
    go_ret3
    exact ⟨s1, m1, s2, m2, rfl, HA1.out, HA2.out, HBB.out, fresh_up HB.out b1, fresh_up HB.out b2⟩
set_option maxHeartbeats 1000000 in
theorem inv_cno1 (e o : List Int) (st kn : Int) (s t : Option Addr) (m m' : Nat) (w : World) (hk : kB kn = false) : Calls Try.prog 79 #[.slice s e.length m, .slice t o.length m', .int .i64 st, .int .i64 kn] w (GivesE [] 3 w) := by
  go_enter Try.func79, Try.ntmps79
  go_wp2_with (go_at_call 85; refine (kn_q _ _).mono ?_; rintro e wn ⟨rfl, rfl⟩)
  go_ret2
  exact ⟨none, 0, rfl, .inl rfl, Below.refl _ _, Nat.le_refl _, fun _ => rfl, fresh_none _⟩
set_option maxHeartbeats 1000000 in
theorem inv_few (e o : List Int) (st kn : Int) (s t : Option Addr) (m m' : Nat) (w : World) (hk : kB kn = true) (hf : (fewB e 1125899906842624 && fewB o 1125899906842624) = false) (he : e.length ≤ 4611686018427387904) (ho : o.length ≤ 4611686018427387904) (hE : HoldsI w s e) (hO : HoldsI w t o) : Calls Try.prog 79 #[.slice s e.length m, .slice t o.length m', .int .i64 st, .int .i64 kn] w (GivesE [] 2 w) := by
  have cW := wi_q e 1125899906842624 s m w (by decide) (by decide) (by omega) hE
  cases hf1 : fewB e 1125899906842624 with
  | false =>
    rw [hf1] at cW
    clear hf
    go_enter Try.func79, Try.ntmps79
    go_wp2_with (first | (go_at_call 85; refine (kn_q _ _).mono ?_; rintro e wn ⟨rfl, rfl⟩) | (go_at_call 110; (with_reducible refine cW.mono ?_); rintro e w1 ⟨rfl, B1⟩))
    go_ret2
    exact ⟨none, 0, rfl, .inl rfl, B1, Nat.le_refl _, fun _ => rfl, fresh_none _⟩
  | true =>
    rw [hf1] at cW
    have hf2 : fewB o 1125899906842624 = false := by rw [hf1, Bool.true_and] at hf; exact hf
    clear hf
    go_enter Try.func79, Try.ntmps79
    go_wp2_with (first | (go_at_call 85; refine (kn_q _ _).mono ?_; rintro e wn ⟨rfl, rfl⟩) | (go_at_call 110; (with_reducible refine cW.mono ?_); rintro e w1 ⟨rfl, B1⟩; have cV := wi_q o 1125899906842624 t m' w1 (by decide) (by decide) (by omega) (hO.call B1); rw [hf2] at cV) | (go_at_call 110; (with_reducible refine cV.mono ?_); rintro e w2 ⟨rfl, B2⟩))
    go_ret2
    exact ⟨none, 0, rfl, .inl rfl, below_call B1 B2, Nat.le_refl _, fun _ => rfl, fresh_none _⟩
/-- Both lists are small: Join's answer decides. -/
theorem inv_bad (e o : List Int) (st kn : Int) (s t : Option Addr) (m m' : Nat) (w : World) (err : Int) (herr : err = 2 ∨ err = 4) (hk : kB kn = true) (hf1 : fewB e 1125899906842624 = true) (hf2 : fewB o 1125899906842624 = true) (he : e.length ≤ 4611686018427387904) (ho : o.length ≤ 4611686018427387904) (hE : HoldsI w s e) (hO : HoldsI w t o) (hJ : ∀ w1 : World, Calls Try.prog 124 #[.slice s e.length m, .slice t o.length m', .int .i64 st] w1 (GivesE [] err w1)) :
    Calls Try.prog 79 #[.slice s e.length m, .slice t o.length m', .int .i64 st, .int .i64 kn] w (GivesE [] err w) := by
  have cW := wi_q e 1125899906842624 s m w (by decide) (by decide) (by omega) hE
  rw [hf1] at cW
  rcases herr with rfl | rfl
  · go_enter Try.func79, Try.ntmps79
    go_wp2_with (first | (go_at_call 85; refine (kn_q _ _).mono ?_; rintro e wn ⟨rfl, rfl⟩) | (go_at_call 110; (with_reducible refine cW.mono ?_); rintro e w1 ⟨rfl, B1⟩; have cV := wi_q o 1125899906842624 t m' w1 (by decide) (by decide) (by omega) (hO.call B1); rw [hf2] at cV) | (go_at_call 110; (with_reducible refine cV.mono ?_); rintro e w2 ⟨rfl, B2⟩))
    refine (hJ _).mono ?_
    rintro e w3 ⟨s1, m1, rfl, _, B3, _, _⟩
    have HB : Hid _ := below_call (below_call B1 B2) B3
    clear B1 B2 B3
    go_wp2
    go_ret2
    exact ⟨none, 0, rfl, .inl rfl, HB.out, Nat.le_refl _, fun _ => rfl, fresh_none _⟩
  · go_enter Try.func79, Try.ntmps79
    go_wp2_with (first | (go_at_call 85; refine (kn_q _ _).mono ?_; rintro e wn ⟨rfl, rfl⟩) | (go_at_call 110; (with_reducible refine cW.mono ?_); rintro e w1 ⟨rfl, B1⟩; have cV := wi_q o 1125899906842624 t m' w1 (by decide) (by decide) (by omega) (hO.call B1); rw [hf2] at cV) | (go_at_call 110; (with_reducible refine cV.mono ?_); rintro e w2 ⟨rfl, B2⟩))
    refine (hJ _).mono ?_
    rintro e w3 ⟨s1, m1, rfl, _, B3, _, _⟩
    have HB : Hid _ := below_call (below_call B1 B2) B3
    clear B1 B2 B3
    go_wp2
    go_ret2
    exact ⟨none, 0, rfl, .inl rfl, HB.out, Nat.le_refl _, fun _ => rfl, fresh_none _⟩
theorem inv_cno2 (e o : List Int) (st kn : Int) (s t : Option Addr) (m m' : Nat) (w : World) (hk : kB kn = true) (hh : jnB st e.length o.length = false) (he : e.length ≤ 4611686018427387904) (ho : o.length ≤ 4611686018427387904) (hE : HoldsI w s e) (hO : HoldsI w t o) : Calls Try.prog 79 #[.slice s e.length m, .slice t o.length m', .int .i64 st, .int .i64 kn] w (GivesE [] 2 w) := by
  cases hf : (fewB e 1125899906842624 && fewB o 1125899906842624) with
  | false => exact inv_few e o st kn s t m m' w hk hf he ho hE hO
  | true =>
    rw [Bool.and_eq_true] at hf
    exact inv_bad e o st kn s t m m' w 2 (.inl rfl) hk hf.1 hf.2 he ho hE hO fun w1 => join_cno1 e o st s t m m' w1 hh he ho
theorem inv_cno3 (e o : List Int) (st kn : Int) (s t : Option Addr) (m m' : Nat) (w : World) (hk : kB kn = true) (hh : jnB st e.length o.length = true) (hf : (fewB e 1125899906842624 && fewB o 1125899906842624) = false) (hE : HoldsI w s e) (hO : HoldsI w t o) : Calls Try.prog 79 #[.slice s e.length m, .slice t o.length m', .int .i64 st, .int .i64 kn] w (GivesE [] 2 w) := by
  obtain ⟨_, _, h3⟩ := jn_iff.1 hh
  exact inv_few e o st kn s t m m' w hk hf (by omega) (by omega) hE hO
theorem inv_cno4 (e o : List Int) (st kn : Int) (s t : Option Addr) (m m' : Nat) (w : World) (hk : kB kn = true) (hh : jnB st e.length o.length = true) (hf1 : fewB e 1125899906842624 = true) (hf2 : fewB o 1125899906842624 = true) (hc : jcB st e.length o.length = false) (hE : HoldsI w s e) (hO : HoldsI w t o) : Calls Try.prog 79 #[.slice s e.length m, .slice t o.length m', .int .i64 st, .int .i64 kn] w (GivesE [] 4 w) := by
  obtain ⟨_, _, h3⟩ := jn_iff.1 hh
  exact inv_bad e o st kn s t m m' w 4 (.inr rfl) hk hf1 hf2 (by omega) (by omega) hE hO fun w1 => join_cno2 e o st s t m m' w1 hh hc
set_option maxRecDepth 100000 in
set_option maxHeartbeats 2000000 in
theorem inv_cyes (e o : List Int) (st kn : Int) (s t : Option Addr) (m m' : Nat) (w : World) (hk : kB kn = true) (hh : jnB st e.length o.length = true) (hf1 : fewB e 1125899906842624 = true) (hf2 : fewB o 1125899906842624 = true) (hc : jcB st e.length o.length = true) (hm : e.length ≤ m) (hm' : o.length ≤ m') (hE : HoldsI w s e) (hO : HoldsI w t o) : Calls Try.prog 79 #[.slice s e.length m, .slice t o.length m', .int .i64 st, .int .i64 kn] w (GivesE (Ex.invL st (Ex.joinL st e o) kn) 0 w) := by
  obtain ⟨h1, h2, h3⟩ := jn_iff.1 hh
  have hkk := k_iff.1 hk
  have cW := wi_q e 1125899906842624 s m w (by decide) (by decide) (by omega) hE
  rw [hf1] at cW
  have HJ := joinL_within (st := st) (by decide) (few_iff.1 hf1) (few_iff.1 hf2)
  obtain ⟨X, hX⟩ : ∃ X, Ex.joinL st e o = X := ⟨_, rfl⟩
  have hlX : X.length ≤ 4096 := by rw [← hX, Ex.joinL_len]; exact h3
  rw [hX] at HJ
  have cJ := fun w1 hE hO => join_row e o st s t m m' w1 hh hc hm hm' hE hO
  rw [hX] at cJ
  rw [hX]
  clear hX
  by_cases hn : 1 < X.length
  · have hni : (1 : Int) < (X.length : Int) := by omega
    have hfin : Ex.invL st X kn = Ex.unst1 st (Ex.unst2 st X kn) kn := by rw [Ex.invL, if_pos hn]
    have HF : Hid _ := hfin
    have w2b := un2_within (st := st) hkk HJ
    have w1b := un1_within (st := st) hkk w2b
    have HW : Hid (Ex.within 9007199254740992 X ∧ Ex.within 9007199254740992 (Ex.unst2 st X kn) ∧ Ex.within 9007199254740992 (Ex.unst1 st (Ex.unst2 st X kn) kn)) := ⟨within_mono HJ (by decide), within_mono w2b (by decide), within_mono w1b (by decide)⟩
    clear hfin w1b w2b HJ
    go_enter Try.func79, Try.ntmps79
    go_wp2_with (first | (go_at_call 85; refine (kn_q _ _).mono ?_; rintro e wn ⟨rfl, rfl⟩) | (go_at_call 110; (with_reducible refine cW.mono ?_); rintro e w1 ⟨rfl, B1⟩; have cV := wi_q o 1125899906842624 t m' w1 (by decide) (by decide) (by omega) (hO.call B1); rw [hf2] at cV) | (go_at_call 110; (with_reducible refine cV.mono ?_); rintro e w2 ⟨rfl, B2⟩))
    refine (cJ w2 (hE.call (below_call B1 B2)) (hO.call (below_call B1 B2))).mono ?_
    rintro e w3 ⟨g, rfl, hg0, R, B3⟩
    have hB := below_call (below_call B1 B2) B3
    have hgw : w.heap.size ≤ g := by have := (below_call B1 B2).size; omega
    have Y0 : Yr w w3 g X := ⟨hB, ⟨[], RowP.of R⟩, hgw⟩
    have hg := Y0.lt
    have HY0 : Hid _ := Y0
    clear R B1 B2 B3 hB Y0 cW cJ cV
    go_wp2_with fail
    refine (steps_q g X.length X.length kn w3 hkk hg (by omega) hlX).mono ?_
    rintro e w4 ⟨pf, plb, uf, ulb, rfl, B4, S1, S2⟩
    have Y1 : Yr w w4 g X := HY0.out.step B4
    have HY1 : Hid _ := Y1
    have HS1 : Hid _ := S1
    have HS2 : Hid _ := S2
    clear Y1 S1 S2 B4
    go_wp2_with (go_at_call 115; refine (fe_q _ h1 _).mono ?_; rintro e wn ⟨rfl, rfl⟩)
    refine (pass_u2 w w4 w4 g X.length X.length st kn X uf ulb rfl hn hlX HY1.out (SameBut.refl _ _) HS2.out HW.out.2.1 HW.out.1).mono ?_
    rintro e w5 ⟨rfl, Y2, SB⟩
    have HY2 : Hid _ := Y2
    have HSB : Hid _ := SB
    clear Y2 SB
    go_wp2_with (go_at_call 114; refine (fo_q _ h1 _).mono ?_; rintro e wn ⟨rfl, rfl⟩)
    refine (pass_u1 w w5 w4 g X.length X.length st kn (Ex.unst2 st X kn) pf plb (Ex.unst2_len _ _ _) hn hlX HY2.out HSB.out HS1.out HW.out.2.2 HW.out.2.1).mono ?_
    rintro e w6 ⟨rfl, Y3, _⟩
    have HB : Hid _ := Y3.below
    have HH : Hid _ := Y3.holds
    clear Y3
    go_wp2
    go_ret2
    refine ⟨some ⟨g, 0, none⟩, X.length, ?_, by rw [HF.out]; exact HH.out, HB.out, by rw [Ex.inv_len]; exact Nat.le_refl _, fun h => by simp at h, fresh_some hgw⟩
    rw [Ex.inv_len]
    rfl
  · have hni : ¬ (1 : Int) < (X.length : Int) := by omega
    have hfin : Ex.invL st X kn = X := by rw [Ex.invL, if_neg hn]
    rw [hfin]
    clear hfin HJ
    go_enter Try.func79, Try.ntmps79
    go_wp2_with (first | (go_at_call 85; refine (kn_q _ _).mono ?_; rintro e wn ⟨rfl, rfl⟩) | (go_at_call 110; (with_reducible refine cW.mono ?_); rintro e w1 ⟨rfl, B1⟩; have cV := wi_q o 1125899906842624 t m' w1 (by decide) (by decide) (by omega) (hO.call B1); rw [hf2] at cV) | (go_at_call 110; (with_reducible refine cV.mono ?_); rintro e w2 ⟨rfl, B2⟩))
    refine (cJ w2 (hE.call (below_call B1 B2)) (hO.call (below_call B1 B2))).mono ?_
    rintro e w3 ⟨g, rfl, hg0, R, B3⟩
    have HB : Hid _ := below_call (below_call B1 B2) B3
    have hgw : w.heap.size ≤ g := by have := (below_call B1 B2).size; omega
    have HR : Hid _ := R.holds
    clear R B1 B2 B3 cW cJ cV
    go_wp2
    go_ret2
    exact ⟨some ⟨g, 0, none⟩, X.length, rfl, HR.out, HB.out, Nat.le_refl _, fun h => by simp at h, fresh_some hgw⟩
set_option maxHeartbeats 1000000 in
theorem mg_q (k : Int) (w : World) : Calls Try.prog 95 #[.int .i64 k] w fun e w' => e = .returned (.int .i64 (mgI k)) ∧ w = w' := by
  by_cases k1 : k = 1
  · subst k1
    go_enter Try.func95, Try.ntmps95
    go_wp2_with fail
    go_ret
    exact ⟨ret_int (by simp [mgI]), rfl⟩
  · by_cases k2 : k = 2
    · subst k2
      go_enter Try.func95, Try.ntmps95
      go_wp2_with fail
      go_ret
      exact ⟨ret_int (by simp [mgI]), rfl⟩
    · by_cases k3 : k = 3
      · subst k3
        go_enter Try.func95, Try.ntmps95
        go_wp2_with fail
        go_ret
        exact ⟨ret_int (by simp [mgI]), rfl⟩
      · go_enter Try.func95, Try.ntmps95
        go_wp2_with fail
        go_ret
        exact ⟨ret_int (by simp [mgI, k1, k2, k3]), rfl⟩
set_option maxRecDepth 100000 in
set_option maxHeartbeats 4000000 in
theorem hb_q (b k : Int) (w : World) : Calls Try.prog 33 #[.int .i64 b, .int .i64 k] w fun e w' => e = .returned (.int .i64 (hbV b k)) ∧ w = w' := by
  by_cases h1 : b < 0
  · have e0 : hbV b k = 0 := if_neg (by omega)
    rw [e0]
    clear e0
    have hkk : kB k = true ∨ kB k = false := by cases kB k <;> simp
    rcases hkk with hk | hk
    all_goals
      go_enter Try.func33, Try.ntmps33
      go_wp2_with (go_at_call 85; refine (kn_q _ _).mono ?_; rintro e wn ⟨rfl, rfl⟩)
      go_ret
      exact ⟨rfl, rfl⟩
  · by_cases h2 : 281474976710656 < b
    · have e0 : hbV b k = 0 := if_neg (by omega)
      rw [e0]
      clear e0
      have hkk : kB k = true ∨ kB k = false := by cases kB k <;> simp
      rcases hkk with hk | hk
      all_goals
        go_enter Try.func33, Try.ntmps33
        go_wp2_with (go_at_call 85; refine (kn_q _ _).mono ?_; rintro e wn ⟨rfl, rfl⟩)
        go_ret
        exact ⟨rfl, rfl⟩
    · cases hk : kB k with
      | false =>
        have e0 : hbV b k = 0 := if_neg (by rw [hk]; simp)
        rw [e0]
        clear e0
        go_enter Try.func33, Try.ntmps33
        go_wp2_with (go_at_call 85; refine (kn_q _ _).mono ?_; rintro e wn ⟨rfl, rfl⟩)
        go_ret
        exact ⟨rfl, rfl⟩
      | true =>
        have e0 : hbV b k = Ex.hbI b k := if_pos ⟨by omega, by omega, hk⟩
        rw [e0]
        clear e0
        have hk1 := k_iff.1 hk
        have v0 : IntKind.i64.wrap (20 * b) = 20 * b := IntWalk.i64_in _ (by omega)
        have v0' : wrap64 (20 * b) = 20 * b := IntWalk.wrap64_in _ ⟨by omega, by omega⟩
        have v1 : IntKind.i64.wrap (20 * b + 8) = 20 * b + 8 := IntWalk.i64_in _ (by omega)
        have v1' : wrap64 (20 * b + 8) = 20 * b + 8 := IntWalk.wrap64_in _ ⟨by omega, by omega⟩
        have v2 : IntKind.i64.wrap (2 * b) = 2 * b := IntWalk.i64_in _ (by omega)
        have v2' : wrap64 (2 * b) = 2 * b := IntWalk.wrap64_in _ ⟨by omega, by omega⟩
        have v3 : IntKind.i64.wrap (b + (20 * b + 8) / 16) = b + (20 * b + 8) / 16 := IntWalk.i64_in _ (by omega)
        have v3' : wrap64 (b + (20 * b + 8) / 16) = b + (20 * b + 8) / 16 := IntWalk.wrap64_in _ ⟨by omega, by omega⟩
        have v4 : IntKind.i64.wrap ((20 * b + 8) / 16) = (20 * b + 8) / 16 := IntWalk.i64_in _ (by omega)
        have v4' : wrap64 ((20 * b + 8) / 16) = (20 * b + 8) / 16 := IntWalk.wrap64_in _ ⟨by omega, by omega⟩
        have t1 : (20 * b + 8).tdiv 16 = (20 * b + 8) / 16 := Int.tdiv_eq_ediv_of_nonneg (by omega)
        rcases hk1 with rfl | rfl | rfl
        · rw [show Ex.hbI b 1 = 2 * b from rfl]
          go_enter Try.func33, Try.ntmps33
          go_wp2_with (go_at_call 85; refine (kn_q _ _).mono ?_; rintro e wn ⟨rfl, rfl⟩)
          go_ret
          exact ⟨rfl, rfl⟩
        · rw [show Ex.hbI b 2 = 2 * b from rfl]
          go_enter Try.func33, Try.ntmps33
          go_wp2_with (go_at_call 85; refine (kn_q _ _).mono ?_; rintro e wn ⟨rfl, rfl⟩)
          go_ret
          exact ⟨rfl, rfl⟩
        · rw [show Ex.hbI b 3 = b + (20 * b + 8) / 16 from rfl]
          go_enter Try.func33, Try.ntmps33
          go_wp2_with (go_at_call 85; refine (kn_q _ _).mono ?_; rintro e wn ⟨rfl, rfl⟩)
          go_ret
          exact ⟨rfl, rfl⟩
set_option maxRecDepth 100000 in
set_option maxHeartbeats 4000000 in
theorem lb_q (b k : Int) (w : World) : Calls Try.prog 32 #[.int .i64 b, .int .i64 k] w fun e w' => e = .returned (.int .i64 (lbV b k)) ∧ w = w' := by
  by_cases h1 : b < 0
  · have e0 : lbV b k = 0 := if_neg (by omega)
    rw [e0]
    clear e0
    have hkk : kB k = true ∨ kB k = false := by cases kB k <;> simp
    rcases hkk with hk | hk
    all_goals
      go_enter Try.func32, Try.ntmps32
      go_wp2_with (first | (go_at_call 85; refine (kn_q _ _).mono ?_; rintro e wn ⟨rfl, rfl⟩) | (go_at_call 33; refine (hb_q _ _ _).mono ?_; rintro e wn ⟨rfl, rfl⟩))
      go_ret
      exact ⟨rfl, rfl⟩
  · by_cases h2 : 281474976710656 < b
    · have e0 : lbV b k = 0 := if_neg (by omega)
      rw [e0]
      clear e0
      have hkk : kB k = true ∨ kB k = false := by cases kB k <;> simp
      rcases hkk with hk | hk
      all_goals
        go_enter Try.func32, Try.ntmps32
        go_wp2_with (first | (go_at_call 85; refine (kn_q _ _).mono ?_; rintro e wn ⟨rfl, rfl⟩) | (go_at_call 33; refine (hb_q _ _ _).mono ?_; rintro e wn ⟨rfl, rfl⟩))
        go_ret
        exact ⟨rfl, rfl⟩
    · cases hk : kB k with
      | false =>
        have e0 : lbV b k = 0 := if_neg (by rw [hk]; simp)
        rw [e0]
        clear e0
        go_enter Try.func32, Try.ntmps32
        go_wp2_with (first | (go_at_call 85; refine (kn_q _ _).mono ?_; rintro e wn ⟨rfl, rfl⟩) | (go_at_call 33; refine (hb_q _ _ _).mono ?_; rintro e wn ⟨rfl, rfl⟩))
        go_ret
        exact ⟨rfl, rfl⟩
      | true =>
        have e0 : lbV b k = Ex.lbI b k := if_pos ⟨by omega, by omega, hk⟩
        rw [e0]
        clear e0
        have hk1 := k_iff.1 hk
        have hH : hbV b k = Ex.hbI b k := if_pos ⟨by omega, by omega, hk⟩
        obtain ⟨b1, b2, b3, b4⟩ := hb_bd hk1 (show 0 ≤ b by omega)
        have hl : Ex.lbI b k = if k = 1 then 2 * b else b + (2 * Ex.hbI b k + 2) / 4 := rfl
        rw [hl]
        generalize Ex.hbI b k = H at *
        clear hl b3 b4
        have v0 : IntKind.i64.wrap (2 * b) = 2 * b := IntWalk.i64_in _ (by omega)
        have v0' : wrap64 (2 * b) = 2 * b := IntWalk.wrap64_in _ ⟨by omega, by omega⟩
        have v1 : IntKind.i64.wrap (2 * H) = 2 * H := IntWalk.i64_in _ (by omega)
        have v1' : wrap64 (2 * H) = 2 * H := IntWalk.wrap64_in _ ⟨by omega, by omega⟩
        have v2 : IntKind.i64.wrap (2 * H + 2) = 2 * H + 2 := IntWalk.i64_in _ (by omega)
        have v2' : wrap64 (2 * H + 2) = 2 * H + 2 := IntWalk.wrap64_in _ ⟨by omega, by omega⟩
        have v3 : IntKind.i64.wrap (b + (2 * H + 2) / 4) = b + (2 * H + 2) / 4 := IntWalk.i64_in _ (by omega)
        have v3' : wrap64 (b + (2 * H + 2) / 4) = b + (2 * H + 2) / 4 := IntWalk.wrap64_in _ ⟨by omega, by omega⟩
        have v4 : IntKind.i64.wrap ((2 * H + 2) / 4) = (2 * H + 2) / 4 := IntWalk.i64_in _ (by omega)
        have v4' : wrap64 ((2 * H + 2) / 4) = (2 * H + 2) / 4 := IntWalk.wrap64_in _ ⟨by omega, by omega⟩
        have t1 : (2 * H + 2).tdiv 4 = (2 * H + 2) / 4 := Int.tdiv_eq_ediv_of_nonneg (by omega)
        rcases hk1 with rfl | rfl | rfl
        · rw [if_pos rfl]
          go_enter Try.func32, Try.ntmps32
          go_wp2_with (first | (go_at_call 85; refine (kn_q _ _).mono ?_; rintro e wn ⟨rfl, rfl⟩) | (go_at_call 33; refine (hb_q _ _ _).mono ?_; rintro e wn ⟨rfl, rfl⟩))
          go_ret
          exact ⟨rfl, rfl⟩
        · rw [if_neg (by decide)]
          go_enter Try.func32, Try.ntmps32
          go_wp2_with (first | (go_at_call 85; refine (kn_q _ _).mono ?_; rintro e wn ⟨rfl, rfl⟩) | (go_at_call 33; refine (hb_q _ _ _).mono ?_; rintro e wn ⟨rfl, rfl⟩))
          go_ret
          exact ⟨rfl, rfl⟩
        · rw [if_neg (by decide)]
          go_enter Try.func32, Try.ntmps32
          go_wp2_with (first | (go_at_call 85; refine (kn_q _ _).mono ?_; rintro e wn ⟨rfl, rfl⟩) | (go_at_call 33; refine (hb_q _ _ _).mono ?_; rintro e wn ⟨rfl, rfl⟩))
          go_ret
          exact ⟨rfl, rfl⟩
theorem mg_c (k : Int) (w : World) : Calls Try.prog 95 #[.int .i64 k] w (fun e w' => e = .returned (.int .i64 (mgI k)) ∧ Below w.heap.size w w') :=
  (mg_q k w).mono fun _ _ h => ⟨h.1, h.2 ▸ Below.refl _ _⟩
theorem hb_c (b k : Int) (w : World) : Calls Try.prog 33 #[.int .i64 b, .int .i64 k] w (fun e w' => e = .returned (.int .i64 (hbV b k)) ∧ Below w.heap.size w w') :=
  (hb_q b k w).mono fun _ _ h => ⟨h.1, h.2 ▸ Below.refl _ _⟩
theorem lb_c (b k : Int) (w : World) : Calls Try.prog 32 #[.int .i64 b, .int .i64 k] w (fun e w' => e = .returned (.int .i64 (lbV b k)) ∧ Below w.heap.size w w') :=
  (lb_q b k w).mono fun _ _ h => ⟨h.1, h.2 ▸ Below.refl _ _⟩
end Go.Proofs.Ytnfnidgabgdphaa
