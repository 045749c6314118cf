/-
  A block as a whole; half, Known and Above of the reference of layer 5.
-/
import Derived.Test.YtnfnidgabgdphaaLiftR
import Derived.Test.YtnfnidgabgdphaaDwt
set_option maxRecDepth 100000
namespace Go.Proofs.Ytnfnidgabgdphaa
open Go.RowKit

/-! A block, whole -/
def Blk (w : World) (B : Nat) (T : TypeId) (cs : Array Value) : Prop := w.heap[B]? = some (.cells cs T)
theorem Blk.lt {w : World} {B : Nat} {T : TypeId} {cs : Array Value} (h : Blk w B T cs) : B < w.heap.size := (Array.getElem?_eq_some_iff.1 h).1
theorem Blk.below {w w1 : World} {B : Nat} {T : TypeId} {cs : Array Value} (h : Blk w B T cs) (hb : Below w.heap.size w w1) : Blk w1 B T cs := (hb.block B h.lt).trans h
theorem Blk.alloc {w : World} {B : Nat} {T : TypeId} {cs : Array Value} (h : Blk w B T cs) (X : Obj) : Blk (w.alloc X) B T cs := h.below ((Below.refl _ _).alloc (Nat.le_refl _) _)
theorem Blk.drew {w : World} {B : Nat} {T : TypeId} {cs : Array Value} (h : Blk w B T cs) : Blk w.drew B T cs := h
theorem Blk.drewN {w : World} {B : Nat} {T : TypeId} {cs : Array Value} (h : Blk w B T cs) (q : Nat) : Blk (w.drewN q) B T cs := h
theorem Blk.fresh (w : World) (T : TypeId) (cs : Array Value) : Blk (w.alloc (.cells cs T)) w.heap.size T cs := heap_alloc_new w _
theorem Blk.freshAt (w : World) (B : Nat) (hB : B = w.heap.size) (T : TypeId) (cs : Array Value) : Blk (w.alloc (.cells cs T)) B T cs := hB ▸ heap_alloc_new w _
theorem Blk.cell {w : World} {B : Nat} {T : TypeId} {cs : Array Value} (h : Blk w B T cs) (i : Nat) (v : Value) (hv : cs[i]? = some v) : w.cell? ⟨B, i, none⟩ = some v := by
  unfold Blk at h
  simp [World.cell?, h, hv]
theorem Blk.free {w : World} {B : Nat} {T : TypeId} {cs : Array Value} (h : Blk w B T cs) (i : Nat) : w.frozen? ⟨B, i, none⟩ = false := by
  unfold Blk at h
  simp [World.frozen?, h]
theorem Blk.set {w : World} {B : Nat} {T : TypeId} {cs : Array Value} (h : Blk w B T cs) (i : Nat) (v : Value) : Blk (w.setCell ⟨B, i, none⟩ v) B T (cs.setIfInBounds i v) := by
  unfold Blk at *
  simp only [World.setCell, Array.getElem?_modify, if_true, h, Option.map_some]
  rfl
theorem Blk.far {w : World} {B : Nat} {T : TypeId} {cs : Array Value} (h : Blk w B T cs) (a : Addr) (v : Value) (hn : B ≠ a.block) : Blk (w.setCell a v) B T cs := (Below.heap_setCell _ _ _ _ hn).trans h

/-! Four rectangles -/
def rcs (r : Pl.R) : List Value := [.int .i64 r.x0, .int .i64 r.y0, .int .i64 r.x1, .int .i64 r.y1]
def arr4 (f : Nat → Pl.R) : Array Value := (rcs (f 0) ++ rcs (f 1) ++ rcs (f 2) ++ rcs (f 3)).toArray
def hfI (a : Int) (b : Bool) : Int := if b then a / 2 else (a + 1) / 2
def orH (o : Nat) : Bool := o == 1 || o == 3
def orV (o : Nat) : Bool := o == 2 || o == 3
def bndR (r : Pl.R) (o : Nat) : Pl.R := ⟨hfI r.x0 (orH o), hfI r.y0 (orV o), hfI r.x1 (orH o), hfI r.y1 (orV o)⟩
def bnds (r : Pl.R) (o : Nat) : Pl.R := if Pl.validB r.x0 r.y0 r.x1 r.y1 = true then bndR r o else ⟨0, 0, 0, 0⟩
theorem half_r (a : Int) (b : Bool) (h0 : 0 ≤ a) (h1 : a ≤ 1000000) (w : World) : Calls Try.prog 62 #[.int .i64 a, .bool b] w fun e w' => e = .returned (.int .i64 (hfI a b)) ∧ w' = w := by
  have w1 : IntKind.i64.wrap (a + 1) = a + 1 := IntWalk.i64_in _ (by omega)
  have t1 : (a + 1).tdiv 2 = (a + 1) / 2 := Int.tdiv_eq_ediv_of_nonneg (by omega)
  have t2 : a.tdiv 2 = a / 2 := Int.tdiv_eq_ediv_of_nonneg (by omega)
  have w2 : IntKind.i64.wrap ((a + 1) / 2) = (a + 1) / 2 := IntWalk.i64_in _ (by omega)
  have w3 : IntKind.i64.wrap (a / 2) = a / 2 := IntWalk.i64_in _ (by omega)
  cases b with
  | true =>
    go_enter Try.func62, Try.ntmps62
    go_wp2
    go_ret
    exact ⟨rfl, rfl⟩
  | false =>
    go_enter Try.func62, Try.ntmps62
    go_wp2
    go_ret
    exact ⟨rfl, rfl⟩
set_option maxHeartbeats 1000000 in
theorem kn5_r (k : Int) (w : World) : Calls Try.prog 73 #[.int .i64 k] w fun e w' => e = .returned (.bool (kB k)) ∧ w' = w := by
  by_cases h1 : k = 1
  · subst h1
    go_enter Try.func73, Try.ntmps73
    go_wp2
    go_ret
    exact ⟨rfl, rfl⟩
  · by_cases h2 : k = 2
    · subst h2
      go_enter Try.func73, Try.ntmps73
      go_wp2
      go_ret
      exact ⟨rfl, rfl⟩
    · by_cases h3 : k = 3
      · subst h3
        go_enter Try.func73, Try.ntmps73
        go_wp2
        go_ret
        exact ⟨rfl, rfl⟩
      · go_enter Try.func73, Try.ntmps73
        go_wp2
        all_goals
          go_ret
          exact ⟨ret_bool (by simp [kB, h1, h2, h3]), rfl⟩
set_option maxHeartbeats 1000000 in
theorem abv_r (l : List Int) (b : Int) (s : Option Addr) (m : Nat) (w : World) (hb : 0 ≤ b) (hb' : b ≤ 4611686018427387904) (hl : l.length ≤ 140737488351232) (hH : HoldsI w s l) :
    Calls Try.prog 74 #[.slice s l.length m, .int .i64 b] w fun e w' => e = .returned (.bool (!fewB l b)) ∧ w' = w := by
  have w1 : IntKind.i64.wrap (-b) = -b := IntWalk.i64_in _ (by omega)
  go_enter Try.func74, Try.ntmps74
  go_wp2_with fail
  go_loopw [5] (fun i wr => ∃ k : Nat, k ≤ l.length ∧ i = .int .i64 k ∧ (∀ j (hj : j < l.length), j < k → -b ≤ l[j] ∧ l[j] ≤ b) ∧ w = wr) (fun i _ => l.length - (intOf i).toNat)
  case atStart => exact ⟨0, Nat.zero_le _, rfl, fun j _ h => absurd h (Nat.not_lt_zero _), rfl⟩
  case round =>
    obtain ⟨k, hk, rfl, hall, rfl⟩ := hrel
    have HA : Hid _ := hall
    clear hall
    by_cases hlt : k < l.length
    · rcases hH with rfl | ⟨bb, off, rfl, hr⟩
      · simp at hlt
      have y0 := hr k hlt
      have hki : (k : Int) < (l.length : Int) := by omega
      have w2 : IntKind.i64.wrap ((k : Int) + 1) = (k : Int) + 1 := IntWalk.i64_in _ (by omega)
      have HF : Hid (b < l[k] ∨ l[k] < -b → fewB l b = false) := few_none hlt
      have HV : Hid (¬ b < l[k] → ¬ l[k] < -b → ∀ j (hj : j < l.length), j < k + 1 → -b ≤ l[j] ∧ l[j] ≤ b) := fun a c j hj hjk => if e : j = k then by subst e; omega else HA.out j hj (by omega)
      generalize l[k] = V at *
      by_cases h1 : b < V
      · have hf := HF.out (.inl h1)
        clear HF HV HA
        go_wp2
        go_ret
        exact ⟨ret_bool (by first | exact Iff.rfl | simp [hf]), rfl⟩
      · by_cases h2 : V < -b
        · have hf := HF.out (.inr h2)
          clear HF HV HA
          go_wp2
          go_ret
          exact ⟨ret_bool (by first | exact Iff.rfl | simp [hf]), rfl⟩
        · have HN : Hid _ := HV.out h1 h2
          clear HF HV HA
          go_wp2
          go_roundw
          case rel => exact ⟨k + 1, by omega, by go_num, HN.out, by first | trivial | rfl⟩
          case measure => simp [intOf]; omega
    · obtain rfl : k = l.length := by omega
      have hf := few_all fun j hj => HA.out j hj hj
      clear HA
      go_wp2
      go_ret
      exact ⟨ret_bool (by first | exact Iff.rfl | simp [hf]), rfl⟩
end Go.Proofs.Ytnfnidgabgdphaa
