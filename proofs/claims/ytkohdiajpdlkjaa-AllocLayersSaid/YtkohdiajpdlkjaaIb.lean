/-
  Layer 20: contracts of both Points.
-/
import Derived.Test.YtkohdiajpdlkjaaIa
import Derived.Maps.AppendAt
set_option maxRecDepth 100000
namespace Go.Proofs.Ytkohdiajpdlkjaa
open Go.RowKit

def GivesI (l : List Int) (w : World) (e : Ending) (w' : World) : Prop := ∃ s m, e = .returned (.slice s l.length m) ∧ HoldsI w' s l ∧ Below w.heap.size w w' ∧ l.length ≤ m ∧ ∀ b o, s = some ⟨b, o, none⟩ → w.heap.size ≤ b
def nats (L : List Nat) : List Int := L.map fun n : Nat => (n : Int)
theorem nats_len (L : List Nat) : (nats L).length = L.length := by simp [nats]
theorem nats_get (L : List Nat) (i : Nat) : (nats L).getD i 0 = ((L.getD i 0 : Nat) : Int) := by
  unfold nats
  by_cases h : i < L.length
  · simp [List.getD, h]
  · simp [List.getD, List.getElem?_eq_none (show L.length ≤ i by omega)]
def vals (L : List Nat) : List Value := L.map fun n : Nat => .int .i64 (n : Int)
theorem vals_len (L : List Nat) : (vals L).length = L.length := by simp [vals]
theorem vals_app (L : List Nat) (x : Nat) : vals (L ++ [x]) = vals L ++ [.int .i64 (x : Int)] := by simp [vals]
theorem vals_nats (L : List Nat) : vals L = (nats L).map (Value.int .i64) := by simp [vals, nats]
def lenOf : Value → Nat
  | .slice _ n _ => n
  | _ => 0
theorem own_cap {w : World} {base n : Nat} {s : Option Addr} {m : Nat} {xs : List Value} (h : w.ownsRow base 3 1 (.slice s n m) n xs) : n ≤ m := by
  rcases h.2 with ⟨e, h0⟩ | ⟨g, cap, cur, e, _, _, hc, _⟩
  · omega
  · injection e with e1 e2 e3
    omega
theorem own_base {w : World} {base n : Nat} {s : Option Addr} {m : Nat} {xs : List Value} (h : w.ownsRow base 3 1 (.slice s n m) n xs) : ∀ b o, s = some ⟨b, o, none⟩ → base ≤ b := by
  intro b o e
  subst e
  rcases h.2 with ⟨e, h0⟩ | ⟨g, cap, cur, e, hb, _⟩
  · simp at e
  · injection e with e1 e2 e3
    injection e1 with e1
    injection e1 with e1 _
    omega
theorem own_holds {w : World} {base n : Nat} {s : Option Addr} {m : Nat} {L : List Nat} (h : w.ownsRow base 3 1 (.slice s n m) n (vals L)) : n = L.length ∧ HoldsI w s (nats L) := by
  rw [vals_nats] at h
  obtain ⟨h1, h2⟩ := rowP_own h
  rw [nats_len] at h1
  refine ⟨h1, ?_⟩
  rcases h2 with ⟨_, h3⟩ | ⟨g, m', pad, h3, _, h4, _⟩
  · rw [h3]; exact .inl rfl
  · simp at h3
    obtain ⟨rfl, _⟩ := h3
    exact h4.holds
theorem own_built (W : World) (base : Nat) (x : Int) (hb : base ≤ W.heap.size) : (W.alloc (.cells #[.int .i64 x] 3)).ownsRow base 3 1 (.slice (some ⟨W.heap.size, 0, none⟩) 1 1) 1 [.int .i64 x] :=
  ⟨rfl, .inr ⟨W.heap.size, 1, #[.int .i64 x], rfl, hb, Array.getElem?_push_size, Nat.le_refl _, by decide, rfl, rfl⟩⟩
/-- The loop of Points: the points so far, the last of them last. -/
structure PtA (R D : List Int) (WA wr : World) (v : Value) (L : List Nat) (last f : Nat) : Prop where
  own : wr.ownsRow WA.heap.size 3 1 v (L.length + 1) (vals (L ++ [last]))
  sum : hull R D = L ++ pts R D f last
  lt : last < D.length
  fuel : D.length ≤ last + f + 1
  le : L.length ≤ last
  below : Below WA.heap.size WA wr
theorem pts_end {R D : List Int} {f last : Nat} (h : nxt R D last = last) : pts R D f last = [last] := by
  cases f with
  | zero => rfl
  | succ f => unfold pts; rw [if_pos h]
theorem pts_more {R D : List Int} {f last : Nat} (h : nxt R D last ≠ last) (hf : D.length ≤ last + f + 1) : ∃ f', pts R D f last = last :: pts R D f' (nxt R D last) ∧ D.length ≤ nxt R D last + f' + 1 := by
  have hn := (nxt_in R D last).resolve_left h
  cases f with
  | zero => omega
  | succ f => exact ⟨f, by rw [pts, if_neg h], by omega⟩
theorem PtA.grow {R D : List Int} {WA wr w2 w3 : World} {v v' : Value} {L : List Nat} {last f q : Nat} {X : Obj} (h : PtA R D WA wr v L last f) (hb : Below wr.heap.size wr w2) (hown : w3.ownsRow WA.heap.size 3 1 v' (L.length + 1 + 1) (vals (L ++ [last]) ++ [.int .i64 (q : Int)])) (hg : (w2.alloc X).grownBy w3 v.ownBlock)
    (hq : q = nxt R D last) (hne : q ≠ last) : ∃ f', PtA R D WA w3 v' (L ++ [last]) q f' := by
  obtain ⟨f', h1, h2⟩ := pts_more (show nxt R D last ≠ last by omega) h.fuel
  have hn := (nxt_in R D last).resolve_left (by omega)
  refine ⟨f', ?_, ?_, by omega, by omega, by have := h.le; simp; omega, ?_⟩
  · rw [vals_app]; simpa using hown
  · rw [h.sum, h1, hq]; simp
  · have hbb := below_call h.below hb
    exact (hbb.alloc hbb.size X).grown hg (by have := hbb.size; simp; omega) fun k hk => (own_foot h.own hk).1
theorem info_i : ∃ i, Try.prog.info? 3 = some i ∧ i.zero = some (.int .i64 0) ∧ i.size = 1 ∧ i.bytes = 8 := by
  have h := infoI
  cases hi : Try.prog.info? 3 with
  | none => rw [hi] at h; simp at h
  | some i => rw [hi] at h; simp at h; exact ⟨i, rfl, h.1, h.2.1, h.2.2⟩
set_option maxHeartbeats 8000000 in
theorem hpoints_c (R D : List Int) (n d mr md : Nat) (sr sd : Option Addr) (W : World) (hR : HoldsI W sr R) (hD : HoldsI W sd D) (hn : n = R.length) (hd : d = D.length) :
    Calls Try.prog 27 #[.agg #[.slice sr n mr, .slice sd d md]] W (GivesI (if VP R D then nats (hull R D) else []) W) := by
  obtain ⟨i0, hi, hz0, hz1, hz2⟩ := info_i
  obtain ⟨WA, hWA⟩ : ∃ x, x = W.alloc (.cells #[.slice sr n mr, .slice sd d md] 37) := ⟨_, rfl⟩
  have hB : Below W.heap.size W WA := by rw [hWA]; exact below_alloc (Below.refl _ W) _
  have hX : Blk WA W.heap.size 37 #[.slice sr n mr, .slice sd d md] := by rw [hWA]; exact Blk.new W _ _
  have HB := Lib.hid hB
  have HX := Lib.hid hX
  have HR := Lib.hid (hR.below hB (Nat.le_refl _))
  have HD := Lib.hid (hD.below hB (Nat.le_refl _))
  have HWA := Lib.hid hWA
  have kv := hvalid_c R D n d mr md sr sd WA HR.out HD.out hn hd
  obtain ⟨q0, q1⟩ := cv2 hX
  by_cases hv : VP R D
  · rw [if_pos hv]
    rw [decide_eq_true hv] at kv
    have hnd : d = n := by rw [hn, hd]; exact hv.1
    subst hnd
    have HV := Lib.hid hv
    have HDN := Lib.hid hd
    have H179 := Lib.hid (show 1 ≤ d ∧ d ≤ 179 by have := hv.1; have := hv.2.1; have := hv.2.2.1; omega)
    rw [hWA] at kv q0 q1
    clear hB hX hR hD hWA hn hd hv
    go_enter Try.func27, Try.ntmps27
    go_wp2_with (first | (go_at_call 26; (with_reducible refine kv.mono ?_); rintro e w1 ⟨rfl, hb⟩; have B1 := Lib.hid (show Below WA.heap.size WA w1 by rw [HWA.out]; exact hb); clear hb))
    clear q0 q1 kv
    have hI : Hid (∃ (L : List Nat) (last f : Nat), PtA R D WA (w1.alloc (.cells #[.int .i64 0] 3)) (.slice (some ⟨w1.heap.size, 0, none⟩) 1 1) L last f) :=
      ⟨[], 0, D.length, own_built w1 _ 0 B1.out.size, rfl, by have := H179.out; have := HDN.out; omega, by omega, Nat.le_refl _, below_alloc B1.out _⟩
    go_loopw [3] (fun p wr => ∃ (L : List Nat) (last f : Nat), Hid (PtA R D WA wr p L last f)) (fun p _ => 180 - lenOf p)
    case atStart => exact hI.out.elim fun L h => h.elim fun last h => h.elim fun f h => ⟨L, last, f, h⟩
    case round =>
      obtain ⟨L, last, f, hP⟩ := hrel
      obtain ⟨g, m, rfl, hbg, hblk, hcl, hfr⟩ := own_form hP.out.own
      have hc9 : wr.cell? ⟨g, L.length, none⟩ = some (.int .i64 (last : Int)) := by rw [hcl, vals_app]; simp [vals_len]
      have LL := Lib.hid (show L.length ≤ last ∧ last < d by have := hP.out.le; have := hP.out.lt; have := HDN.out; omega)
      have w9 : IntKind.i64.wrap (((L.length + 1 : Nat) : Int) - 1) = (L.length : Int) := by have := LL.out; have := H179.out; rw [IntWalk.i64_left]; unfold wrap64; omega
      obtain ⟨q0, q1⟩ := cv2 (HX.out.below hP.out.below)
      have kn := hnext_c R D HV.out d mr md last sr sd wr HDN.out (HR.out.call hP.out.below) (HD.out.call hP.out.below) (by have := hP.out.lt; have := HDN.out; omega)
      have x1 : (0 : Int) ≤ (L.length : Int) := by omega
      have x2 : (L.length : Int) < ((L.length + 1 : Nat) : Int) := by omega
      have HM := Lib.hid (nxt_in R D last)
      obtain ⟨q, hq⟩ : ∃ q, q = nxt R D last := ⟨_, rfl⟩
      rw [← hq] at kn HM
      have HQ := Lib.hid hq
      clear hq hcl hfr hblk
      generalize hl : L.length = l at *
      have HL := Lib.hid hl.symm
      clear hl
      generalize hl1 : l + 1 = l1 at *
      have HL1 := Lib.hid hl1.symm
      clear hl1
      have HO : Hid (wr.ownsRow WA.heap.size 3 1 (.slice (some ⟨g, 0, none⟩) l1 m) l1 (vals (L ++ [last]))) := by
        have := hP.out.own
        rw [← HL.out, ← HL1.out] at this
        exact this
      by_cases he : q = last
      · have te : ((q : Int) == (last : Int)) = true := by simp [he]
        have HE := Lib.hid he
        clear he
        go_wp2_with (first | (go_at_call 36; (with_reducible refine kn.mono ?_); rintro e w2 ⟨rfl, hb2⟩; have B2 := Lib.hid hb2; clear hb2))
        go_ret
        have hh : hull R D = L ++ [last] := by
          rw [hP.out.sum, pts_end (by rw [← HQ.out]; exact HE.out)]
        have ho := own_holds (L := L ++ [last]) HO.out
        refine ⟨some ⟨g, 0, none⟩, m, ?_, ?_, below_call HB.out (below_call hP.out.below B2.out), ?_, fun b o e => Nat.le_trans HB.out.size (own_base HO.out b o e)⟩
        · rw [hh, nats_len, HL1.out, HL.out]; simp
        · rw [hh]; exact ho.2.call B2.out
        · rw [hh, nats_len]; have := own_cap HO.out; have := ho.1; omega
      · have te : ((q : Int) == (last : Int)) = false := by simp; omega
        have HE := Lib.hid he
        clear he
        go_wp2_with (first | (go_at_call 36; (with_reducible refine kn.mono ?_); rintro e w2 ⟨rfl, hb2⟩; have B2 := Lib.hid hb2; clear hb2) | (at_builtin; refine wpList_append_own_at _ rfl _ _ 25 rfl WA.heap.size 3 i0 (.int .i64 0) 1 8 Try.underlying25 hi hz0 hz1 hz2 rfl (by decide) _ l1 _ rfl (own_below (own_below HO.out B2.out) ((Below.refl _ _).alloc (Nat.le_refl _) _)) ⟨w2.heap.size, 0, none⟩ 1 1 [.int .i64 (q : Int)] rfl rfl (one_new8 _ _ _) (by intro u hu; simp at hu; subst hu; rfl) (by have := LL.out; have := H179.out; have := HL1.out; unfold maxLen; omega) (by have := LL.out; have := H179.out; have := HL1.out; omega) (by have := B2.out.size; have := hP.out.below.size; simp; omega) ?_))
        intro v' w3 hown hgrow _ _
        obtain ⟨s5, m5, rfl⟩ := own_slice hown
        have HOWN := Lib.hid hown
        have HGR := Lib.hid hgrow
        clear hown hgrow
        go_wp2_with fail
        go_roundw
        case rel =>
          rw [HL1.out, HL.out] at HOWN
          obtain ⟨f', h9⟩ := hP.out.grow B2.out HOWN.out HGR.out HQ.out HE.out
          rw [← HL.out, ← HL1.out] at h9
          exact ⟨L ++ [last], q, f', h9⟩
        case measure => have := LL.out; have := H179.out; have := HL1.out; simp [lenOf]; omega
  · rw [if_neg hv]
    rw [decide_eq_false hv] at kv
    rw [hWA] at kv q0 q1
    clear hv hB hX hR hD hWA hn hd
    go_enter Try.func27, Try.ntmps27
    go_wp2_with (first | (go_at_call 26; (with_reducible refine kv.mono ?_); rintro e w1 ⟨rfl, hb⟩; have B1 := Lib.hid (show Below WA.heap.size WA w1 by rw [HWA.out]; exact hb); clear hb))
    go_ret
    exact ⟨none, 0, rfl, .inl rfl, below_call HB.out B1.out, Nat.le_refl _, fun b o e => by simp at e⟩
/-- The loop of the reference's Points. -/
def PtZ (R D : List Int) (WA wr : World) (v i : Value) (L : List Nat) : Prop :=
  wr.ownsRow WA.heap.size 3 1 v L.length (vals L) ∧ Below WA.heap.size WA wr ∧
  ((∃ last f : Nat, i = .int .i64 (last : Int) ∧ hull R D = L ++ pts R D f last ∧ last < D.length ∧ D.length ≤ last + f + 1 ∧ L.length ≤ last) ∨ (i = .int .i64 (-1) ∧ hull R D = L ∧ L.length ≤ D.length))
theorem PtZ.grow {R D : List Int} {WA wr w3 w4 : World} {v v' : Value} {L : List Nat} {last f q : Nat} {X : Obj} (ho : wr.ownsRow WA.heap.size 3 1 v L.length (vals L)) (hb : Below WA.heap.size WA wr) (hs : hull R D = L ++ pts R D f last) (hlt : last < D.length) (hf : D.length ≤ last + f + 1) (hle : L.length ≤ last)
    (hown : w3.ownsRow WA.heap.size 3 1 v' (L.length + 1) (vals L ++ [.int .i64 (last : Int)])) (hg : (wr.alloc X).grownBy w3 v.ownBlock) (hc : Below w3.heap.size w3 w4) (hq : q = nxt R D last) :
    PtZ R D WA w4 v' (.int .i64 (if q = last then -1 else (q : Int))) (L ++ [last]) := by
  refine ⟨?_, ?_, ?_⟩
  · rw [vals_app]
    have : (L ++ [last]).length = L.length + 1 := by simp
    rw [this]
    exact own_below hown hc
  · exact below_call ((hb.alloc hb.size X).grown hg (by have := hb.size; simp; omega) fun k hk => (own_foot ho hk).1) hc
  · by_cases he : q = last
    · rw [if_pos he]
      refine .inr ⟨rfl, ?_, by simp; omega⟩
      rw [hs, pts_end (by omega)]
    · rw [if_neg he]
      obtain ⟨f', h1, h2⟩ := pts_more (show nxt R D last ≠ last by omega) hf
      have hn := (nxt_in R D last).resolve_left (by omega)
      exact .inl ⟨q, f', rfl, by rw [hs, h1, hq]; simp, by omega, by omega, by simp; omega⟩
end Go.Proofs.Ytkohdiajpdlkjaa
