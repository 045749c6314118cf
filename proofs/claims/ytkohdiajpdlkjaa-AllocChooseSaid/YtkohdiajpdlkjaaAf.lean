/-
  Layer 21: contract of ordered, over whatever sorted answers.
-/
import Derived.Test.YtkohdiajpdlkjaaAe
import Derived.Test.YtkohdiajpdlkjaaIc
import Derived.Laws.MakeOwn
import Derived.Deep.RegionLaw
import Derived.Deep.DrawnRows
set_option maxRecDepth 100000
namespace Go.Proofs.Ytkohdiajpdlkjaa
set_option linter.unusedSimpArgs false
attribute [local go_sem ↓] Go.wp_at_zero Go.wp_at_succ
open Go.RowKit

/-- The lists while the steps of the curve number i are laid: k of them are there. -/
def lsIn (cs : List Cv) (i k : Nat) : List (List Stp) := (List.range cs.length).map fun j => if j < i then stepsC j (cs.getD j ([], [])) else if j = i then (List.range k).map (stepAt i (cs.getD i ([], []))) else []
theorem lsIn_len (cs : List Cv) (i k : Nat) : (lsIn cs i k).length = cs.length := by simp [lsIn]
theorem lsIn_get (cs : List Cv) (i k j : Nat) (hj : j < cs.length) : (lsIn cs i k).getD j [] = if j < i then stepsC j (cs.getD j ([], [])) else if j = i then (List.range k).map (stepAt i (cs.getD i ([], []))) else [] := by
  unfold lsIn
  rw [List.getD_eq_getElem?_getD, List.getElem?_map, List.getElem?_range hj]
  rfl
theorem lsIn_zero (cs : List Cv) : lsIn cs 0 0 = List.replicate cs.length [] := by
  refine List.ext_getElem (by simp [lsIn]) fun j h1 h2 => ?_
  simp [lsIn]
theorem lsIn_next (cs : List Cv) (i : Nat) : lsIn cs i (nS (cs.getD i ([], []))) = lsIn cs (i + 1) 0 := by
  unfold lsIn
  refine List.map_congr_left fun j _ => ?_
  by_cases h1 : j < i
  · rw [if_pos h1, if_pos (by omega)]
  · rw [if_neg h1]
    by_cases h2 : j = i
    · subst h2
      rw [if_pos rfl, if_pos (by omega)]
      rfl
    · rw [if_neg h2, if_neg (by omega)]
      by_cases h3 : j = i + 1
      · rw [if_pos h3]; rfl
      · rw [if_neg h3]
theorem lsIn_step (cs : List Cv) (i k : Nat) (hi : i < cs.length) : (lsIn cs i k).set i ((lsIn cs i k).getD i [] ++ [stepAt i (cs.getD i ([], [])) k]) = lsIn cs i (k + 1) := by
  have e0 : (lsIn cs i k).getD i [] = (List.range k).map (stepAt i (cs.getD i ([], []))) := by rw [lsIn_get cs i k i hi, if_neg (by omega), if_pos rfl]
  rw [e0]
  refine List.ext_getElem (by simp [lsIn]) fun j h1 h2 => ?_
  rw [List.getElem_set]
  have hj : j < cs.length := by simpa [lsIn] using h2
  by_cases e : i = j
  · subst e
    rw [if_pos rfl]
    simp [lsIn, List.range_succ]
  · rw [if_neg e]
    simp only [lsIn, List.getElem_map, List.getElem_range]
    by_cases h3 : j < i
    · rw [if_pos h3, if_pos h3]
    · rw [if_neg h3, if_neg h3, if_neg (fun q => e q.symm), if_neg (fun q => e q.symm)]
theorem allS_flat (cs : List Cv) (n : Nat) : allS cs n = ((List.range n).map fun j => stepsC j (cs.getD j ([], []))).flatten := by
  induction n with
  | zero => rfl
  | succ n ih => rw [allS, ih, List.range_succ, List.map_append, List.flatten_append]; simp
theorem lsIn_all (cs : List Cv) : (lsIn cs cs.length 0).flatten = allS cs cs.length := by
  rw [allS_flat]
  congr 1
  unfold lsIn
  refine List.map_congr_left fun j hj => ?_
  rw [if_pos (by simpa using hj)]
theorem madeS (n : Nat) : madeCells (Value.slice none 0 0).cells (n * 1) = (List.replicate n (Value.slice none 0 0)).toArray := by
  rw [Nat.mul_one]
  refine Array.ext (by simp [madeCells]) fun i h1 h2 => ?_
  simp [madeCells, Value.cells, Nat.mod_one]
theorem infoL : (Try.prog.info? 47).map (fun i => (i.zero, i.size, i.bytes)) = some (some (.slice none 0 0), 1, 24) := by kernel_rfl
theorem infoLS : (Try.prog.info? 47).map (fun i => (i.zero, i.size, i.bytes)) = some (some (.slice none 0 0), 1, 24) := infoL
/-- What sorted answers: a list of the call's own that is the given lists' steps, sorted. -/
def SortedOk : Prop := ∀ (G B m n : Nat) (vs : List Value) (ls : List (List Stp)) (W : World), Ls W G B vs ls → n = vs.length → n ≤ 65536 → ls.flatten.length ≤ 100000000 → (∀ s ∈ ls.flatten, okS s) →
  Calls Try.prog 28 #[.slice (some ⟨G, 0, none⟩) n m, .func (.func 29) #[] #[]] W fun e w' => ∃ v S, e = .returned v ∧ w'.ownsRow W.heap.size 55 4 v S.length (flatE encA S) ∧ S.Perm ls.flatten ∧ (S.Pairwise fun s t => ¬ ltS t s) ∧ Below W.heap.size W w'
theorem nS_le {C : Cv} (h : VP C.1 C.2) : nS C ≤ 178 := by
  have := hull_len h
  have := h.1
  have := h.2.2.1
  unfold nS
  omega
theorem allS_len {cs : List Cv} (h : okC cs) (n : Nat) (hn : n ≤ cs.length) : (allS cs n).length ≤ n * 178 := by
  induction n with
  | zero => simp [allS]
  | succ n ih =>
    have := ih (by omega)
    have := nS_le (h.2 n (by omega))
    rw [allS, List.length_append, stepsC_len]
    omega
theorem HoldsI.grown' {w w1 : World} {b o : Nat} {l : List Int} {row : Option Nat} (h : HoldsI w (some ⟨b, o, none⟩) l) (hg : w.grownBy w1 row) (hb : b < w.heap.size) (hr : some b ≠ row) : HoldsI w1 (some ⟨b, o, none⟩) l := by
  rcases h with h | ⟨b', o', e, hc⟩
  · exact .inl h
  · injection e with e; injection e with e1 e2; subst e1 e2
    refine .inr ⟨b, o, rfl, fun j hj => ?_⟩
    have e := hg.block b hb hr
    have := hc j hj
    unfold World.cell? at this ⊢
    rw [e]
    exact this
theorem HoldsI.far' {w : World} {b o : Nat} {l : List Int} (h : HoldsI w (some ⟨b, o, none⟩) l) {p : Addr} (hp : b ≠ p.block) (u : Value) : HoldsI (w.setCell p u) (some ⟨b, o, none⟩) l := by
  rcases h with h | ⟨b', o', e, hc⟩
  · exact .inl h
  · injection e with e; injection e with e1 e2; subst e1 e2
    refine .inr ⟨b, o, rfl, fun j hj => ?_⟩
    have := hc j hj
    rw [World.cell?_setCell_far]
    · exact this
    · intro e
      subst e
      exact hp rfl
theorem own4_slice {w : World} {base n : Nat} {e : TypeId} {size : Nat} {v : Value} {xs : List Value} (h : w.ownsRow base e size v n xs) : ∃ s m, v = .slice s n m := by
  rcases h.2 with ⟨rfl, rfl⟩ | ⟨g, cap, cur, rfl, _⟩
  · exact ⟨none, 0, rfl⟩
  · exact ⟨_, cap, rfl⟩
theorem own4_base {w : World} {b b' n : Nat} {e : TypeId} {size : Nat} {v : Value} {xs : List Value} (h : w.ownsRow b e size v n xs) (hb : b' ≤ b) : w.ownsRow b' e size v n xs := by
  refine ⟨h.1, ?_⟩
  rcases h.2 with hn | ⟨g, cap, cur, h1, h2, h3⟩
  · exact .inl hn
  · exact .inr ⟨g, cap, cur, h1, by omega, h3⟩
/-- What stands while the steps of a curve are laid. -/
structure St (W : World) (cs : List Cv) (k gx bp op : Nat) (PT : List Int) (x0 x1 : Value) (wr : World) (vs : List Value) (j : Nat) : Prop where
  ls : Ls wr W.heap.size (W.heap.size + 1) vs (lsIn cs k j)
  be : Below W.heap.size W wr
  bx : Blk wr gx 37 #[x0, x1]
  pt : HoldsI wr (some ⟨bp, op, none⟩) PT
  pb : W.heap.size < bp ∧ bp < wr.heap.size
  pr : ∀ i, i < vs.length → (vs.getD i undef).ownBlock ≠ some bp
section
variable {W wr w1 : World} {cs : List Cv} {k gx bp op j : Nat} {PT : List Int} {x0 x1 : Value} {vs : List Value}
theorem St.call (h : St W cs k gx bp op PT x0 x1 wr vs j) (hb : Below wr.heap.size wr w1) : St W cs k gx bp op PT x0 x1 w1 vs j :=
  ⟨h.ls.call hb, h.be.trans (hb.mono h.be.size), h.bx.below hb, h.pt.below hb (Nat.le_refl _), ⟨h.pb.1, by have := h.pb.2; have := hb.size; omega⟩, h.pr⟩
theorem St.push (h : St W cs k gx bp op PT x0 x1 wr vs j) (hk : k < vs.length) (hkc : k < cs.length) {v' : Value} (hown : w1.ownsRow (W.heap.size + 1) 55 4 v' (((lsIn cs k j).getD k []).length + 1) (flatE encA ((lsIn cs k j).getD k []) ++ encA (stepAt k (cs.getD k ([], [])) j)))
    (hg : wr.grownBy w1 (vs.getD k undef).ownBlock) (hat : v'.ownBlock = (vs.getD k undef).ownBlock ∨ v'.ownBlock = some wr.heap.size) :
    St W cs k gx bp op PT x0 x1 (w1.setCell ⟨W.heap.size, k, none⟩ v') (vs.set k v') (j + 1) ∧ w1.cell? ⟨W.heap.size, k, none⟩ = some (vs.getD k undef) ∧ w1.frozen? ⟨W.heap.size, k, none⟩ = false ∧ Blk w1 gx 37 #[x0, x1] ∧ Below W.heap.size W w1 := by
  have hGr : some W.heap.size ≠ (vs.getD k undef).ownBlock := by
    intro e
    have := (own4_lt (h.ls.own k hk) _ e.symm).1
    omega
  have hxr : some gx ≠ (vs.getD k undef).ownBlock := fun e => own_blk_ne (h.ls.own k hk) h.bx (by decide) e.symm
  have hxG : gx ≠ W.heap.size := h.bx.ne h.ls.blk (by decide)
  have L := h.ls.push hk rfl hg (stepAt k (cs.getD k ([], [])) j) hown (hat.imp id fun e => ⟨_, e, Nat.le_refl _⟩)
  rw [lsIn_step cs k j hkc] at L
  have hB := h.ls.blk.grown hg hGr
  refine ⟨⟨L, (h.be.grown hg h.be.size (fun q hq => by have := (own4_lt (h.ls.own k hk) q hq).1; omega)).setCell (Nat.le_refl _) _, (h.bx.grown hg hxr).far (p := ⟨W.heap.size, k, none⟩) hxG v', ?_, ⟨h.pb.1, ?_⟩, ?_⟩, ?_, hB.free k, h.bx.grown hg hxr, h.be.grown hg h.be.size (fun q hq => by have := (own4_lt (h.ls.own k hk) q hq).1; omega)⟩
  · refine (h.pt.grown' hg h.pb.2 (fun e => h.pr k hk e.symm)).far' ?_ v'
    have := h.pb.1
    show bp ≠ W.heap.size
    omega
  · have := h.pb.2; have := hg.size; simp [World.setCell]; omega
  · intro i hi
    rw [List.length_set] at hi
    rw [getD_set']
    by_cases e : k = i
    · rw [if_pos ⟨e, hk⟩]
      rcases hat with q | q
      · rw [q]; exact h.pr k hk
      · rw [q]; intro e2; injection e2 with e2; have := h.pb.2; omega
    · rw [if_neg (fun q => e q.1)]; exact h.pr i hi
  · rw [hB.cell k, List.getD_eq_getElem?_getD]
    simp [hk]
end
theorem cell0_of {w : World} {g : Nat} {t : TypeId} {a b : Value} (h : Blk w g t #[a, b]) : w.cell? ⟨g, 0, none⟩ = some a := h.cell 0
def cellV (w : World) (a : Addr) : Value := (w.cell? a).getD undef
theorem cellV_eq {w : World} {a : Addr} {v : Value} (h : w.cell? a = some v) : cellV w a = v := by unfold cellV; rw [h]; rfl
theorem cellV_of {w : World} {a : Addr} (h : ∃ u, w.cell? a = some u) : w.cell? a = some (cellV w a) := by obtain ⟨u, h⟩ := h; rw [cellV_eq h, h]
theorem st_cell {W wr : World} {cs : List Cv} {k gx bp op j : Nat} {PT : List Int} {x0 x1 : Value} {vs : List Value} (h : St W cs k gx bp op PT x0 x1 wr vs j) (hk : k < vs.length) : ∃ u, wr.cell? ⟨W.heap.size, k, none⟩ = some u := ⟨_, h.ls.cell hk⟩
/-- The numbers of a step of a curve. -/
theorem step_nums {R D : List Int} (h : VP R D) {j : Nat} (hj : j + 1 < (hull R D).length) :
    let f := (hull R D).getD j 0; let t := (hull R D).getD (j + 1) 0
    f < R.length ∧ t < R.length ∧ f < D.length ∧ t < D.length ∧ IntKind.i64.wrap (D.getD f 0 - D.getD t 0) = hF R D j ∧ IntKind.i64.wrap (R.getD t 0 - R.getD f 0) = hI R D j := by
  have h1 := hull_lt h (i := j) (by omega)
  have h2 := hull_lt h (i := j + 1) hj
  have hl := h.1
  obtain ⟨h3, h4, h5⟩ := hF_ok h hj
  unfold okD okR at *
  dsimp only
  refine ⟨by omega, by omega, h1, h2, ?_, ?_⟩
  · show IntKind.i64.wrap (hF R D j) = _
    rw [IntWalk.i64_left]; unfold wrap64; omega
  · show IntKind.i64.wrap (hI R D j) = _
    rw [IntWalk.i64_left]; unfold wrap64; omega
set_option maxHeartbeats 8000000 in
theorem ordered_c (KS : SortedOk) (a : Option Addr) (m n : Nat) (cs : List Cv) (W : World) (hC : HoldsCv W a cs) (hn : n = cs.length) (hok : okC cs) :
    Calls Try.prog 21 #[.slice a n m] W fun e w' => ∃ v S, e = .returned v ∧ w'.ownsRow W.heap.size 55 4 v S.length (flatE encA S) ∧ isS cs S ∧ Below W.heap.size W w' := by
  have HC := Lib.hid hC
  have HN := Lib.hid hn
  have HOK := Lib.hid hok
  have hn2 : n ≤ 65536 := by have := hok.1; omega
  have HN2 := Lib.hid hn2
  obtain ⟨i0, hi, hz0, hz1, hz2⟩ := info_parts infoS
  obtain ⟨j0, ji, jz0, jz1, jz2⟩ := info_parts infoL
  have hmk := run_make (P := Try.prog) (w := W) (53) 47 j0 (.slice none 0 0) Try.underlying53 ji jz0 .i64 .i64 (n : Int) (n : Int) (by omega) (by omega) (by rw [jz2]; omega) (by omega)
  rw [jz1, Int.toNat_natCast, madeS] at hmk
  clear hC hn hok hn2 ji jz0 jz1 jz2
  go_enter Try.func21, Try.ntmps21
  go_wp2_with fail
  clear hmk
  go_loopw [15] (fun i wr => ∃ k : Nat, ∃ vs : List Value, k ≤ n ∧ i = .int .i64 (k : Int) ∧ Hid (Ls wr W.heap.size (W.heap.size + 1) vs (lsIn cs k 0)) ∧ Hid (Below W.heap.size W wr)) (fun i _ => n - (intOf i).toNat)
  case atStart => exact ⟨0, List.replicate n (.slice none 0 0), Nat.zero_le _, rfl, by
    have := Ls.made W n (W.heap.size + 1) (by omega)
    rw [lsIn_zero, ← HN.out]
    exact Lib.hid (by simpa using this), below_alloc (Below.refl _ _) _⟩
  case round =>
    obtain ⟨k, vs, hk, rfl, hL, hB⟩ := hrel
    obtain ⟨w0, rfl⟩ : ∃ w0 : World, w0 = wr := ⟨_, rfl⟩
    by_cases hlt : k < n
    · obtain ⟨b, off, sr, sd, mr, md, rfl, c0, c1, hR, hD⟩ := HC.out.at (show k < cs.length by have := HN.out; omega)
      have hblt := cell_lt' c0
      replace c0 := (hB.out.cell (p := ⟨b, off + k * 2, none⟩) hblt).trans c0
      replace c1 := (hB.out.cell (p := ⟨b, off + k * 2 + 1, none⟩) hblt).trans c1
      have hv := HOK.out.2 k (by have := HN.out; omega)
      obtain ⟨R, D, hRD⟩ : ∃ R D, cs.getD k ([], []) = (R, D) := ⟨_, _, rfl⟩
      rw [hRD] at c0 c1 hR hD hv
      dsimp only at c0 c1 hR hD hv
      have HRW := Lib.hid hR
      have HDW := Lib.hid hD
      replace hR := hR.below hB.out (Nat.le_refl _)
      replace hD := hD.below hB.out (Nat.le_refl _)
      have HV := Lib.hid hv
      have HRD := Lib.hid hRD
      obtain ⟨r, hr⟩ : ∃ r, r = R.length := ⟨_, rfl⟩
      obtain ⟨d, hd⟩ : ∃ d, d = D.length := ⟨_, rfl⟩
      have HRL := Lib.hid hr
      have HDL := Lib.hid hd
      rw [← hr] at c0
      rw [← hd] at c1
      have kp := fun (W1 : World) (h1 : HoldsI W1 sr R) (h2 : HoldsI W1 sd D) => hpoints_c R D r d mr md sr sd W1 h1 h2 hr hd
      rw [if_pos hv] at kp
      have hp := (hull_pos R D).1
      obtain ⟨q, hq⟩ : ∃ q, (nats (hull R D)).length = q + 1 := ⟨(hull R D).length - 1, by rw [nats_len]; omega⟩
      have HQ := Lib.hid (show nS (cs.getD k ([], [])) = q by rw [hRD]; show (hull R D).length - 1 = q; rw [nats_len] at hq; omega)
      have wA := (Below.refl w0.heap.size w0).alloc (Nat.le_refl _) (.cells #[.slice sr r mr, .slice sd d md] 37)
      have kp := kp _ (hR.below wA (Nat.le_refl _)) (hD.below wA (Nat.le_refl _))
      have WA := Lib.hid wA
      have hX0 := Lib.hid (Blk.new w0 37 #[.slice sr r mr, .slice sd d md])
      clear hR hD hv hRD hr hd hp wA hblt
      unfold GivesI at kp
      rw [hq] at kp
      have HQL := Lib.hid hq
      clear hq
      have PL := Lib.hid (show 0 < (nats (hull R D)).length by rw [HQL.out]; omega)
      obtain ⟨PT, hPT⟩ : ∃ PT, PT = nats (hull R D) := ⟨_, rfl⟩
      rw [← hPT] at kp HQL PL
      have HPT := Lib.hid hPT
      clear hPT
      rcases Nat.eq_zero_or_pos q with hq0 | hq0
      · subst hq0
        go_wp2_with (first | (go_at_call 27; (with_reducible refine kp.mono ?_); rintro e w1 ⟨sp, mp, rfl, hh1, hb1, hm1, hf1⟩; obtain ⟨bp, op, rfl, -⟩ := hh1.at PL.out; have B1 := Lib.hid (WA.out.trans (hb1.mono WA.out.size)); clear hb1 hh1 hf1) | fail)
        all_goals
          have L1 := Lib.hid (hL.out.call B1.out)
          have HB1 := Lib.hid (hB.out.trans (B1.out.mono hB.out.size))
          go_loopw [25] (fun i wr => i = .int .i64 0 ∧ Hid (Ls wr W.heap.size (W.heap.size + 1) vs (lsIn cs k 0)) ∧ Hid (Below W.heap.size W wr)) (fun _ _ => 0)
          case atStart => exact ⟨rfl, L1, HB1⟩
          case round =>
            obtain ⟨rfl, hL2, hB2⟩ := hrel
            have hn2 := HN2.out
            go_wp2_with fail
            go_roundw
            case rel => exact ⟨k + 1, vs, by omega, by go_num, by have h := lsIn_next cs k; rw [HQ.out] at h; rw [← h]; exact hL2, hB2⟩
            case measure => simp [intOf]; omega
      · have hm3 : ∀ mp : Nat, q + 1 ≤ mp → ¬ (mp = 1) := fun mp h => by omega
        go_wp2_with (first | (go_at_call 27; (with_reducible refine kp.mono ?_); rintro e w1 ⟨sp, mp, rfl, hh1, hb1, hm1, hf1⟩; obtain ⟨bp, op, rfl, -⟩ := hh1.at PL.out; have HP := Lib.hid hh1; have HX := Lib.hid (hX0.out.below hb1); have HF := Lib.hid (hf1 bp op rfl); have B1 := Lib.hid (WA.out.trans (hb1.mono WA.out.size)); have hm2 := hm3 mp hm1; clear hb1 hh1 hf1) | fail)
        have S0 : St W cs k w0.heap.size bp op PT (.slice sr r mr) (.slice sd d md) w1 vs 0 := ⟨hL.out.call B1.out, hB.out.trans (B1.out.mono hB.out.size), HX.out, HP.out, by
          have h1 := HF.out
          have h2 := hB.out.size
          have h3 := hL.out.blk.lt
          have h4 := cell_lt' (by have := holdsI_at HP.out (k := 0) PL.out; exact this)
          simp at h1
          omega, fun i hi e => by
          have h1 := HF.out
          have h2 := (own4_lt (hL.out.own i hi) bp e).2
          simp at h1
          omega⟩
        have SS := Lib.hid S0
        have HVL := Lib.hid (show k < vs.length by have := hL.out.len; rw [lsIn_len] at this; have := HN.out; omega)
        clear S0
        go_loopw [25] (fun i wr => ∃ j : Nat, ∃ vs2 : List Value, j ≤ q ∧ i = .int .i64 (j : Int) ∧ Hid (vs2.length = vs.length) ∧ Hid (St W cs k w0.heap.size bp op PT (.slice sr r mr) (.slice sd d md) wr vs2 j)) (fun i _ => q - (intOf i).toNat)
        case atStart => exact ⟨0, vs, Nat.zero_le _, rfl, rfl, SS⟩
        case round =>
          obtain ⟨j, vs2, hj, rfl, hvl, hS⟩ := hrel
          clear SS
          by_cases hjq : j < q
          · obtain ⟨wc, rfl⟩ : ∃ wc : World, wc = wr := ⟨_, rfl⟩
            have HJQ := Lib.hid hjq
            have hjh : j + 1 < (hull R D).length := by have := HQL.out; rw [HPT.out, nats_len] at this; omega
            obtain ⟨n1, n2, n3, n4, n5, n6⟩ := step_nums HV.out hjh
            have pj : wc.cell? ⟨bp, op + j, none⟩ = some (.int .i64 (((hull R D).getD j 0 : Nat) : Int)) := by
              have h := hS.out.pt.of (k := j) (by have := HQL.out; omega)
              rw [HPT.out, nats_get] at h
              exact h
            have pj1 : wc.cell? ⟨bp, op + 1 + j, none⟩ = some (.int .i64 (((hull R D).getD (j + 1) 0 : Nat) : Int)) := by
              have h := hS.out.pt.of (k := j + 1) (by have := HQL.out; omega)
              rw [HPT.out, nats_get, show op + (j + 1) = op + 1 + j by omega] at h
              exact h
            have i1 : (j : Int) < (q : Int) := by omega
            have i2 : (j : Int) < ((q + 1 : Nat) : Int) := by omega
            obtain ⟨f, hf⟩ : ∃ f, f = (hull R D).getD j 0 := ⟨_, rfl⟩
            obtain ⟨t, ht⟩ : ∃ t, t = (hull R D).getD (j + 1) 0 := ⟨_, rfl⟩
            obtain ⟨dd, hdd⟩ : ∃ dd, dd = hF R D j := ⟨_, rfl⟩
            obtain ⟨rr, hrr⟩ : ∃ rr, rr = hI R D j := ⟨_, rfl⟩
            have HST := Lib.hid (show encA (stepAt k (cs.getD k ([], [])) j) = [.int .i64 (k : Int), .int .i64 (t : Int), .int .i64 dd, .int .i64 rr] by rw [HRD.out, ht, hdd, hrr]; rfl)
            rw [← hf] at pj n1 n3 n5 n6
            rw [← ht] at pj1 n2 n4 n5 n6
            rw [← hdd] at n5
            rw [← hrr] at n6

            clear hf ht hdd hrr
            have hk0 : k < vs2.length := by rw [hvl.out]; exact HVL.out
            have hkc : k < cs.length := by have := HN.out; omega
            obtain ⟨s0, m0, hv0⟩ := own4_slice (hS.out.ls.own k hk0)
            have cG := hS.out.ls.cell hk0
            rw [hv0] at cG
            have hRc := HRW.out.below hS.out.be (Nat.le_refl _)
            have hDc := HDW.out.below hS.out.be (Nat.le_refl _)
            obtain ⟨br, orr, rfl, rf⟩ := hRc.at n1
            have rt := hRc.of n2
            obtain ⟨bd, odd, rfl, df⟩ := hDc.at n3
            have dt := hDc.of n4
            have HBR := Lib.hid (cell_lt' (HRW.out.of n1))
            have HBD := Lib.hid (cell_lt' (HDW.out.of n3))
            have HWR := Lib.hid (show _ ∧ _ ∧ _ ∧ _ from ⟨HRW.out.of n1, HRW.out.of n2, HDW.out.of n3, HDW.out.of n4⟩)
            have HK2 := Lib.hid (fun v : Value => show k < (vs2.set k v).length by rw [List.length_set]; exact hk0)
            rw [← HRL.out] at n1 n2
            rw [← HDL.out] at n3 n4
            generalize R.getD f 0 = rf0 at *
            generalize R.getD t 0 = rt0 at *
            generalize D.getD f 0 = df0 at *
            generalize D.getD t 0 = dt0 at *
            have b0 : wc.cell? ⟨w0.heap.size, 0, none⟩ = some (.slice (some ⟨br, orr, none⟩) r mr) := hS.out.bx.cell 0
            have b1 : wc.cell? ⟨w0.heap.size, 1, none⟩ = some (.slice (some ⟨bd, odd, none⟩) d md) := hS.out.bx.cell 1
            have z0 : (0 : Int) ≤ (k : Int) := by omega
            have z1 : (0 : Int) ≤ (f : Int) := by omega
            have z2 : (0 : Int) ≤ (t : Int) := by omega
            have kv0 : (k : Int) < (n : Int) := by omega
            have f0 : (f : Int) < (r : Int) := by omega
            have f1 : (t : Int) < (r : Int) := by omega
            have f2 : (f : Int) < (d : Int) := by omega
            have f3 : (t : Int) < (d : Int) := by omega
            have HQ9 := Lib.hid (show q ≤ 178 by have h1 := nS_le (C := (R, D)) HV.out; have h2 := HQ.out; rw [HRD.out] at h2; omega)
            have HN4 := Lib.hid (show f < r ∧ t < r ∧ f < d ∧ t < d from ⟨n1, n2, n3, n4⟩)
            have HK := Lib.hid (show k < vs2.length ∧ k < cs.length from ⟨hk0, hkc⟩)
            have HV0 := Lib.hid hv0
            obtain ⟨ln, hln⟩ : ∃ ln, ln = ((lsIn cs k j).getD k []).length := ⟨_, rfl⟩
            have HLN := Lib.hid (show ln ≤ 178 by
              rw [hln, lsIn_get cs k j k hkc, if_neg (by omega), if_pos rfl, List.length_map, List.length_range]
              have := nS_le (C := (R, D)) HV.out
              have h2 := HQ.out
              rw [HRD.out] at h2
              omega)
            have HOW := Lib.hid (fun X : Obj => (hS.out.call ((Below.refl _ wc).drew.alloc (Nat.le_refl _) X)).ls.own k hk0)
            rw [hv0, ← hln] at HOW
            have HG := Lib.hid (fun (X : Obj) (v' : Value) (w2 : World) (ho : w2.ownsRow (W.heap.size + 1) 55 4 v' (ln + 1) (flatE encA ((lsIn cs k j).getD k []) ++ [.int .i64 (k : Int), .int .i64 (t : Int), .int .i64 dd, .int .i64 rr])) (hg : (wc.drew.alloc X).grownBy w2 (Value.slice s0 ln m0).ownBlock) (hat : v'.ownBlock = (Value.slice s0 ln m0).ownBlock ∨ v'.ownBlock = some (wc.drew.alloc X).heap.size) => (hS.out.call ((Below.refl _ wc).drew.alloc (Nat.le_refl _) X)).push hk0 hkc (v' := v') (w1 := w2) (by rw [HST.out, ← hln]; exact ho) (by rw [hv0, ← hln]; exact hg) (by rw [hv0, ← hln]; exact hat))
            rw [hv0, ← hln] at HG
            rw [← hln] at cG
            generalize flatE encA ((lsIn cs k j).getD k []) = xs0 at *
            have hbz : W.heap.size + 1 ≤ (wc.drew.alloc (.cells #[.int .i64 (k : Int), .int .i64 (t : Int), .int .i64 dd, .int .i64 rr] 55)).heap.size := by have h1 := hS.out.ls.blk.lt; have h2 : wc.drew.heap.size = wc.heap.size := rfl; simp; omega
            have h4 : ∀ (i : Nat) (u : Value), [Value.int .i64 (k : Int), .int .i64 (t : Int), .int .i64 dd, .int .i64 rr][i]? = some u → (wc.drew.alloc (.cells #[.int .i64 (k : Int), .int .i64 (t : Int), .int .i64 dd, .int .i64 rr] 55)).cell? (Addr.add ⟨wc.heap.size, 0, none⟩ i) = some u := by
              intro i u hj
              have e : (wc.drew.alloc (.cells #[.int .i64 (k : Int), .int .i64 (t : Int), .int .i64 dd, .int .i64 rr] 55)).cell? (Addr.add ⟨wc.heap.size, 0, none⟩ i) = (#[Value.int .i64 (k : Int), .int .i64 (t : Int), .int .i64 dd, .int .i64 rr] : Array Value)[i]? := by
                have := (Blk.new wc.drew 55 #[.int .i64 (k : Int), .int .i64 (t : Int), .int .i64 dd, .int .i64 rr]).cell i
                have e0 : Addr.add ⟨wc.heap.size, 0, none⟩ i = ⟨wc.heap.size, i, none⟩ := by
                  unfold Addr.add
                  split
                  · rename_i h0; rw [h0]
                  · simp
                rw [e0]
                exact this
              rw [e]
              simpa using hj
            have HZ := Lib.hid hbz
            have H6 := Lib.hid (show 0 < 4 by decide)
            have H4 := Lib.hid h4
            have HO1 := Lib.hid (show ∀ u ∈ [Value.int .i64 (k : Int), .int .i64 (t : Int), .int .i64 dd, .int .i64 rr], u.oneCell' = true by intro u hu; simp at hu; rcases hu with rfl | rfl | rfl | rfl <;> rfl)
            have HM := Lib.hid (show ln + 1 ≤ maxLen ∧ (ln + 1) * 32 ≤ 140737488355328 by have := HLN.out; unfold maxLen; omega)
            clear hk0 hkc hv0 hln n1 n2 n3 n4 hRc hDc hbz h4
            go_upto_region 10 with fail
            have HSS := Lib.hid (fun (w1 : World) (he : Below W.heap.size W w1) (hx : Blk w1 w0.heap.size 37 #[.slice (some ⟨br, orr, none⟩) r mr, .slice (some ⟨bd, odd, none⟩) d md]) (hg : ∃ u, w1.cell? ⟨W.heap.size, k, none⟩ = some u) => (show w1.cell? ⟨w0.heap.size, 0, none⟩ = some (.slice (some ⟨br, orr, none⟩) r mr) ∧ w1.cell? ⟨w0.heap.size, 1, none⟩ = some (.slice (some ⟨bd, odd, none⟩) d md) ∧ w1.cell? ⟨br, orr + f, none⟩ = some (.int .i64 rf0) ∧ w1.cell? ⟨br, orr + t, none⟩ = some (.int .i64 rt0) ∧ w1.cell? ⟨bd, odd + f, none⟩ = some (.int .i64 df0) ∧ w1.cell? ⟨bd, odd + t, none⟩ = some (.int .i64 dt0) ∧ w1.cell? ⟨W.heap.size, k, none⟩ = some (cellV w1 ⟨W.heap.size, k, none⟩) from ⟨hx.cell 0, hx.cell 1, (he.cell (p := ⟨br, orr + f, none⟩) HBR.out).trans HWR.out.1, (he.cell (p := ⟨br, orr + t, none⟩) HBR.out).trans HWR.out.2.1, (he.cell (p := ⟨bd, odd + f, none⟩) HBD.out).trans HWR.out.2.2.1, (he.cell (p := ⟨bd, odd + t, none⟩) HBD.out).trans HWR.out.2.2.2, cellV_of hg⟩))
            have sd0 : wc.drew.cell? ⟨w0.heap.size, 0, none⟩ = some (.slice (some ⟨br, orr, none⟩) r mr) ∧ wc.drew.cell? ⟨w0.heap.size, 1, none⟩ = some (.slice (some ⟨bd, odd, none⟩) d md) ∧ wc.drew.cell? ⟨br, orr + f, none⟩ = some (.int .i64 rf0) ∧ wc.drew.cell? ⟨br, orr + t, none⟩ = some (.int .i64 rt0) ∧ wc.drew.cell? ⟨bd, odd + f, none⟩ = some (.int .i64 df0) ∧ wc.drew.cell? ⟨bd, odd + t, none⟩ = some (.int .i64 dt0) ∧ wc.drew.cell? ⟨W.heap.size, k, none⟩ = some (cellV wc.drew ⟨W.heap.size, k, none⟩) := HSS.out wc.drew hS.out.be.drew hS.out.bx.drew ⟨_, cG⟩
            have sd1 : ∀ X : Obj, (wc.alloc X).drew.cell? ⟨w0.heap.size, 0, none⟩ = some (.slice (some ⟨br, orr, none⟩) r mr) ∧ (wc.alloc X).drew.cell? ⟨w0.heap.size, 1, none⟩ = some (.slice (some ⟨bd, odd, none⟩) d md) ∧ (wc.alloc X).drew.cell? ⟨br, orr + f, none⟩ = some (.int .i64 rf0) ∧ (wc.alloc X).drew.cell? ⟨br, orr + t, none⟩ = some (.int .i64 rt0) ∧ (wc.alloc X).drew.cell? ⟨bd, odd + f, none⟩ = some (.int .i64 df0) ∧ (wc.alloc X).drew.cell? ⟨bd, odd + t, none⟩ = some (.int .i64 dt0) ∧ (wc.alloc X).drew.cell? ⟨W.heap.size, k, none⟩ = some (cellV (wc.alloc X).drew ⟨W.heap.size, k, none⟩) := fun X => HSS.out _ ((hS.out.be.alloc hS.out.be.size X).drew) (hS.out.bx.alloc X).drew ⟨_, cell_alloc cG X⟩
            have sd2 : ∀ X : Obj, (wc.drew.alloc X).cell? ⟨w0.heap.size, 0, none⟩ = some (.slice (some ⟨br, orr, none⟩) r mr) ∧ (wc.drew.alloc X).cell? ⟨w0.heap.size, 1, none⟩ = some (.slice (some ⟨bd, odd, none⟩) d md) ∧ (wc.drew.alloc X).cell? ⟨br, orr + f, none⟩ = some (.int .i64 rf0) ∧ (wc.drew.alloc X).cell? ⟨br, orr + t, none⟩ = some (.int .i64 rt0) ∧ (wc.drew.alloc X).cell? ⟨bd, odd + f, none⟩ = some (.int .i64 df0) ∧ (wc.drew.alloc X).cell? ⟨bd, odd + t, none⟩ = some (.int .i64 dt0) ∧ (wc.drew.alloc X).cell? ⟨W.heap.size, k, none⟩ = some (cellV (wc.drew.alloc X) ⟨W.heap.size, k, none⟩) := fun X => HSS.out _ (hS.out.be.drew.alloc hS.out.be.size X) (hS.out.bx.drew.alloc X) ⟨_, cell_alloc cG X⟩
            have cv0 : cellV wc.drew ⟨W.heap.size, k, none⟩ = .slice s0 ln m0 := cellV_eq cG
            have cv1 : ∀ X : Obj, cellV (wc.alloc X).drew ⟨W.heap.size, k, none⟩ = .slice s0 ln m0 := fun X => cellV_eq (cell_alloc cG X)
            have cv2 : ∀ X : Obj, cellV (wc.drew.alloc X) ⟨W.heap.size, k, none⟩ = .slice s0 ln m0 := fun X => cellV_eq (cell_alloc cG X)
            clear b0 b1 rf rt df dt cG pj pj1
            refine wp_region_held_drew (S := (fun w' => w'.cell? ⟨w0.heap.size, 0, none⟩ = some (.slice (some ⟨br, orr, none⟩) r mr) ∧ w'.cell? ⟨w0.heap.size, 1, none⟩ = some (.slice (some ⟨bd, odd, none⟩) d md) ∧ w'.cell? ⟨br, orr + f, none⟩ = some (.int .i64 rf0) ∧ w'.cell? ⟨br, orr + t, none⟩ = some (.int .i64 rt0) ∧ w'.cell? ⟨bd, odd + f, none⟩ = some (.int .i64 df0) ∧ w'.cell? ⟨bd, odd + t, none⟩ = some (.int .i64 dt0) ∧ w'.cell? ⟨W.heap.size, k, none⟩ = some (cellV w' ⟨W.heap.size, k, none⟩))) (by kernel_rfl) (by (try dsimp only); (first | (with_reducible exact sd0) | (with_reducible exact sd1 _) | (with_reducible exact sd2 _) | (with_reducible exact sd3) | (with_reducible exact sd4) | fail)) (fun hHeld => ?_)
            refine wpAnyH_take (i := 0) (oi := _) (v := ?_) rfl (by kernel_rfl) (by kernel_rfl) (by kernel_rfl) (fun _ _ _ h => h) (Or.inl ⟨by rfl, ?_⟩) (by assumption) ?_
            rotate_left
            · (intro w hSw; (try dsimp only at hSw); go_simp; try with_reducible rfl)
            try simp only [Act.put, List.setIfInBounds_toArray, List.set_cons_zero, List.set_cons_succ]
            refine wpAnyH_take (i := 1) (oi := _) (v := ?_) rfl (by kernel_rfl) (by kernel_rfl) (by kernel_rfl) (fun _ _ _ h => h) (Or.inl ⟨by rfl, ?_⟩) (by assumption) ?_
            rotate_left
            · (intro w hSw; (try dsimp only at hSw); go_simp; try with_reducible rfl)
            try simp only [Act.put, List.setIfInBounds_toArray, List.set_cons_zero, List.set_cons_succ]
            refine wpAnyH_take (i := 2) (oi := _) (v := ?_) rfl (by kernel_rfl) (by kernel_rfl) (by kernel_rfl) (fun _ _ _ h => h) (Or.inl ⟨by rfl, ?_⟩) (by assumption) ?_
            rotate_left
            · (intro w hSw; (try dsimp only at hSw); go_simp; try with_reducible rfl)
            try simp only [Act.put, List.setIfInBounds_toArray, List.set_cons_zero, List.set_cons_succ]
            refine wpAnyH_take (i := 3) (oi := _) (v := ?_) rfl (by kernel_rfl) (by kernel_rfl) (by kernel_rfl) (fun _ _ _ h => h) (Or.inl ⟨by rfl, ?_⟩) (by assumption) ?_
            rotate_left
            · (intro w hSw; (try dsimp only at hSw); go_simp; try with_reducible rfl)
            try simp only [Act.put, List.setIfInBounds_toArray, List.set_cons_zero, List.set_cons_succ]
            refine wpAnyH_take (i := 4) (oi := _) (v := ?_) rfl (by kernel_rfl) (by kernel_rfl) (by kernel_rfl) (fun _ _ _ h => h) (Or.inl ⟨by rfl, ?_⟩) (by assumption) ?_
            rotate_left
            · (intro w hSw; (try dsimp only at hSw); go_simp; try with_reducible rfl)
            try simp only [Act.put, List.setIfInBounds_toArray, List.set_cons_zero, List.set_cons_succ]
            refine wpAnyH_take (i := 6) (oi := _) (v := ?_) rfl (by kernel_rfl) (by kernel_rfl) (by kernel_rfl) (fun _ _ _ h => h) (Or.inl ⟨by rfl, ?_⟩) (by assumption) ?_
            rotate_left
            · (intro w hSw; (try dsimp only at hSw); go_simp; try with_reducible rfl)
            try simp only [Act.put, List.setIfInBounds_toArray, List.set_cons_zero, List.set_cons_succ]
            refine wpAnyH_take (i := 7) (oi := _) (v := ?_) rfl (by kernel_rfl) (by kernel_rfl) (by kernel_rfl) (fun _ _ _ h => h) (Or.inl ⟨by rfl, ?_⟩) (by assumption) ?_
            rotate_left
            · (intro w hSw; (try dsimp only at hSw); go_simp; try with_reducible rfl)
            try simp only [Act.put, List.setIfInBounds_toArray, List.set_cons_zero, List.set_cons_succ]
            refine wpAnyH_take (i := 8) (oi := _) (v := ?_) rfl (by kernel_rfl) (by kernel_rfl) (by kernel_rfl) (fun _ _ _ h => h) (Or.inl ⟨by rfl, ?_⟩) (by assumption) ?_
            rotate_left
            · (intro w hSw; (try dsimp only at hSw); go_simp; try with_reducible rfl)
            try simp only [Act.put, List.setIfInBounds_toArray, List.set_cons_zero, List.set_cons_succ]
            refine wpAnyH_take (i := 9) (oi := _) (v := ?_) rfl (by kernel_rfl) (by kernel_rfl) (by kernel_rfl) (fun _ _ _ h => h) (Or.inl ⟨by rfl, ?_⟩) (by assumption) ?_
            rotate_left
            · (intro w hSw; (try dsimp only at hSw); go_simp; try with_reducible rfl)
            try simp only [Act.put, List.setIfInBounds_toArray, List.set_cons_zero, List.set_cons_succ]
            refine wpAnyH_take (i := 10) (oi := _) (v := ?_) rfl (by kernel_rfl) (by kernel_rfl) (by kernel_rfl) (fun _ _ _ h => h) (Or.inl ⟨by rfl, ?_⟩) (by assumption) ?_
            rotate_left
            · (intro w hSw; (try dsimp only at hSw); go_simp; try with_reducible rfl)
            try simp only [Act.put, List.setIfInBounds_toArray, List.set_cons_zero, List.set_cons_succ]
            refine wpAnyH_take (i := 11) (oi := _) (v := ?_) rfl (by kernel_rfl) (by kernel_rfl) (by kernel_rfl) (fun _ _ _ h => h) (Or.inl ⟨by rfl, ?_⟩) (by assumption) ?_
            rotate_left
            · (intro w hSw; (try dsimp only at hSw); go_simp; try with_reducible rfl)
            try simp only [Act.put, List.setIfInBounds_toArray, List.set_cons_zero, List.set_cons_succ]
            refine wpAnyH_take (i := 12) (oi := _) (v := ?_) rfl (by kernel_rfl) (by kernel_rfl) (by kernel_rfl) (fun _ _ _ h => h) (Or.inl ⟨by rfl, ?_⟩) (by assumption) ?_
            rotate_left
            · (intro w hSw; (try dsimp only at hSw); go_simp; try with_reducible rfl)
            try simp only [Act.put, List.setIfInBounds_toArray, List.set_cons_zero, List.set_cons_succ]
            refine wpAnyH_take (i := 13) (oi := _) (v := ?_) rfl (by kernel_rfl) (by kernel_rfl) (by kernel_rfl) (fun _ _ _ h => h) (Or.inl ⟨by rfl, ?_⟩) (by assumption) ?_
            rotate_left
            · (intro w hSw; (try dsimp only at hSw); go_simp; try with_reducible rfl)
            try simp only [Act.put, List.setIfInBounds_toArray, List.set_cons_zero, List.set_cons_succ]
            refine wpAnyH_take (i := 14) (oi := _) (v := ?_) rfl (by kernel_rfl) (by kernel_rfl) (by kernel_rfl) (fun _ _ _ h => h) (Or.inl ⟨by rfl, ?_⟩) (by assumption) ?_
            rotate_left
            · (intro w hSw; (try dsimp only at hSw); go_simp; try with_reducible rfl)
            try simp only [Act.put, List.setIfInBounds_toArray, List.set_cons_zero, List.set_cons_succ]
            refine wpAnyH_take (i := 15) (oi := _) (v := ?_) rfl (by kernel_rfl) (by kernel_rfl) (by kernel_rfl) (fun _ _ _ h => h) (Or.inl ⟨by rfl, ?_⟩) (by assumption) ?_
            rotate_left
            · (intro w hSw; (try dsimp only at hSw); go_simp; try with_reducible rfl)
            try simp only [Act.put, List.setIfInBounds_toArray, List.set_cons_zero, List.set_cons_succ]
            refine wpAnyH_take (i := 16) (oi := _) (v := ?_) rfl (by kernel_rfl) (by kernel_rfl) (by kernel_rfl) (fun _ _ _ h => h) (Or.inl ⟨by rfl, ?_⟩) (by assumption) ?_
            rotate_left
            · (intro w hSw; (try dsimp only at hSw); go_simp; try with_reducible rfl)
            try simp only [Act.put, List.setIfInBounds_toArray, List.set_cons_zero, List.set_cons_succ]
            refine wpAnyH_take (i := 17) (oi := _) (v := ?_) rfl (by kernel_rfl) (by kernel_rfl) (by kernel_rfl) (fun _ _ _ h => h) (Or.inl ⟨by rfl, ?_⟩) (by assumption) ?_
            rotate_left
            · (intro w hSw; (try dsimp only at hSw); go_simp; try with_reducible rfl)
            try simp only [Act.put, List.setIfInBounds_toArray, List.set_cons_zero, List.set_cons_succ]
            refine wpAnyH_take (i := 18) (oi := _) (v := ?_) rfl (by kernel_rfl) (by kernel_rfl) (by kernel_rfl) (fun _ _ _ h => h) (Or.inl ⟨by rfl, ?_⟩) (by assumption) ?_
            rotate_left
            · (intro w hSw; (try dsimp only at hSw); go_simp; try with_reducible rfl)
            try simp only [Act.put, List.setIfInBounds_toArray, List.set_cons_zero, List.set_cons_succ]
            refine wpAnyH_take (i := 19) (oi := _) (v := ?_) rfl (by kernel_rfl) (by kernel_rfl) (by kernel_rfl) (fun _ _ _ h => h) (Or.inl ⟨by rfl, ?_⟩) (by assumption) ?_
            rotate_left
            · (intro w hSw; (try dsimp only at hSw); go_simp; try with_reducible rfl)
            try simp only [Act.put, List.setIfInBounds_toArray, List.set_cons_zero, List.set_cons_succ]
            refine wpAnyH_take (i := 20) (oi := _) (v := ?_) rfl (by kernel_rfl) (by kernel_rfl) (by kernel_rfl) (fun _ _ _ h => h) (Or.inl ⟨by rfl, ?_⟩) (by assumption) ?_
            rotate_left
            · (intro w hSw; (try dsimp only at hSw); go_simp; try with_reducible rfl)
            try simp only [Act.put, List.setIfInBounds_toArray, List.set_cons_zero, List.set_cons_succ]
            refine wpAnyH_take (i := 21) (oi := _) (v := ?_) rfl (by kernel_rfl) (by kernel_rfl) (by kernel_rfl) (fun _ _ _ h => h) (Or.inl ⟨by rfl, ?_⟩) (by assumption) ?_
            rotate_left
            · (intro w hSw; (try dsimp only at hSw); go_simp; try with_reducible rfl)
            try simp only [Act.put, List.setIfInBounds_toArray, List.set_cons_zero, List.set_cons_succ]
            refine wpAnyH_take (i := 22) (oi := _) (v := ?_) rfl (by kernel_rfl) (by kernel_rfl) (by kernel_rfl) (fun _ _ _ h => h) (Or.inl ⟨by rfl, ?_⟩) (by assumption) ?_
            rotate_left
            · (intro w hSw; (try dsimp only at hSw); go_simp; try with_reducible rfl)
            try simp only [Act.put, List.setIfInBounds_toArray, List.set_cons_zero, List.set_cons_succ]
            refine wpAnyH_take (i := 23) (oi := _) (v := ?_) rfl (by kernel_rfl) (by kernel_rfl) (by kernel_rfl) (fun _ _ _ h => h) (Or.inl ⟨by rfl, ?_⟩) (by assumption) ?_
            rotate_left
            · (intro w hSw; (try dsimp only at hSw); go_simp; try with_reducible rfl)
            try simp only [Act.put, List.setIfInBounds_toArray, List.set_cons_zero, List.set_cons_succ]
            refine wpAnyH_take (i := 24) (oi := _) (v := ?_) rfl (by kernel_rfl) (by kernel_rfl) (by kernel_rfl) (fun _ _ _ h => h) (Or.inl ⟨by rfl, ?_⟩) (by assumption) ?_
            rotate_left
            · (intro w hSw; (try dsimp only at hSw); go_simp; try with_reducible rfl)
            try simp only [Act.put, List.setIfInBounds_toArray, List.set_cons_zero, List.set_cons_succ]
            refine wpAnyH_take (i := 25) (oi := _) (v := ?_) rfl (by kernel_rfl) (by kernel_rfl) (by kernel_rfl) (fun _ _ _ h => h) (Or.inl ⟨by rfl, ?_⟩) (by assumption) ?_
            rotate_left
            · (intro w hSw; (try dsimp only at hSw); go_simp; try with_reducible rfl)
            try simp only [Act.put, List.setIfInBounds_toArray, List.set_cons_zero, List.set_cons_succ]
            refine wpAnyH_take (i := 26) (oi := _) (v := ?_) rfl (by kernel_rfl) (by kernel_rfl) (by kernel_rfl) (fun _ _ _ h => h) (Or.inl ⟨by rfl, ?_⟩) (by assumption) ?_
            rotate_left
            · (intro w hSw; (try dsimp only at hSw); go_simp; try with_reducible rfl)
            try simp only [Act.put, List.setIfInBounds_toArray, List.set_cons_zero, List.set_cons_succ]
            refine wpAnyH_take (i := 27) (oi := _) (v := ?_) rfl (by kernel_rfl) (by kernel_rfl) (by kernel_rfl) (fun _ _ _ h => h) (Or.inl ⟨by rfl, ?_⟩) (by assumption) ?_
            rotate_left
            · (intro w hSw; (try dsimp only at hSw); go_simp; try with_reducible rfl)
            try simp only [Act.put, List.setIfInBounds_toArray, List.set_cons_zero, List.set_cons_succ]
            refine wpAnyH_take (i := 28) (oi := _) (v := ?_) rfl (by kernel_rfl) (by kernel_rfl) (by kernel_rfl) (fun _ _ _ h => h) (Or.inl ⟨by rfl, ?_⟩) (by assumption) ?_
            rotate_left
            · (intro w hSw; (try dsimp only at hSw); go_simp; try with_reducible rfl)
            try simp only [Act.put, List.setIfInBounds_toArray, List.set_cons_zero, List.set_cons_succ]
            refine wpAnyH_take (i := 29) (oi := _) (v := ?_) rfl (by kernel_rfl) (by kernel_rfl) (by kernel_rfl) (fun _ _ _ h => h) (Or.inl ⟨by rfl, ?_⟩) (by assumption) ?_
            rotate_left
            · (intro w hSw; (try dsimp only at hSw); go_simp; try with_reducible rfl)
            try simp only [Act.put, List.setIfInBounds_toArray, List.set_cons_zero, List.set_cons_succ]
            refine wpAnyH_take (i := 30) (oi := _) (v := ?_) rfl (by kernel_rfl) (by kernel_rfl) (by kernel_rfl) (fun _ _ _ h => h) (Or.inl ⟨by rfl, ?_⟩) (by assumption) ?_
            rotate_left
            · (intro w hSw; (try dsimp only at hSw); go_simp; try with_reducible rfl)
            try simp only [Act.put, List.setIfInBounds_toArray, List.set_cons_zero, List.set_cons_succ]
            refine wpAnyH_ready (rs := [5, 31]) (by kernel_rfl) (by simp) ?_
            refine AllReadyH.cons (o := _) rfl (fun K hK => ?_) (AllReadyH.cons (o := _) rfl (fun K hK => ?_) AllReadyH.nil)
            · go_simp
              refine hK.out _ _ (by (try dsimp only); (first | (with_reducible exact sd0) | (with_reducible exact sd1 _) | (with_reducible exact sd2 _) | (with_reducible exact sd3) | (with_reducible exact sd4) | fail)) (fun hHeld => ?_)
              clear hK K
              try simp only [Act.put, List.setIfInBounds_toArray, List.set_cons_zero, List.set_cons_succ]
              refine wpAnyH_ready (rs := [31]) (by kernel_rfl) (by simp) ?_
              refine AllReadyH.cons (o := _) rfl (fun K hK => ?_) AllReadyH.nil
              go_simp
              refine hK.out _ _ (by (try dsimp only); (first | (with_reducible exact sd0) | (with_reducible exact sd1 _) | (with_reducible exact sd2 _) | (with_reducible exact sd3) | (with_reducible exact sd4) | fail)) (fun hHeld => ?_)
              clear hK K
              try simp only [Act.put, List.setIfInBounds_toArray, List.set_cons_zero, List.set_cons_succ]
              refine wpAnyH_ready (rs := [32]) (by kernel_rfl) (by simp) ?_
              refine AllReadyH.cons (o := _) rfl (fun K hK => ?_) AllReadyH.nil
              (first | (refine step_append_at rfl (.tmp 39) (.tmp 65) 47 rfl (W.heap.size + 1) 55 i0 (.agg #[.int .i64 0, .int .i64 0, .int .i64 0, .int .i64 0]) 4 32 Try.underlying47 hi hz0 hz1 hz2 rfl H6.out (.slice s0 ln m0) ln xs0 rfl (HOW.out _) ⟨wc.heap.size, 0, none⟩ 1 1 [.int .i64 (k : Int), .int .i64 (t : Int), .int .i64 dd, .int .i64 rr] rfl rfl H4.out HO1.out HM.out.1 HM.out.2 HZ.out ?_; intro v' w2 hown hgrow hat; obtain ⟨s6, m6, rfl⟩ := own4_slice hown; obtain ⟨p2, d1, d2, d3, d4⟩ := HG.out _ _ _ hown hgrow hat; have P2 := Lib.hid p2; have sd3 := HSS.out _ d4 d3 ⟨_, d1⟩; have sd4 := HSS.out _ P2.out.be P2.out.bx (st_cell P2.out (HK2.out _)); clear p2 hown hgrow hat d3 d4; go_wp2_with fail) | fail)
              refine hK.out _ _ (by (try dsimp only); (first | (with_reducible exact sd0) | (with_reducible exact sd1 _) | (with_reducible exact sd2 _) | (with_reducible exact sd3) | (with_reducible exact sd4) | fail)) (fun hHeld => ?_)
              clear hK K
              try simp only [Act.put, List.setIfInBounds_toArray, List.set_cons_zero, List.set_cons_succ]
              refine wpAnyH_take (i := 33) (oi := _) (v := ?_) rfl (by kernel_rfl) (by kernel_rfl) (by kernel_rfl) (fun _ _ _ h => h) (Or.inl ⟨by rfl, ?_⟩) (by assumption) ?_
              rotate_left
              · (intro w hSw; (try dsimp only at hSw); go_simp; try with_reducible rfl)
              try simp only [Act.put, List.setIfInBounds_toArray, List.set_cons_zero, List.set_cons_succ]
              refine wpAnyH_ready (rs := [34]) (by kernel_rfl) (by simp) ?_
              refine AllReadyH.cons (o := _) rfl (fun K hK => ?_) AllReadyH.nil
              go_simp
              refine hK.out _ _ (by (try dsimp only); (first | (with_reducible exact sd0) | (with_reducible exact sd1 _) | (with_reducible exact sd2 _) | (with_reducible exact sd3) | (with_reducible exact sd4) | fail)) (fun hHeld => ?_)
              clear hK K
              try simp only [Act.put, List.setIfInBounds_toArray, List.set_cons_zero, List.set_cons_succ]
              refine wpAnyH_done (by kernel_rfl) ?_ _
              have hj9 := HJQ.out
              have hq9 := HQ9.out
              go_wp2_with fail
              go_roundw
              case rel => exact ⟨j + 1, _, HJQ.out, by go_num, by rw [List.length_set]; exact hvl.out, P2.out⟩
              case measure => simp [intOf]; omega
            · go_simp
              refine hK.out _ _ (by (try dsimp only); (first | (with_reducible exact sd0) | (with_reducible exact sd1 _) | (with_reducible exact sd2 _) | (with_reducible exact sd3) | (with_reducible exact sd4) | fail)) (fun hHeld => ?_)
              clear hK K
              try simp only [Act.put, List.setIfInBounds_toArray, List.set_cons_zero, List.set_cons_succ]
              refine wpAnyH_ready (rs := [5]) (by kernel_rfl) (by simp) ?_
              refine AllReadyH.cons (o := _) rfl (fun K hK => ?_) AllReadyH.nil
              go_simp
              refine hK.out _ _ (by (try dsimp only); (first | (with_reducible exact sd0) | (with_reducible exact sd1 _) | (with_reducible exact sd2 _) | (with_reducible exact sd3) | (with_reducible exact sd4) | fail)) (fun hHeld => ?_)
              clear hK K
              try simp only [Act.put, List.setIfInBounds_toArray, List.set_cons_zero, List.set_cons_succ]
              refine wpAnyH_ready (rs := [32]) (by kernel_rfl) (by simp) ?_
              refine AllReadyH.cons (o := _) rfl (fun K hK => ?_) AllReadyH.nil
              (first | (refine step_append_at rfl (.tmp 39) (.tmp 65) 47 rfl (W.heap.size + 1) 55 i0 (.agg #[.int .i64 0, .int .i64 0, .int .i64 0, .int .i64 0]) 4 32 Try.underlying47 hi hz0 hz1 hz2 rfl H6.out (.slice s0 ln m0) ln xs0 rfl (HOW.out _) ⟨wc.heap.size, 0, none⟩ 1 1 [.int .i64 (k : Int), .int .i64 (t : Int), .int .i64 dd, .int .i64 rr] rfl rfl H4.out HO1.out HM.out.1 HM.out.2 HZ.out ?_; intro v' w2 hown hgrow hat; obtain ⟨s6, m6, rfl⟩ := own4_slice hown; obtain ⟨p2, d1, d2, d3, d4⟩ := HG.out _ _ _ hown hgrow hat; have P2 := Lib.hid p2; have sd3 := HSS.out _ d4 d3 ⟨_, d1⟩; have sd4 := HSS.out _ P2.out.be P2.out.bx (st_cell P2.out (HK2.out _)); clear p2 hown hgrow hat d3 d4; go_wp2_with fail) | fail)
              refine hK.out _ _ (by (try dsimp only); (first | (with_reducible exact sd0) | (with_reducible exact sd1 _) | (with_reducible exact sd2 _) | (with_reducible exact sd3) | (with_reducible exact sd4) | fail)) (fun hHeld => ?_)
              clear hK K
              try simp only [Act.put, List.setIfInBounds_toArray, List.set_cons_zero, List.set_cons_succ]
              refine wpAnyH_take (i := 33) (oi := _) (v := ?_) rfl (by kernel_rfl) (by kernel_rfl) (by kernel_rfl) (fun _ _ _ h => h) (Or.inl ⟨by rfl, ?_⟩) (by assumption) ?_
              rotate_left
              · (intro w hSw; (try dsimp only at hSw); go_simp; try with_reducible rfl)
              try simp only [Act.put, List.setIfInBounds_toArray, List.set_cons_zero, List.set_cons_succ]
              refine wpAnyH_ready (rs := [34]) (by kernel_rfl) (by simp) ?_
              refine AllReadyH.cons (o := _) rfl (fun K hK => ?_) AllReadyH.nil
              go_simp
              refine hK.out _ _ (by (try dsimp only); (first | (with_reducible exact sd0) | (with_reducible exact sd1 _) | (with_reducible exact sd2 _) | (with_reducible exact sd3) | (with_reducible exact sd4) | fail)) (fun hHeld => ?_)
              clear hK K
              try simp only [Act.put, List.setIfInBounds_toArray, List.set_cons_zero, List.set_cons_succ]
              refine wpAnyH_done (by kernel_rfl) ?_ _
              have hj9 := HJQ.out
              have hq9 := HQ9.out
              go_wp2_with fail
              go_roundw
              case rel => exact ⟨j + 1, _, HJQ.out, by go_num, by rw [List.length_set]; exact hvl.out, P2.out⟩
              case measure => simp [intOf]; omega
          · obtain rfl : j = q := by omega
            have hn2 := HN2.out
            go_wp2_with fail
            go_roundw
            case rel => exact ⟨k + 1, vs2, by omega, by go_num, by have h := lsIn_next cs k; rw [HQ.out] at h; rw [← h]; exact hS.out.ls, hS.out.be⟩
            case measure => simp [intOf]; omega
    · obtain rfl : k = n := by omega
      have ks := KS W.heap.size (W.heap.size + 1) k k vs (lsIn cs k 0) w0 hL.out (by rw [hL.out.len, lsIn_len]; exact HN.out) HN2.out (by rw [HN.out, lsIn_all]; have := allS_len HOK.out cs.length (Nat.le_refl _); have := HOK.out.1; omega) (fun s hs => by rw [HN.out, lsIn_all] at hs; exact allS_ok HOK.out (Nat.le_refl _) s hs)
      have HFL := Lib.hid (show (lsIn cs k 0).flatten = allS cs cs.length by rw [HN.out, lsIn_all])
      go_wp2_with (first | (go_at_call 28; (with_reducible refine ks.mono ?_); rintro e w2 ⟨v, S, rfl, ho, hp, hsrt, hb⟩; have HO := Lib.hid ho; have HPP := Lib.hid hp; have HSR := Lib.hid hsrt; have B2 := Lib.hid hb; clear ho hp hsrt hb) | fail)
      go_ret
      exact ⟨v, S, rfl, own4_base HO.out (by have := hB.out.size; omega), isS_of HOK.out (by rw [← HFL.out]; exact HPP.out) HSR.out, hB.out.trans (B2.out.mono hB.out.size)⟩
end Go.Proofs.Ytkohdiajpdlkjaa
