/-
  Layer 21: a list of lists of steps in memory; contract of the library's Concat over it.
-/
import Derived.Test.YtkohdiajpdlkjaaAd
import Derived.Laws.AppendOwnNone
set_option maxRecDepth 100000
namespace Go.Proofs.Ytkohdiajpdlkjaa
open Go.RowKit

/-- A block of slices, each of them a row of the call's own, apart from each other. -/
structure Ls (wr : World) (G B : Nat) (vs : List Value) (ls : List (List Stp)) : Prop where
  blk : Blk wr G 47 vs.toArray
  len : vs.length = ls.length
  own : ∀ i, i < vs.length → wr.ownsRow B 55 4 (vs.getD i undef) (ls.getD i []).length (flatE encA (ls.getD i []))
  gB : G < B
  dis : ∀ i j k, i < vs.length → j < vs.length → i ≠ j → (vs.getD i undef).ownBlock = some k → (vs.getD j undef).ownBlock = some k → False
theorem own4_below {w w1 : World} {B base n : Nat} {e : TypeId} {size : Nat} {v : Value} {xs : List Value} (h : w.ownsRow base e size v n xs) (hb : Below B w w1) (hB : w.heap.size ≤ B) : w1.ownsRow base e size v n xs := by
  refine ⟨h.1, ?_⟩
  rcases h.2 with hn | ⟨g, cap, cur, rfl, hb', hgg, rest⟩
  · exact .inl hn
  · have := (Array.getElem?_eq_some_iff.1 hgg).1
    exact .inr ⟨g, cap, cur, rfl, hb', (hb.block g (by omega)).trans hgg, rest⟩
theorem own4_lt {w : World} {base n : Nat} {e : TypeId} {size : Nat} {v : Value} {xs : List Value} (h : w.ownsRow base e size v n xs) (k : Nat) (hk : v.ownBlock = some k) : base ≤ k ∧ k < w.heap.size := by
  rcases h.2 with ⟨rfl, _⟩ | ⟨g, cap, cur, rfl, hb, hg, _⟩
  · simp [Value.ownBlock] at hk
  · have : g = k := by simpa [Value.ownBlock] using hk
    subst this
    exact ⟨hb, (Array.getElem?_eq_some_iff.1 hg).1⟩
/-- Another block than the row's grows. -/
theorem own4_grown {w w1 : World} {base n : Nat} {e : TypeId} {size : Nat} {v : Value} {xs : List Value} {row : Option Nat} (h : w.ownsRow base e size v n xs) (hg : w.grownBy w1 row) (hr : ∀ k, v.ownBlock = some k → row ≠ some k) : w1.ownsRow base e size v n xs := by
  refine ⟨h.1, ?_⟩
  rcases h.2 with hn | ⟨g, cap, cur, rfl, hb', hgg, rest⟩
  · exact .inl hn
  · have := (Array.getElem?_eq_some_iff.1 hgg).1
    exact .inr ⟨g, cap, cur, rfl, hb', (hg.block g this (fun e => hr g rfl e.symm)).trans hgg, rest⟩
theorem own4_far {w : World} {base n : Nat} {e : TypeId} {size : Nat} {v : Value} {xs : List Value} (h : w.ownsRow base e size v n xs) (p : Addr) (u : Value) (hp : v.ownBlock ≠ some p.block) : (w.setCell p u).ownsRow base e size v n xs := by
  refine ⟨h.1, ?_⟩
  rcases h.2 with hn | ⟨g, cap, cur, rfl, hb', hgg, rest⟩
  · exact .inl hn
  · refine .inr ⟨g, cap, cur, rfl, hb', ?_, rest⟩
    exact (Below.heap_setCell w p u g (fun e => hp (by simp [Value.ownBlock, e]))).trans hgg
section
variable {wr w1 : World} {G B : Nat} {vs : List Value} {ls : List (List Stp)}
theorem Ls.call (h : Ls wr G B vs ls) (hb : Below wr.heap.size wr w1) : Ls w1 G B vs ls := ⟨h.blk.below hb, h.len, fun i hi => own4_below (h.own i hi) hb (Nat.le_refl _), h.gB, h.dis⟩
theorem Ls.cell (h : Ls wr G B vs ls) {i : Nat} (hi : i < vs.length) : wr.cell? ⟨G, i, none⟩ = some (vs.getD i undef) := by
  rw [h.blk.cell i, List.getD_eq_getElem?_getD]
  simp [hi]
theorem getD_set' {α : Type} (l : List α) (i j : Nat) (u d : α) : (l.set i u).getD j d = if i = j ∧ i < l.length then u else l.getD j d := by
  simp only [List.getD_eq_getElem?_getD, List.getElem?_set]
  by_cases h : i = j
  · subst h
    by_cases h2 : i < l.length
    · simp [h2]
    · rw [if_pos rfl, if_neg h2, if_neg (fun q => h2 q.2)]
      rw [List.getElem?_eq_none (by omega)]
  · rw [if_neg h, if_neg (fun q => h q.1)]
/-- One of the lists takes a step more. -/
theorem Ls.push (h : Ls wr G B vs ls) {i : Nat} (hi : i < vs.length) {row : Option Nat} (hr : row = (vs.getD i undef).ownBlock) (hg : wr.grownBy w1 row) {v' : Value} (s : Stp) (hown : w1.ownsRow B 55 4 v' ((ls.getD i []).length + 1) (flatE encA (ls.getD i []) ++ encA s)) (hat : v'.ownBlock = row ∨ ∃ k, v'.ownBlock = some k ∧ wr.heap.size ≤ k) :
    Ls (w1.setCell ⟨G, i, none⟩ v') G B (vs.set i v') (ls.set i ((ls.getD i []) ++ [s])) := by
  have hil : i < ls.length := by rw [← h.len]; exact hi
  have hGr : some G ≠ row := by
    intro e
    rw [hr] at e
    have := (own4_lt (h.own i hi) G e.symm).1
    have := h.gB
    omega
  have hv' : v'.ownBlock ≠ some G := by
    intro e
    have := (own4_lt hown G e).1
    have := h.gB
    omega
  have fresh : ∀ j, j < vs.length → i ≠ j → ∀ k, v'.ownBlock = some k → (vs.getD j undef).ownBlock = some k → False := by
    intro j hj hij k h1 h2
    rcases hat with e | ⟨k', e, hk'⟩
    · rw [e, hr] at h1
      exact h.dis i j k hi hj hij h1 h2
    · rw [e] at h1
      injection h1 with h1
      have := (own4_lt (h.own j hj) k h2).2
      omega
  refine ⟨?_, by simp [h.len], ?_, h.gB, ?_⟩
  · have := (h.blk.grown hg hGr).set i v'
    rw [show vs.toArray.setIfInBounds i v' = (vs.set i v').toArray by simp] at this
    exact this
  · intro j hj
    rw [List.length_set] at hj
    rw [getD_set', getD_set']
    by_cases e : i = j
    · subst e
      rw [if_pos ⟨rfl, hi⟩, if_pos ⟨rfl, hil⟩, List.length_append, flatE_append]
      have := own4_far hown ⟨G, i, none⟩ v' hv'
      simpa [flatE] using this
    · rw [if_neg (fun q => e q.1), if_neg (fun q => e q.1)]
      refine own4_far (own4_grown (h.own j hj) hg (fun k hk e2 => ?_)) _ _ (fun e2 => ?_)
      · rw [hr] at e2
        exact h.dis i j k hi hj e e2 hk
      · have := (own4_lt (h.own j hj) G e2).1
        have := h.gB
        omega
  · intro a b k ha hb hab h1 h2
    rw [List.length_set] at ha hb
    rw [getD_set'] at h1 h2
    by_cases e : i = a
    · subst e
      rw [if_pos ⟨rfl, hi⟩] at h1
      rw [if_neg (fun q => hab q.1)] at h2
      exact fresh b hb hab k h1 h2
    · rw [if_neg (fun q => e q.1)] at h1
      by_cases e2 : i = b
      · subst e2
        rw [if_pos ⟨rfl, hi⟩] at h2
        exact fresh a ha (fun q => e q) k h2 h1
      · rw [if_neg (fun q => e2 q.1)] at h2
        exact h.dis a b k ha hb hab h1 h2
theorem Ls.made (w : World) (n B : Nat) (hB : w.heap.size < B) : Ls (w.alloc (.cells (List.replicate n (.slice none 0 0)).toArray 47)) w.heap.size B (List.replicate n (.slice none 0 0)) (List.replicate n []) := by
  have hv : ∀ i, i < n → (List.replicate n (Value.slice none 0 0)).getD i undef = .slice none 0 0 := fun i hi => by simp [List.getD_eq_getElem?_getD, hi]
  have hl : ∀ i, (List.replicate n ([] : List Stp)).getD i [] = [] := fun i => by
    rw [List.getD_eq_getElem?_getD]
    by_cases h : i < n
    · simp [h]
    · rw [List.getElem?_eq_none (by simpa using h)]; rfl
  refine ⟨Blk.new w _ _, by simp, fun i hi => ?_, hB, fun i j k hi hj _ h1 _ => ?_⟩
  · rw [hv i (by simpa using hi), hl i]
    exact World.ownsRow_nil _ _ _ _
  · rw [hv i (by simpa using hi)] at h1
    simp [Value.ownBlock] at h1
end
theorem flatE_one (l : List Stp) : ∀ u ∈ flatE encA l, u.oneCell' = true := by
  intro u hu
  simp only [flatE, List.mem_flatMap] at hu
  obtain ⟨s, _, hs⟩ := hu
  simp only [encA, List.mem_cons, List.not_mem_nil, or_false] at hs
  rcases hs with rfl | rfl | rfl | rfl <;> rfl
/-- The steps of the first k lists. -/
def flL (ls : List (List Stp)) (k : Nat) : List Stp := (ls.take k).flatten
theorem flL_succ (ls : List (List Stp)) (k : Nat) (h : k < ls.length) : flL ls (k + 1) = flL ls k ++ ls.getD k [] := by
  unfold flL
  rw [List.take_succ_eq_append_getElem h, List.flatten_append, List.getD_eq_getElem?_getD, List.getElem?_eq_getElem h]
  simp
theorem flL_le (ls : List (List Stp)) (k : Nat) : (flL ls k).length ≤ ls.flatten.length := by
  unfold flL
  have : ls.flatten = (ls.take k).flatten ++ (ls.drop k).flatten := by rw [← List.flatten_append, List.take_append_drop]
  rw [this, List.length_append]
  omega
theorem flL_all (ls : List (List Stp)) : flL ls ls.length = ls.flatten := by unfold flL; rw [List.take_length]
theorem ls_forms {wr : World} {G B : Nat} {vs : List Value} {ls : List (List Stp)} (h : Ls wr G B vs ls) {k : Nat} (hk : k < vs.length) :
    (vs.getD k undef = .slice none 0 0 ∧ ls.getD k [] = []) ∨ ∃ g c, vs.getD k undef = .slice (some ⟨g, 0, none⟩) (ls.getD k []).length c ∧ ∀ j u, (flatE encA (ls.getD k []))[j]? = some u → wr.cell? ((⟨g, 0, none⟩ : Addr).add j) = some u := by
  have ho := h.own k hk
  rcases ho.2 with ⟨e, h0⟩ | ⟨g, cap, cur, e, _⟩
  · exact .inl ⟨e, List.length_eq_zero_iff.1 h0⟩
  · rw [e] at ho
    exact .inr ⟨g, cap, e, ho.cells (g := g) rfl⟩
set_option maxHeartbeats 4000000 in
theorem concat_c (G B m n : Nat) (vs : List Value) (ls : List (List Stp)) (W : World) (hL : Ls W G B vs ls) (hn : n = vs.length) (hn2 : n ≤ 100000000) (ht : ls.flatten.length ≤ 100000000) :
    Calls Try.prog 37 #[.slice (some ⟨G, 0, none⟩) n m] W fun e w' => ∃ v, e = .returned v ∧ w'.ownsRow W.heap.size 55 4 v ls.flatten.length (flatE encA ls.flatten) ∧ Below W.heap.size W w' := by
  have HL := Lib.hid hL
  have HT := Lib.hid ht
  have HN := Lib.hid hn
  have hlen : n = ls.length := hn.trans hL.len
  have HLEN := Lib.hid hlen
  obtain ⟨i0, hi, hz0, hz1, hz2⟩ := info_parts infoS
  clear hL ht hn hlen
  go_enter Try.func37, Try.ntmps37
  go_wp2_with fail
  go_loopw [3, 11] (fun z i wr => ∃ k : Nat, k ≤ n ∧ i = .int .i64 (k : Int) ∧ z = .int .i64 ((flL ls k).length : Int) ∧ Hid (wr = W)) (fun _ i _ => n - (intOf i).toNat)
  case atStart => exact ⟨0, Nat.zero_le _, rfl, rfl, rfl⟩
  case round =>
    obtain ⟨k, hk, rfl, rfl, hw⟩ := hrel
    have hw2 := hw.out
    subst hw2
    clear hw
    by_cases hlt : k < n
    · have hc := HL.out.cell (show k < vs.length by have := HN.out; omega)
      have hs := flL_succ ls k (by have := HLEN.out; omega)
      have hle := flL_le ls (k + 1)
      have e1 : (flL ls (k + 1)).length = (flL ls k).length + (ls.getD k []).length := by rw [hs, List.length_append]
      obtain ⟨z1, hz1'⟩ : ∃ z1, z1 = (flL ls (k + 1)).length := ⟨_, rfl⟩
      have HZ1 := Lib.hid hz1'
      have hi2 : (k : Int) < (n : Int) := by omega
      rcases ls_forms HL.out (show k < vs.length by have := HN.out; omega) with ⟨hf, h0⟩ | ⟨g, c, hf, -⟩
      · rw [hf] at hc
        have e2 : (flL ls k).length = z1 := by rw [hz1', e1, h0]; simp
        have w1 : IntKind.i64.wrap (z1 : Int) = (z1 : Int) := by have := HT.out; rw [IntWalk.i64_left]; unfold wrap64; omega
        rw [e2]
        have zn : ¬ ((z1 : Int) < 0) := by omega
        clear hs hle e1 hz1' hf h0 e2
        go_wp2_with fail
        go_roundw
        case rel => exact ⟨k + 1, by omega, by go_num, by rw [← HZ1.out], (by first | exact Lib.hid rfl | exact Lib.hid trivial)⟩
        case measure => simp [intOf]; omega
      · rw [hf] at hc
        generalize (ls.getD k []).length = q at *
        generalize (flL ls k).length = z0 at *
        have w1 : IntKind.i64.wrap ((z0 : Int) + (q : Int)) = (z1 : Int) := by have := HT.out; rw [IntWalk.i64_left]; unfold wrap64; omega
        have zn : ¬ ((z1 : Int) < 0) := by omega
        clear hs hle e1 hz1' hf
        go_wp2_with fail
        go_roundw
        case rel => exact ⟨k + 1, by omega, by go_num, by rw [← HZ1.out], (by first | exact Lib.hid rfl | exact Lib.hid trivial)⟩
        case measure => simp [intOf]; omega
    · obtain rfl : k = n := by omega
      obtain ⟨w0, rfl⟩ : ∃ w0 : World, w0 = wr := ⟨_, rfl⟩
      have hz := flL_le ls k
      have kg := grow_n (flL ls k).length (by have := HT.out; omega) w0
      clear hz
      go_wp2_with (first | (go_at_call 43; (with_reducible refine kg.mono ?_); rintro e w2 ⟨v2, rfl, ho2, hb2⟩; have HO2 := Lib.hid ho2; have HB2 := Lib.hid hb2; clear ho2 hb2) | fail)
      clear kg
      go_loopw [6, 27] (fun z i wq => ∃ j : Nat, j ≤ k ∧ i = .int .i64 (j : Int) ∧ Hid (wq.ownsRow w0.heap.size 55 4 z (flL ls j).length (flatE encA (flL ls j))) ∧ Hid (Below w0.heap.size w0 wq)) (fun _ i _ => k - (intOf i).toNat)
      case atStart => exact ⟨0, Nat.zero_le _, rfl, HO2, HB2⟩
      case round =>
        obtain ⟨j, hj, rfl, hO, hB⟩ := hrel
        clear HO2 HB2
        by_cases hlt : j < k
        · have HLQ := Lib.hid (HL.out.call hB.out)
          have hjv : j < vs.length := by have := HN.out; omega
          have hc := HLQ.out.cell hjv
          have hs := flL_succ ls j (by have := HLEN.out; omega)
          have hle := flL_le ls (j + 1)
          have HS := Lib.hid hs
          have e1 : (flL ls (j + 1)).length = (flL ls j).length + (ls.getD j []).length := by rw [hs, List.length_append]
          have HE := Lib.hid e1
          have HLE := Lib.hid hle
          have hi2 : (j : Int) < (k : Int) := by omega
          rcases ls_forms HLQ.out hjv with ⟨hf, h0⟩ | ⟨g, c, hf, hcs⟩
          · rw [hf] at hc
            have H0 := Lib.hid h0
            clear hs hle e1 hf h0 hjv
            go_wp2_with (at_builtin; refine wpList_append_own_none rfl _ _ 47 rfl w0.heap.size 55 i0 4 Try.underlying47 hi _ _ _ rfl hO.out rfl ?_)
            go_wp2_with fail
            go_roundw
            case rel => exact ⟨j + 1, by omega, by go_num, by rw [HS.out, H0.out, List.append_nil]; exact hO, hB⟩
            case measure => simp [intOf]; omega
          · rw [hf] at hc
            have HCS := Lib.hid hcs
            clear hs hle e1 hf hcs hjv
            generalize hq : ls.getD j [] = q at *
            have HQ := Lib.hid hq
            clear hq
            go_wp2_with (first | (at_builtin; refine wpList_append_own _ rfl _ _ 47 rfl w0.heap.size 55 i0 (.agg #[.int .i64 0, .int .i64 0, .int .i64 0, .int .i64 0]) 4 32 Try.underlying47 hi hz0 hz1 hz2 rfl (by decide) _ _ _ rfl hO.out ⟨g, 0, none⟩ q.length c (flatE encA q) rfl (flatE_len q) HCS.out ?c2 ?c3 ?c4 ?c5 ?_))
            case c2 => exact flatE_one q
            case c3 => have := HE.out; have := HLE.out; have := HT.out; unfold maxLen; omega
            case c4 => have := HE.out; have := HLE.out; have := HT.out; omega
            case c5 => exact hB.out.size
            intro v' w8 hown8 hgrow8 _
            rw [← HE.out, ← flatE_append, ← HS.out] at hown8
            have HO8 := Lib.hid hown8
            have HB8 := Lib.hid (hB.out.grown hgrow8 hB.out.size (fun k hk => (own4_lt hO.out k hk).1))
            clear hown8 hgrow8
            go_wp2_with fail
            go_roundw
            case rel => exact ⟨j + 1, by omega, by go_num, HO8, HB8⟩
            case measure => simp [intOf]; omega
        · obtain rfl : j = k := by omega
          go_wp2_with fail
          go_ret
          have e := flL_all ls
          rw [← HLEN.out] at e
          exact ⟨_, rfl, by rw [← e]; exact hO.out, hB.out⟩
end Go.Proofs.Ytkohdiajpdlkjaa
