/-
  Layer 21: contract of sorted.
-/
import Derived.Test.YtkohdiajpdlkjaaAt
set_option maxRecDepth 100000
namespace Go.Proofs.Ytkohdiajpdlkjaa
open Go.RowKit Go.Shelf Go.Sort Go.Proofs

theorem entO : ∀ args w, (callFunc 29 args).run Try.prog w = .ok (.enter 29 args) w := enters_of Try.func29 (by kernel_rfl) rfl
theorem sortf_c (base : Nat) (v : Value) (L : List Stp) (w : World) (ho : w.ownsRow base 55 4 v L.length (flatE encA L)) (hl : L.length ≤ 100000000) (hok : ∀ s ∈ L, okS s) :
    Calls Try.prog 38 #[v, .func (.func 29) #[] #[]] w fun e w' => e = .returned (.tuple #[]) ∧ ∃ S : List Stp, w'.ownsRow base 55 4 v S.length (flatE encA S) ∧ S.Perm L ∧ (S.Pairwise fun s t => ¬ ltS t s) ∧ w.grownBy w' v.ownBlock := by
  obtain ⟨h1, h2⟩ := ho
  rcases h2 with ⟨rfl, h0⟩ | ⟨g, cap, cur, rfl, hb, hg, hn, hc, hs, ht⟩
  · have hL : L = [] := List.length_eq_zero_iff.1 h0
    subst hL
    refine (sortf0_c _ _ _ _).mono ?_
    rintro e w' ⟨rfl, rfl⟩
    exact ⟨rfl, [], ⟨h1, .inl ⟨rfl, rfl⟩⟩, List.Perm.refl _, List.Pairwise.nil, ⟨rfl, rfl, rfl, Nat.le_refl _, fun _ _ _ => rfl⟩⟩
  · obtain ⟨D, hD⟩ : ∃ D : List OS, D.map (·.1) = L := ⟨L.attachWith okS hok, by simp⟩
    subst hD
    rw [List.length_map] at *
    have hF := flatO D
    have hz : (flatK encO 4 D.toArray).size = D.length * 4 := by simp
    have hH : HoldsK encO 4 w g 0 D.toArray := holdsO _ hg (by rw [hz, hF]; exact ht)
    have K := AnyQ.slices_SortFunc sort_lays 4 Try.isAgg55 Try.sizeOf55 encO encO_len encO_one cfO swoO 29 #[] g 0 cap D.toArray w entO (cmpLaysO g 0 _ w) hH (Array.getElem?_eq_some_iff.1 hg).1 (by simp; omega)
    refine Calls.mono K ?_
    rintro e w' ⟨rfl, d', n, os, hp, hsrt, rfl⟩
    have hsz : d'.size = D.length := by rw [hp.1]; simp
    have hlen : (d'.toList.map (·.1)).length = D.length := by simp [hsz]
    have hz2 : (flatK encO 4 d').size = D.length * 4 := by rw [size_flatK, hsz]
    refine ⟨rfl, d'.toList.map (·.1), ⟨?_, ?_⟩, ?_, ?_, grownBy_sortedO _⟩
    · rw [flatE_len]
    · rw [hlen]
      refine .inr ⟨g, cap, _, rfl, hb, heap_sortedO _ hg, hn, hc, by simp [putCells, hs], ?_⟩
      have h := flatO d'.toList
      rw [Array.toArray_toList] at h
      rw [← h, ← hz2]
      exact take_putCellsO cur _ (by rw [hz2, hs]; exact Nat.mul_le_mul_right 4 hn)
    · have h := hp.2.2
      simp only [List.size_toArray] at h
      rw [show d'.extract 0 D.length = d' by rw [← hsz]; simp, show D.toArray.extract 0 D.length = D.toArray by simp] at h
      exact h.map _
    · rw [List.pairwise_iff_getElem]
      intro i j hi hj hij
      rw [List.length_map, Array.length_toList] at hi hj
      have h := hsrt i j (Nat.zero_le _) hij (by simpa [hsz] using hj)
      rw [getElem!_pos d' i hi, getElem!_pos d' j hj, ltO_not] at h
      simpa using h
theorem sorted_k (G B m n : Nat) (vs : List Value) (ls : List (List Stp)) (W : World) (hL : Ls W G B vs ls) (hn : n = vs.length) (hn2 : n ≤ 65536) (ht : ls.flatten.length ≤ 100000000) (hok : ∀ s ∈ ls.flatten, okS s) :
    Calls Try.prog 28 #[.slice (some ⟨G, 0, none⟩) n m, .func (.func 29) #[] #[]] W fun e w' => ∃ v S, e = .returned v ∧ w'.ownsRow W.heap.size 55 4 v S.length (flatE encA S) ∧ S.Perm ls.flatten ∧ (S.Pairwise fun s t => ¬ ltS t s) ∧ Below W.heap.size W w' := by
  have kc := concat_c G B m n vs ls W hL hn (by omega) ht
  have HT := Lib.hid ht
  have HOK := Lib.hid hok
  clear hL hn hn2 ht hok
  go_enter Try.func28, Try.ntmps28
  go_wp2_with (first | (go_at_call 37; (with_reducible refine kc.mono ?_); rintro e w1 ⟨v, rfl, ho, hb⟩; have HO := Lib.hid ho; have HB := Lib.hid hb; have ks := sortf_c _ v _ _ ho HT.out HOK.out; clear ho hb kc) | (go_at_call 38; (with_reducible refine ks.mono ?_); rintro e w2 ⟨rfl, S, ho2, hp, hs, hg⟩; have HO2 := Lib.hid ho2; have HP := Lib.hid hp; have HS := Lib.hid hs; have HG := Lib.hid hg; clear ho2 hp hs hg ks) | fail)
  go_ret
  exact ⟨v, S, rfl, HO2.out, HP.out, HS.out, HB.out.grown HG.out HB.out.size (fun k hk => (own4_lt HO.out k hk).1)⟩
end Go.Proofs.Ytkohdiajpdlkjaa
