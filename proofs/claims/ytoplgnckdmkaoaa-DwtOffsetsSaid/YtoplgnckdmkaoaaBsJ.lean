/-
  Layers 1 to 5, the base: Regs, PlnV, DcA, DcB of one piece.
-/
import Derived.Test.YtoplgnckdmkaoaaBsA
import Derived.Deep.QuietTactic
import Derived.StillTail
import Derived.Test.YtoplgnckdmkaoaaBsB
import Derived.Test.YtoplgnckdmkaoaaBsG
import Derived.Test.YtoplgnckdmkaoaaBsH
set_option maxRecDepth 100000
namespace Go.Proofs.Ytoplgnckdmkaoaa
open Go.RowKit

section
variable {P : Program} {ops : Array Oper} {md : Region.Mode} {C : World → Prop}

/-- What the walk in the order of the text shows: each operation's value, and the state behind all. -/
def Lex (P : Program) (ops : Array Oper) (C : World → Prop) : List Oper → Act → Act → Prop
  | [], a, b => b = a
  | o :: os, a, b => ∃ v, YieldsIn P ops C o v a ∧ Lex P ops C os (a.put o.dst v) b
theorem lex_of {Q : Act → Prop} : ∀ (os : List Oper) (a : Act), wpQuiet P ops C Q os a → ∃ b, Lex P ops C os a b ∧ Q b
  | [], a, h => ⟨a, rfl, h⟩
  | o :: os, a, h => by
    unfold wpQuiet at h
    by_cases hw : Region.wanted o (yielded ops a.tmps) = true
    · rw [if_pos hw] at h
      obtain ⟨v, h1, h2⟩ := h
      obtain ⟨b, h3, h4⟩ := lex_of os _ h2
      exact ⟨b, ⟨v, .inl ⟨hw, h1⟩, h3⟩, h4⟩
    · rw [if_neg hw] at h
      obtain ⟨b, h3, h4⟩ := lex_of os _ h
      exact ⟨b, ⟨undef, .inr ⟨by simpa using hw, rfl⟩, h3⟩, h4⟩
theorem put_look (a : Act) (d : Option Tmp) (v : Value) (t : Tmp) (h : d ≠ some t) : (a.put d v).tmps[t]? = a.tmps[t]? := by
  cases d with
  | none => rfl
  | some e =>
    have hne : e ≠ t := fun q => h (by rw [q])
    simp [Act.put, Array.getElem?_setIfInBounds_ne hne]
theorem put_own (a : Act) (t : Tmp) (v : Value) (h : t < a.tmps.size) : (a.put (some t) v).tmps[t]? = some v := by simp [Act.put, h]
theorem put_size (a : Act) (d : Option Tmp) (v : Value) : (a.put d v).tmps.size = a.tmps.size := by cases d <;> simp [Act.put]
theorem put_late (a : Act) (d : Option Tmp) (v : Value) : (a.put d v).defers = a.defers := by cases d <;> rfl
theorem lex_keep : ∀ (os : List Oper) (a b : Act), Lex P ops C os a b → b.tmps.size = a.tmps.size ∧ b.defers = a.defers ∧ ∀ t, (∀ o ∈ os, o.dst ≠ some t) → b.tmps[t]? = a.tmps[t]?
  | [], a, b, h => by cases h; exact ⟨rfl, rfl, fun _ _ => rfl⟩
  | o :: os, a, b, h => by
    obtain ⟨v, _, h2⟩ := h
    obtain ⟨e1, e2, e3⟩ := lex_keep os _ b h2
    refine ⟨e1.trans (put_size _ _ _), e2.trans (put_late _ _ _), fun t ht => ?_⟩
    rw [e3 t fun o' ho' => ht o' (by simp [ho']), put_look _ _ _ _ (ht o (by simp))]
theorem lex_at : ∀ (os : List Oper) (a b : Act), Lex P ops C os a b → (os.filterMap (·.dst)).Nodup → ∀ (i : Nat) (o : Oper), os[i]? = some o →
    ∃ ai v, YieldsIn P ops C o v ai ∧ (∀ t k ok, k < i → os[k]? = some ok → ok.dst = some t → ai.tmps[t]? = b.tmps[t]?) ∧
      (∀ t, (∀ k ok, k < i → os[k]? = some ok → ok.dst ≠ some t) → ai.tmps[t]? = a.tmps[t]?) ∧ (∀ d, o.dst = some d → d < a.tmps.size → b.tmps[d]? = some v)
  | [], _, _, _, _, _, _, hi => by simp at hi
  | o :: os, a, b, h, hN, i, o', hi => by
    obtain ⟨v, h1, h2⟩ := h
    obtain ⟨_, _, k3⟩ := lex_keep os _ b h2
    have hN' : (os.filterMap (·.dst)).Nodup := by
      cases hd : o.dst with
      | none => simpa [List.filterMap_cons, hd] using hN
      | some d => exact (List.nodup_cons.1 (by simpa [List.filterMap_cons, hd] using hN)).2
    have hne : ∀ t, o.dst = some t → ∀ q ∈ os, q.dst ≠ some t := fun t ht q hq e => by
      have : t ∉ os.filterMap (·.dst) := (List.nodup_cons.1 (by simpa [List.filterMap_cons, ht] using hN)).1
      exact this (List.mem_filterMap.2 ⟨q, hq, e⟩)
    cases i with
    | zero =>
      obtain rfl : o = o' := by simpa using hi
      refine ⟨a, v, h1, fun t k _ hk => absurd hk (Nat.not_lt_zero _), fun t _ => rfl, fun d hd hlt => ?_⟩
      rw [k3 d (hne d hd), hd]
      exact put_own _ _ _ hlt
    | succ i =>
      obtain ⟨ai, u, g1, g2, g3, g4⟩ := lex_at os _ b h2 hN' i o' (by simpa using hi)
      refine ⟨ai, u, g1, fun t k ok hk hok ht => ?_, fun t ht => ?_, fun d hd hlt => g4 d hd (by rw [put_size]; exact hlt)⟩
      · cases k with
        | zero =>
          obtain rfl : o = ok := by simpa using hok
          rw [g3 t fun k' ok' _ h' e => hne t ht ok' (List.mem_of_getElem? h') e, k3 t (hne t ht)]
        | succ k => exact g2 t k ok (by omega) (by simpa using hok) ht
      · rw [g3 t fun k' ok' hk' h' e => ht (k' + 1) ok' (by omega) (by simpa using h') e, put_look _ _ _ _ (ht 0 o (by omega) (by simp))]

theorem wanted_same (o : Oper) (a a' : Act) (h : ∀ t ∈ o.looksAt ops, a'.tmps[t]? = a.tmps[t]?) : Region.wanted o (yielded ops a'.tmps) = Region.wanted o (yielded ops a.tmps) := by
  unfold Region.wanted
  cases hg : o.guard with
  | none => rfl
  | some gw =>
    obtain ⟨g, want⟩ := gw
    have hy : yielded ops a'.tmps g = yielded ops a.tmps g := by
      unfold yielded
      cases ht : (ops[g]?).bind (·.dst) with
      | none => rfl
      | some t =>
        have := h t (by simp [Oper.looksAt, hg, ht])
        simp [this]
    simp only [hy]
theorem exec_same (o : Oper) (hs : ∀ cs b, o.op ≠ .select cs b) (a a' : Act) (h : ∀ t ∈ o.looksAt ops, a'.tmps[t]? = a.tmps[t]?) : execOp a'.eval o = execOp a.eval o :=
  execOp_congr o hs fun x hx => by
    cases x with
    | tmp t =>
      have := h t (List.mem_append_left _ (List.mem_filterMap.2 ⟨.tmp t, by simpa using hx, rfl⟩))
      simp only [Act.eval, Array.getD_eq_getD_getElem?, this]
    | _ => rfl

def headArr (n m : Nat) : Array Bool := ((List.range m).map fun i => decide (i < n)).toArray
/-- The Bool over a region: its first n operations write different slots, look only at slots of operations that they wait for, and wait only for earlier ones; the others wait for all of them and stand in one order. -/
def tailOk (md : Region.Mode) (ops : Array Oper) (n : Nat) : Bool :=
  Region.noSelect ops && decide (n < ops.size) && Region.sinkB md ops n && Region.chainB md ops n && decide (((ops.toList.take n).filterMap (·.dst)).Nodup) &&
  ((List.range n).all fun i => match ops[i]? with
    | none => true
    | some o => (o.after.all fun e => !Region.binds md e || decide (e.on < i)) && (o.looksAt ops).all fun t => (List.range n).all fun j => match ops[j]? with
      | none => true
      | some oj => (oj.dst != some t) || (decide (j < i) && Region.waitsFor md ops i j)) &&
  Region.seqB md ops (ops.size - n) n (headArr n ops.size)

theorem least {p : Nat → Prop} : ∀ i, p i → ∃ j, p j ∧ j ≤ i ∧ ∀ k, k < j → ¬ p k := fun i => by
  induction i using Nat.strongRecOn with
  | _ i ih =>
    intro hi
    by_cases h : ∃ k, k < i ∧ p k
    · obtain ⟨k, hk, hp⟩ := h
      obtain ⟨j, h1, h2, h3⟩ := ih k hk hp
      exact ⟨j, h1, by omega, h3⟩
    · exact ⟨i, hi, Nat.le_refl _, fun k hk hp => h ⟨k, hk, hp⟩⟩

theorem nodup_index : ∀ {os : List Oper} {i k : Nat} {o ok : Oper} {t : Tmp}, (os.filterMap (·.dst)).Nodup → os[i]? = some o → os[k]? = some ok → o.dst = some t → ok.dst = some t → i = k := by
  intro os
  induction os with
  | nil => intro i k o ok t _ h1; simp at h1
  | cons x xs ih =>
    intro i k o ok t hN h1 h2 e1 e2
    have hN' : (xs.filterMap (·.dst)).Nodup := by
      cases hd : x.dst with
      | none => simpa [List.filterMap_cons, hd] using hN
      | some d => exact (List.nodup_cons.1 (by simpa [List.filterMap_cons, hd] using hN)).2
    have hne : x.dst = some t → ∀ q ∈ xs, q.dst ≠ some t := fun ht q hq e => by
      have : t ∉ xs.filterMap (·.dst) := (List.nodup_cons.1 (by simpa [List.filterMap_cons, ht] using hN)).1
      exact this (List.mem_filterMap.2 ⟨q, hq, e⟩)
    cases i with
    | zero =>
      obtain rfl : x = o := by simpa using h1
      cases k with
      | zero => rfl
      | succ k => exact absurd e2 (hne e1 ok (List.mem_of_getElem? (by simpa using h2)))
    | succ i =>
      cases k with
      | zero =>
        obtain rfl : x = ok := by simpa using h2
        exact absurd e1 (hne e2 o (List.mem_of_getElem? (by simpa using h1)))
      | succ k =>
        have q := ih (i := i) (k := k) (o := o) (ok := ok) (t := t) hN' (by simpa using h1) (by simpa using h2) e1 e2
        rw [q]

/-- The state: slots of operations that have come up hold what they hold behind all; the others what they held. -/
structure Part (ops : Array Oper) (n : Nat) (a0 b : Act) (listed : Array Bool) (a : Act) : Prop where
  late : a.defers = b.defers
  size : a.tmps.size = b.tmps.size
  up : ∀ t k ok, k < n → listed.getD k true = true → ops[k]? = some ok → ok.dst = some t → a.tmps[t]? = b.tmps[t]?
  down : ∀ t, (∀ k ok, k < n → listed.getD k true = true → ops[k]? = some ok → ok.dst ≠ some t) → a.tmps[t]? = a0.tmps[t]?

theorem wp_region_qt {id : Nat} {Q : Exit → Act → World → Prop} {a0 : Act} {w : World} {l : List Oper} (C : World → Prop) (n : Nat) (hm : P.follows .mixedOrders = true) (hB : tailOk .any l.toArray n = true) (hC : C w.drew)
    (h : wpQuiet P l.toArray C (fun a' => ∀ w', C w' → wpList P l.toArray Q (l.drop n) a' w') (l.take n) a0) : (Code.region id l.toArray true).wp P Q a0 w := by
  simp only [tailOk, Bool.and_eq_true, decide_eq_true_eq] at hB
  obtain ⟨⟨⟨⟨⟨⟨hsel, hn⟩, hs⟩, hc⟩, hN⟩, hall⟩, hseq⟩ := hB
  have hn' : n < l.length := by simpa using hn
  obtain ⟨b, hL, hQ⟩ := lex_of (l.take n) a0 h
  have hN' : ((l.take n).filterMap (·.dst)).Nodup := by simpa using hN
  obtain ⟨b1, b2, b3⟩ := lex_keep _ _ _ hL
  have hat : ∀ k, k < n → (l.take n)[k]? = l.toArray[k]? := fun k hk => by simp [hk]
  refine wp_region_any hm ?_
  have key : ∀ (f : Nat) (L : List Nat) (listed : Array Bool) (a : Act) (w : World), L.Nodup → L.length = f → (∀ i, i ∈ L ↔ (i < n ∧ listed.getD i true = false)) → HeadInv .any l.toArray n listed → Part l.toArray n a0 b listed a → C w →
      wpAny P .any l.toArray Q (f + (l.length - n)) listed a w := by
    intro f
    induction f with
    | zero =>
      intro L listed a w _ hlen hL2 inv hp hCw
      obtain rfl := List.length_eq_zero_iff.1 hlen
      have hal : ∀ i, i < n → listed.getD i true = true := fun i hi => by
        cases hq : listed.getD i true with
        | true => rfl
        | false => exact absurd ((hL2 i).2 ⟨hi, hq⟩) (by simp)
      have hla : listed = headArr n l.toArray.size := by
        refine Array.ext (by rw [inv.size]; simp [headArr]) fun i h1 h2 => ?_
        have hi : i < l.toArray.size := by rw [← inv.size]; exact h1
        have hg : listed.getD i true = listed[i] := by simp [Array.getD_eq_getD_getElem?, h1]
        rw [← hg]
        by_cases hin : i < n
        · rw [hal i hin]; simp [headArr, hin]
        · rw [inv.tail i (by omega) hi]; simp [headArr, hin]
      have hab : a = b := by
        obtain ⟨t1, d1⟩ := a
        obtain ⟨t2, d2⟩ := b
        have e1 : d1 = d2 := hp.late
        have e2 : t1 = t2 := by
          refine Array.ext hp.size fun i h1 h2 => ?_
          have : (t1[i]? : Option Value) = t2[i]? := by
            by_cases hd : ∃ k ok, k < n ∧ l.toArray[k]? = some ok ∧ ok.dst = some i
            · obtain ⟨k, ok, hk, hok, hdk⟩ := hd
              exact hp.up i k ok hk (hal k hk) hok hdk
            · have e := hp.down i fun k ok hk _ hok e => hd ⟨k, ok, hk, hok, e⟩
              have e' := b3 i fun o ho e => by
                obtain ⟨k, hk⟩ := List.mem_iff_getElem?.1 ho
                have hkn : k < n := by
                  rcases Nat.lt_or_ge k n with q | q
                  · exact q
                  · rw [List.getElem?_eq_none (by simp; omega)] at hk; cases hk
                exact hd ⟨k, o, hkn, by rw [← hat k hkn]; exact hk, e⟩
              exact e.trans e'.symm
          rw [Array.getElem?_eq_getElem h1, Array.getElem?_eq_getElem h2] at this
          exact Option.some.inj this
        rw [e1, e2]
      subst hab
      have := wpAny_of_seq (md := .any) (P := P) (Q' := Q) (l.drop n) n listed a w (fun j => by simp [List.getElem?_drop]) (by rw [hla]; simpa using hseq) (hQ w hCw)
      simpa using this
    | succ f ih =>
      intro L listed a w hLN hlen hL2 inv hp hCw
      have h00 : ∃ i0, i0 ∈ L := by
        cases L with
        | nil => simp at hlen
        | cons x xs => exact ⟨x, by simp⟩
      obtain ⟨i0, hi0⟩ := h00
      obtain ⟨hi0n, hi0l⟩ := (hL2 i0).1 hi0
      have row : ∀ i, i < n → ∃ o, l.toArray[i]? = some o ∧ (∀ e ∈ o.after, Region.binds .any e = true → e.on < i) ∧ ∀ t ∈ o.looksAt l.toArray, ∀ j, j < n → ∀ oj, l.toArray[j]? = some oj → oj.dst = some t → j < i ∧ ∃ e ∈ o.after, Region.binds .any e = true ∧ e.on = j := by
        intro i hi
        have hi' : i < l.length := by omega
        have ho : l.toArray[i]? = some l[i] := by simp [hi']
        refine ⟨l[i], ho, ?_⟩
        have h1 := List.all_eq_true.1 hall i (List.mem_range.2 hi)
        rw [ho] at h1
        simp only [Bool.and_eq_true] at h1
        refine ⟨fun e he hb => ?_, fun t ht j hj oj hoj hd => ?_⟩
        · have h2 := Array.all_eq_true_iff_forall_mem.1 h1.1 e he
          simp [hb] at h2
          exact h2
        · have h2 := List.all_eq_true.1 (List.all_eq_true.1 h1.2 t ht) j (List.mem_range.2 hj)
          rw [hoj] at h2
          simp only [Bool.or_eq_true, Bool.and_eq_true, decide_eq_true_eq] at h2
          rcases h2 with h2 | h2
          · simp [hd] at h2
          · obtain ⟨o', ho', e, he, hb, hon⟩ := Region.waitsFor_spec h2.2
            obtain rfl : l[i] = o' := Option.some.inj (ho.symm.trans ho')
            exact ⟨h2.1, e, he, hb, hon⟩
      obtain ⟨i1, hi1, _, hmin⟩ := least (p := fun i => i < n ∧ listed.getD i true = false) i0 ⟨hi0n, hi0l⟩
      have hready : i1 ∈ Region.ready .any l.toArray listed := by
        obtain ⟨o, ho, ha, _⟩ := row i1 hi1.1
        refine mem_ready.2 ⟨hi1.2, o, ho, fun e he hb => ?_⟩
        have hlt := ha e he hb
        have hne : listed.getD e.on true = true := by
          cases hq : listed.getD e.on true with
          | true => rfl
          | false => exact absurd ⟨by omega, hq⟩ (hmin e.on hlt)
        have hsz : e.on < listed.size := by rw [inv.size]; simp; omega
        simp [Array.getD_eq_getD_getElem?, hsz] at hne ⊢
        exact hne
      rw [show f + 1 + (l.length - n) = f + (l.length - n) + 1 by omega]
      refine ⟨fun h0 => (by rw [h0] at hready; cases hready), fun i hi => ?_⟩
      have hin : i < n := by
        rcases Nat.lt_or_ge i n with q | q
        · exact q
        · exact absurd hi (tail_waits hs hc hn inv _ i0 rfl hi0n hi0l i q)
      obtain ⟨o, ho, ha, hlook⟩ := row i hin
      obtain ⟨hun, o', ho', hdone⟩ := mem_ready.1 hi
      obtain rfl : o = o' := Option.some.inj (ho.symm.trans ho')
      obtain ⟨ai, v, hy, g1, g2, g3⟩ := lex_at _ _ _ hL hN' i o ((hat i hin).trans ho)
      have hsame : ∀ t ∈ o.looksAt l.toArray, a.tmps[t]? = ai.tmps[t]? := by
        intro t ht
        by_cases hd : ∃ k ok, k < n ∧ l.toArray[k]? = some ok ∧ ok.dst = some t
        · obtain ⟨k, ok, hk, hok, hdk⟩ := hd
          obtain ⟨hki, e, he, hb, hon⟩ := hlook t ht k hk ok hok hdk
          have hl1 := hdone e he hb
          rw [hon] at hl1
          have hsz : k < listed.size := by rw [inv.size]; simp; omega
          have hl2 : listed.getD k true = true := by
            simp [Array.getD_eq_getD_getElem?, hsz] at hl1 ⊢
            exact hl1
          rw [hp.up t k ok hk hl2 hok hdk, g1 t k ok hki ((hat k hk).trans hok) hdk]
        · rw [hp.down t fun k ok hk _ hok e => hd ⟨k, ok, hk, hok, e⟩, g2 t fun k ok hk hok e => hd ⟨k, ok, by omega, by rw [← hat k (by omega)]; exact hok, e⟩]
      have hsl : ∀ cs b, o.op ≠ .select cs b := fun cs b => Region.noSelect_spec hsel i o cs b ho
      have hya : YieldsIn P l.toArray C o v a := hy.of_same (exec_same o hsl ai a hsame) (wanted_same o ai a hsame)
      refine wpOp_of_qOp (K := fun a' => a' = a.put o.dst v) hCw (fun a' w' hw' e => ?_) (hya.qOp ho rfl)
      subst e
      have hsz : i < listed.size := by rw [inv.size]; simp; omega
      refine ih (L.erase i) _ _ w' (hLN.erase i) (by rw [List.length_erase_of_mem ((hL2 i).2 ⟨hin, hun⟩), hlen]; rfl) (fun j => ?_) (inv.set hi hin) ?_ hw'
      · rw [hLN.mem_erase_iff, hL2 j]
        by_cases hji : i = j
        · subst hji
          simp [hsz]
        · rw [getD_set_ne true hji]
          constructor
          · rintro ⟨_, q⟩; exact q
          · intro q; exact ⟨fun e => hji e.symm, q⟩
      · refine ⟨(put_late _ _ _).trans hp.late, (put_size _ _ _).trans hp.size, fun t k ok hk hkl hok hdk => ?_, fun t ht => ?_⟩
        · by_cases hki : i = k
          · subst hki
            obtain rfl : o = ok := Option.some.inj (ho.symm.trans hok)
            rw [hdk]
            by_cases hts : t < a.tmps.size
            · rw [put_own _ _ _ hts, g3 t hdk (by rw [← b1, ← hp.size]; exact hts)]
            · have n1 : (a.put (some t) v).tmps.size ≤ t := by rw [put_size]; exact Nat.le_of_not_lt hts
              have n2 : b.tmps.size ≤ t := by rw [← hp.size]; exact Nat.le_of_not_lt hts
              rw [Array.getElem?_eq_none n1, Array.getElem?_eq_none n2]
          · rw [getD_set_ne true hki] at hkl
            by_cases hdi : o.dst = some t
            · exfalso
              have e1 : (l.take n)[i]? = some o := (hat i hin).trans ho
              have e2 : (l.take n)[k]? = some ok := (hat k hk).trans hok
              exact hki (nodup_index hN' e1 e2 hdi hdk)
            · rw [put_look _ _ _ _ hdi]
              exact hp.up t k ok hk hkl hok hdk
        · have hdi : o.dst ≠ some t := ht i o hin (by simp [hsz]) ho
          rw [put_look _ _ _ _ hdi]
          refine hp.down t fun k ok hk hkl hok => ?_
          exact ht k ok hk (by by_cases hki : i = k; · subst hki; simp [hsz]
                               · rw [getD_set_ne true hki]; exact hkl) hok
  have hr := key n (List.range n) (Array.replicate l.toArray.size false) a0 w.drew List.nodup_range (by simp) (fun i => by
      rw [List.mem_range]
      constructor
      · intro hi; exact ⟨hi, getD_in (by simp; omega) (getD_replicate_false _ _)⟩
      · exact fun q => q.1) ⟨by simp, fun j oj _ hl => (by rw [getD_replicate_false] at hl; cases hl), fun t _ ht => getD_in (by simpa using ht) (getD_replicate_false _ _)⟩
    ⟨b2.symm, b1.symm, fun t k ok hk hkl => (by rw [getD_in (i := k) (by simp; omega) (getD_replicate_false _ _)] at hkl; cases hkl), fun t _ => rfl⟩ hC
  rw [show n + (l.length - n) = l.toArray.size by simp; omega] at hr
  exact hr
end
end Go.Proofs.Ytoplgnckdmkaoaa

namespace Go.Proofs.Ytoplgnckdmkaoaa
open Go.RowKit

/-- The call returns integers in a block of its own. -/
def OwnInts (L : List Int) (w : World) (e : Ending) (w' : World) : Prop :=
  ∃ g, e = .returned (.tuple #[.slice (some ⟨g, 0, none⟩) L.length L.length, .bool true]) ∧ w.heap.size ≤ g ∧ RowAt w' g L ∧ Below w.heap.size w w'
/-- The call returns a plane whose samples lie in a block of its own. -/
def OwnPlane (r : Pl.R) (L : List Int) (err : Int) (w : World) (e : Ending) (w' : World) : Prop :=
  ∃ g, e = .returned (.tuple #[.agg #[.int .i64 r.x0, .int .i64 r.y0, .int .i64 r.x1, .int .i64 r.y1, .slice (some ⟨g, 0, none⟩) L.length L.length], .int .i64 err]) ∧ w.heap.size ≤ g ∧ RowAt w' g L ∧ Below w.heap.size w w'
set_option maxRecDepth 100000 in
set_option maxHeartbeats 1000000 in
theorem new_own (a b c d : Int) (w : World) (hv : Pl.validB a b c d = true) (ha : Pl.areaI a b c d ≤ 1048576) :
    Calls Try.prog 56 #[.agg #[.int .i64 a, .int .i64 b, .int .i64 c, .int .i64 d]] w (OwnPlane ⟨a, b, c, d⟩ (List.replicate (Pl.areaI a b c d).toNat 0) 0 w) := by
  have hpos : 0 ≤ Pl.areaI a b c d := by rw [Pl.areaI, if_pos hv]; exact (Pl.area_bd hv).1
  obtain ⟨C, hC⟩ : ∃ C : Nat, Pl.areaI a b c d = (C : Int) := ⟨(Pl.areaI a b c d).toNat, by omega⟩
  rw [hC] at ha hpos
  have hCt : (Pl.areaI a b c d).toNat = C := by omega
  rw [hCt]
  have hCle : C ≤ 1048576 := by omega
  clear hCt
  have hmk := fun (W : World) => run_make_row' (P := Try.prog) 24 3 (.int .i64 0) 8 Try.underlying24 infoI rfl .i64 .i64 C (by omega) (by omega) W
  have x0 := (Box.fresh w a b c d 23).alloc #[.int .i64 0, .int .i64 0, .int .i64 0, .int .i64 0, .slice none 0 0] 26
  have y0 := QBox.freshAt (w.alloc (.cells #[.int .i64 a, .int .i64 b, .int .i64 c, .int .i64 d] 23)) (w.heap.size + 1) (by simp) 0 0 0 0 none 0 0 26
  have B0 : Below w.heap.size w ((w.alloc (.cells #[.int .i64 a, .int .i64 b, .int .i64 c, .int .i64 d] 23)).alloc (.cells #[.int .i64 0, .int .i64 0, .int .i64 0, .int .i64 0, .slice none 0 0] 26)) := ((Below.refl _ _).alloc (Nat.le_refl _) _).alloc (by simp) _
  go_enter Try.func56, Try.ntmps56
  go_wp2_with fail
  refine (valid_c _ _ _ _ _).mono ?_
  rintro e w1 ⟨rfl, hb1⟩
  have x1 := x0.below hb1
  have y1 := y0.below hb1
  have B1 : Below w.heap.size w w1 := bcall B0 hb1 (by simp; omega)
  clear hb1 x0 y0 B0
  obtain ⟨c0, c1, c2, c3⟩ := x1.open
  obtain ⟨d0, d1, d2, d3, d4⟩ := y1.open
  have g1 := y1.free
  go_wp2_with fail
  refine (area_c _ _ _ _ _).mono ?_
  rintro e w2 ⟨rfl, hb2⟩
  have x2 := x1.below hb2
  have y2 := y1.below hb2
  have B2 : Below w.heap.size w w2 := bcall B1 hb2 (by have := x1.lt; omega)
  clear hb2 x1 y1 B1 c0 c1 c2 c3 d0 d1 d2 d3 d4 g1
  obtain ⟨c0, c1, c2, c3⟩ := x2.open
  obtain ⟨d0, d1, d2, d3, d4⟩ := y2.open
  have g1 := y2.free
  go_wp2_with fail
  go_region_held3 (fun w' => w'.cell? ⟨w.heap.size, 0, none⟩ = some (.int .i64 a) ∧ w'.cell? ⟨w.heap.size, 1, none⟩ = some (.int .i64 b) ∧ w'.cell? ⟨w.heap.size, 2, none⟩ = some (.int .i64 c) ∧ w'.cell? ⟨w.heap.size, 3, none⟩ = some (.int .i64 d))
    (first | (with_reducible assumption) | (simp [c0, c1, c2, c3]; done) | (simp [World.cell?_alloc_some, World.cell?_setCell_far, k0, k1, k2, k3]; done))
    (first | (go_at_call 106; (with_reducible refine (area_c _ _ _ _ _).mono ?_); rintro e w3 ⟨rfl, hb3⟩; have y3 := y2.drew.below hb3; have x3 := x2.drew.below hb3; have B3 : Below w.heap.size w w3 := bcall B2.drew hb3 (by have := x2.lt; simp; omega); obtain ⟨k0, k1, k2, k3⟩ := x3.open; obtain ⟨e0, e1, e2, e3, e4⟩ := y3.open; have g3 := y3.free; have z3 := y3.lt; clear hb3))
  go_wp2
  refine bodyPost_ret (v := .tuple #[.agg #[.int .i64 a, .int .i64 b, .int .i64 c, .int .i64 d, .slice (some ⟨w3.heap.size, 0, none⟩) C C], .int .i64 0]) ?_ rfl ?_
  · obtain ⟨q0, q1, q2, q3, q4⟩ := ((y3.store a b c d (.slice (some ⟨w3.heap.size, 0, none⟩) C C)).alloc (.cells (madeCells #[.int .i64 0] C) 3)).open
    simp [results, Try.results56, go_sem, q0, q1, q2, q3, q4]
  · have hm := rowAt_made (((((w3.setCell ⟨w.heap.size + 1, 0, none⟩ (.int .i64 a)).setCell ⟨w.heap.size + 1, 1, none⟩ (.int .i64 b)).setCell ⟨w.heap.size + 1, 2, none⟩ (.int .i64 c)).setCell ⟨w.heap.size + 1, 3, none⟩ (.int .i64 d)).setCell ⟨w.heap.size + 1, 4, none⟩ (.slice (some ⟨w3.heap.size, 0, none⟩) C C)) C
    simp only [World.size_setCell] at hm
    exact ⟨w3.heap.size, by simp, by have := B3.size; omega, hm, (below5 B3 (by omega) _ _ _ _ _).alloc (by simp; omega) _⟩
set_option maxRecDepth 100000 in
set_option maxHeartbeats 1000000 in
theorem row_own1 (a b c d y : Int) (s : Option Addr) (m : Nat) (l : List Int) (w : World) (hp : pvB a b c d l.length = true) (h1 : b ≤ y) (h2 : y < d) (hw : a < c) (hm : l.length ≤ m) (hH : HoldsI w s l) :
    Calls Try.prog 129 #[.agg #[.int .i64 a, .int .i64 b, .int .i64 c, .int .i64 d, .slice s l.length m], .int .i64 y] w (OwnInts (rowL ⟨a, b, c, d⟩ l y) w) := by
  obtain ⟨hv, har, hn⟩ := pv_iff.1 hp
  obtain ⟨v1, v2, v3, v4, v5, v6⟩ := Pl.valid_iff.1 hv
  obtain ⟨hrl, hle⟩ := rowL_drop hp h1 h2
  obtain ⟨_, _, p2, p3⟩ := idx_bd hv (Int.le_refl a) v2 h1 (show y ≤ d by omega)
  obtain ⟨C, hC⟩ : ∃ C : Nat, c - a = (C : Int) := ⟨(c - a).toNat, by omega⟩
  have hCt : (c - a).toNat = C := by omega
  have hC4 : C ≤ 4096 := by omega
  rw [hCt] at hrl hle
  obtain ⟨k, hk⟩ : ∃ k : Nat, idx a b c a y = (k : Int) := ⟨(idx a b c a y).toNat, by omega⟩
  have hkt : (idx a b c a y).toNat = k := by omega
  rw [hkt] at hrl hle
  have hkl : k < l.length := by omega
  have hki : (k : Int) < (l.length : Int) := by omega
  have hki' : (k : Int) ≤ (l.length : Int) := by omega
  have hkm : ¬ k = m := by omega
  have hkm2 : ¬ m = k := by omega
  have hkm' : (k : Int) ≤ (m : Int) := by omega
  rcases hH with rfl | ⟨bb, off, rfl, hr⟩
  · simp at hkl
  have hH : HoldsI w (some ⟨bb, off, none⟩) l := .inr ⟨bb, off, rfl, hr⟩
  have hblt : bb < w.heap.size := cell_lt (hr k hkl)
  have hmk := fun (W : World) => run_make_row' (P := Try.prog) 24 3 (.int .i64 0) 8 Try.underlying24 infoI rfl .i64 .i64 C (by omega) (by omega) W
  have hd : ¬ y < b := by omega
  have HL : Hid _ := hrl
  have HM : Hid _ := hle
  clear hrl hle hn har p2 p3
  go_enter Try.func129, Try.ntmps129
  go_wp2_with fail
  refine (pv_c _ _ _ _ _ _ _ _).mono ?_
  rintro e w1 ⟨rfl, hb1⟩
  have hS1 := (Q1.fresh a b c d (some ⟨bb, off, none⟩) l.length m w).step hb1
  obtain ⟨c0, c1, c2, c3, c4⟩ := hS1.q.open
  go_wp2_with fail
  refine (width_c _ _ _ _ _ _ _ _ hv).mono ?_
  rintro e w2 ⟨rfl, hb2⟩
  have hS2 := hS1.step hb2
  clear c0 c1 c2 c3 c4 hb1 hb2 hS1
  obtain ⟨c0, c1, c2, c3, c4⟩ := hS2.q.open
  go_wp2_with fail
  have r0 : RowAt (w2.alloc (.cells (madeCells #[.int .i64 0] C) 3)) w2.heap.size (List.replicate C 0) := rowAt_made _ _
  have q0 := hS2.q.alloc (.cells (madeCells #[.int .i64 0] C) 3)
  have B0 : Below w.heap.size w (w2.alloc (.cells (madeCells #[.int .i64 0] C) 3)) := hS2.below.alloc (by have := hS2.q.lt; omega) _
  have hlt2 := hS2.q.lt
  clear hS2
  go_region_held3 (fun w' => w'.cell? ⟨w.heap.size, 0, none⟩ = some (.int .i64 a) ∧ w'.cell? ⟨w.heap.size, 1, none⟩ = some (.int .i64 b) ∧ w'.cell? ⟨w.heap.size, 2, none⟩ = some (.int .i64 c) ∧ w'.cell? ⟨w.heap.size, 3, none⟩ = some (.int .i64 d) ∧ w'.cell? ⟨w.heap.size, 4, none⟩ = some (.slice (some ⟨bb, off, none⟩) l.length m))
    (first | (with_reducible assumption) | exact q0.drew.open | exact q3.open | exact q4.open)
    (first | (go_at_call 121; (with_reducible refine (index_c _ _ _ _ _ _ _ _ _ _ hv (by omega) (by omega) (by omega) (by omega)).mono ?_); rintro e w3 ⟨rfl, hb3⟩; have q3 := q0.drew.below hb3; have r3 := r0.drew.below hb3; have B3 : Below w.heap.size w w3 := bcall B0.drew hb3 (by simp; omega); clear hb3)
            | ((refine step_copy_splice rfl (.tmp 27) (.tmp 36) 24 24 rfl 3 Try.underlying24 szI _ _ _ _ _ _ rfl rfl w2.heap.size 0 ((List.replicate C 0).map (Value.int .i64)) 3 r3 ((rowL ⟨a, b, c, d⟩ l y).map (Value.int .i64)) (by have := HM.out; rw [List.length_map, rowL_len]; show (c - a).toNat = min _ C; omega) (fun _ => ⟨rfl, ⟨bb, off + k, none⟩, rfl, by rw [HL.out]; exact holdsI_part (hH.below (B := w.heap.size) B3 (Nat.le_refl _)) k C HM.out⟩) (by rw [List.length_map, rowL_len]; simp; omega) (oneI _) w2.heap.size w3 (Below.refl _ _) (Nat.le_refl _) ?_); intro w4 hg4 hb4; have q4 := q3.belowAt hb4 hlt2; have r4 := hg4.out; have B4 : Below w.heap.size w w4 := B3.trans (hb4.mono (by omega))))
  have r5 : RowAt w4 w2.heap.size (rowL ⟨a, b, c, d⟩ l y) := by
    rw [splice_map, splice_all _ _ (by rw [rowL_len, List.length_replicate]; exact hCt)] at r4
    exact r4
  have HR : Hid (RowAt w4 w2.heap.size (rowL ⟨a, b, c, d⟩ l y)) := r5
  clear r4 hg4 r5
  go_wp2
  go_ret2
  exact ⟨w2.heap.size, by rw [rowL_len]; simp only [hCt]; rfl, Nat.le_of_lt hlt2, HR.out, B4⟩
set_option maxRecDepth 100000 in
set_option maxHeartbeats 1000000 in
theorem row_own0 (a b c d y : Int) (s : Option Addr) (m : Nat) (l : List Int) (w : World) (hp : pvB a b c d l.length = true) (h1 : b ≤ y) (h2 : y < d) (hw : c ≤ a) (_hm : l.length ≤ m) (_hH : HoldsI w s l) :
    Calls Try.prog 129 #[.agg #[.int .i64 a, .int .i64 b, .int .i64 c, .int .i64 d, .slice s l.length m], .int .i64 y] w (OwnInts (rowL ⟨a, b, c, d⟩ l y) w) := by
  obtain ⟨hv, har, hn⟩ := pv_iff.1 hp
  obtain ⟨v1, v2, v3, v4, v5, v6⟩ := Pl.valid_iff.1 hv
  obtain ⟨hrl, hle⟩ := rowL_drop hp h1 h2
  obtain ⟨_, _, p2, p3⟩ := idx_bd hv (Int.le_refl a) v2 h1 (show y ≤ d by omega)
  obtain ⟨C, hC⟩ : ∃ C : Nat, c - a = (C : Int) := ⟨(c - a).toNat, by omega⟩
  have hCt : (c - a).toNat = C := by omega
  have hC4 : C ≤ 4096 := by omega
  rw [hCt] at hrl hle
  have hi0 : idx a b c a y = 0 := by unfold idx; rw [show c - a = 0 by omega]; simp
  have hm0 : (0 : Int) ≤ (m : Int) := by omega
  have h00 : (0 : Int) ≤ (l.length : Int) := by omega
  have hmk := fun (W : World) => run_make_row' (P := Try.prog) 24 3 (.int .i64 0) 8 Try.underlying24 infoI rfl .i64 .i64 C (by omega) (by omega) W
  have hd : ¬ y < b := by omega
  have HL : Hid _ := hrl
  have HM : Hid _ := hle
  clear hrl hle hn har p2 p3
  go_enter Try.func129, Try.ntmps129
  go_wp2_with fail
  refine (pv_c _ _ _ _ _ _ _ _).mono ?_
  rintro e w1 ⟨rfl, hb1⟩
  have hS1 := (Q1.fresh a b c d s l.length m w).step hb1
  obtain ⟨c0, c1, c2, c3, c4⟩ := hS1.q.open
  go_wp2_with fail
  refine (width_c _ _ _ _ _ _ _ _ hv).mono ?_
  rintro e w2 ⟨rfl, hb2⟩
  have hS2 := hS1.step hb2
  clear c0 c1 c2 c3 c4 hb1 hb2 hS1
  obtain ⟨c0, c1, c2, c3, c4⟩ := hS2.q.open
  go_wp2_with fail
  have r0 : RowAt (w2.alloc (.cells (madeCells #[.int .i64 0] C) 3)) w2.heap.size (List.replicate C 0) := rowAt_made _ _
  have q0 := hS2.q.alloc (.cells (madeCells #[.int .i64 0] C) 3)
  have B0 : Below w.heap.size w (w2.alloc (.cells (madeCells #[.int .i64 0] C) 3)) := hS2.below.alloc (by have := hS2.q.lt; omega) _
  have hlt2 := hS2.q.lt
  clear hS2
  go_region_held3 (fun w' => w'.cell? ⟨w.heap.size, 0, none⟩ = some (.int .i64 a) ∧ w'.cell? ⟨w.heap.size, 1, none⟩ = some (.int .i64 b) ∧ w'.cell? ⟨w.heap.size, 2, none⟩ = some (.int .i64 c) ∧ w'.cell? ⟨w.heap.size, 3, none⟩ = some (.int .i64 d) ∧ w'.cell? ⟨w.heap.size, 4, none⟩ = some (.slice s l.length m))
    (first | (with_reducible assumption) | exact q0.drew.open | exact q3.open | exact q4.open)
    (first | (go_at_call 121; (with_reducible refine (index_c _ _ _ _ _ _ _ _ _ _ hv (by omega) (by omega) (by omega) (by omega)).mono ?_); rintro e w3 ⟨rfl, hb3⟩; have q3 := q0.drew.below hb3; have r3 := r0.drew.below hb3; have B3 : Below w.heap.size w w3 := bcall B0.drew hb3 (by simp; omega); clear hb3)
            | ((refine step_copy_splice rfl (.tmp 27) (.tmp 36) 24 24 rfl 3 Try.underlying24 szI _ _ _ _ _ _ rfl rfl w2.heap.size 0 ((List.replicate C 0).map (Value.int .i64)) 3 r3 ((rowL ⟨a, b, c, d⟩ l y).map (Value.int .i64)) (by have := HM.out; rw [List.length_map, rowL_len]; show (c - a).toNat = min _ C; omega) (fun h => by exfalso; rw [List.length_map, rowL_len] at h; simp at h; omega) (by rw [List.length_map, rowL_len]; simp; omega) (oneI _) w2.heap.size w3 (Below.refl _ _) (Nat.le_refl _) ?_); intro w4 hg4 hb4; have q4 := q3.belowAt hb4 hlt2; have r4 := hg4.out; have B4 : Below w.heap.size w w4 := B3.trans (hb4.mono (by omega))))
  have r5 : RowAt w4 w2.heap.size (rowL ⟨a, b, c, d⟩ l y) := by
    rw [splice_map, splice_all _ _ (by rw [rowL_len, List.length_replicate]; exact hCt)] at r4
    exact r4
  have HR : Hid (RowAt w4 w2.heap.size (rowL ⟨a, b, c, d⟩ l y)) := r5
  clear r4 hg4 r5
  go_wp2
  go_ret2
  exact ⟨w2.heap.size, by rw [rowL_len]; simp only [hCt]; rfl, Nat.le_of_lt hlt2, HR.out, B4⟩
theorem row_own (a b c d y : Int) (s : Option Addr) (m : Nat) (l : List Int) (w : World) (hp : pvB a b c d l.length = true) (h1 : b ≤ y) (h2 : y < d) (hm : l.length ≤ m) (hH : HoldsI w s l) :
    Calls Try.prog 129 #[.agg #[.int .i64 a, .int .i64 b, .int .i64 c, .int .i64 d, .slice s l.length m], .int .i64 y] w (OwnInts (rowL ⟨a, b, c, d⟩ l y) w) := by
  by_cases hw : a < c
  · exact row_own1 a b c d y s m l w hp h1 h2 hw hm hH
  · refine row_own0 a b c d y s m l w hp h1 h2 ?_ hm hH
    have := Pl.valid_iff.1 (pv_iff.1 hp).1
    omega
set_option maxRecDepth 100000 in
set_option maxHeartbeats 1000000 in
theorem col_own (a b c d x : Int) (s : Option Addr) (m : Nat) (l : List Int) (w : World) (hp : pvB a b c d l.length = true) (h1 : a ≤ x) (h2 : x < c) (hH : HoldsI w s l) :
    Calls Try.prog 64 #[.agg #[.int .i64 a, .int .i64 b, .int .i64 c, .int .i64 d, .slice s l.length m], .int .i64 x] w (OwnInts (colL ⟨a, b, c, d⟩ l x) w) := by
  obtain ⟨hv, har, hn⟩ := pv_iff.1 hp
  obtain ⟨v1, v2, v3, v4, v5, v6⟩ := Pl.valid_iff.1 hv
  have HJ : Hid _ := fun k hk => colL_at (x := x) hp h1 h2 k hk
  obtain ⟨C, hC⟩ : ∃ C : Nat, d - b = (C : Int) := ⟨(d - b).toNat, by omega⟩
  have hCl : (colL ⟨a, b, c, d⟩ l x).length = C := by rw [colL_len]; dsimp only; omega
  have hC4 : C ≤ 4096 := by omega
  have hmk := fun (W : World) => run_make_row' (P := Try.prog) 24 3 (.int .i64 0) 8 Try.underlying24 infoI rfl .i64 .i64 C (by omega) (by omega) W
  have hd' : ¬ x < a := by omega
  clear hn har
  go_enter Try.func64, Try.ntmps64
  go_wp2_with fail
  refine (pv_c _ _ _ _ _ _ _ _).mono ?_
  rintro e w1 ⟨rfl, hb1⟩
  have hS1 := (Q1.fresh a b c d s l.length m w).step hb1
  obtain ⟨c0, c1, c2, c3, c4⟩ := hS1.q.open
  have hlt1 := hS1.q.lt
  have r0 : RowAt (w1.alloc (.cells (madeCells #[.int .i64 0] C) 3)) w1.heap.size (fillL (colL ⟨a, b, c, d⟩ l x) 0) := by rw [fillL_zero, hCl]; exact rowAt_made _ _
  have hS2 : Q1 a b c d s l.length m w (w1.alloc (.cells (madeCells #[.int .i64 0] C) 3)) := hS1.step ((Below.refl _ _).alloc (Nat.le_refl _) _)
  clear hb1
  go_wp2_with fail
  clear c0 c1 c2 c3 c4 hS1
  go_loopw [35] (fun i wr => ColRel a b c d x s m l w w1.heap.size i wr) (fun i _ => C - (intOf i).toNat)
  case atStart => exact ⟨0, by omega, rfl, hS2, r0⟩
  case round =>
    obtain ⟨k, hk, rfl, hS, hR⟩ := hrel
    by_cases hlt : k < C
    · obtain ⟨j, hj, hjl, hval⟩ := HJ.out k (by omega)
      have hi : (k : Int) < (C : Int) := by omega
      rcases hH with rfl | ⟨bb, off, rfl, hr⟩
      · simp at hjl
      have hji : (j : Int) < (l.length : Int) := by omega
      have hblt : bb < w.heap.size := cell_lt (hr j hjl)
      have hy0 : wr.cell? ⟨bb, off + j, none⟩ = some (.int .i64 l[j]) := (hS.below.cell (p := ⟨bb, _, none⟩) hblt).trans (hr j hjl)
      obtain ⟨c0, c1, c2, c3, c4⟩ := hS.q.open
      have hww : IntKind.i64.wrap (b + (k : Int)) = b + (k : Int) := IntWalk.i64_in _ (by omega)
      have HV : Hid _ := hval
      clear hval
      have hRf := hR.free
      have hRl := hR.lt
      go_wp2_with fail
      have hR0 := hR.drew
      have hS0 := hS.step (Below.refl _ _).drew
      go_region_held3 (fun w' => w'.cell? ⟨w.heap.size, 0, none⟩ = some (.int .i64 a) ∧ w'.cell? ⟨w.heap.size, 1, none⟩ = some (.int .i64 b) ∧ w'.cell? ⟨w.heap.size, 2, none⟩ = some (.int .i64 c) ∧ w'.cell? ⟨w.heap.size, 3, none⟩ = some (.int .i64 d) ∧ w'.cell? ⟨w.heap.size, 4, none⟩ = some (.slice (some ⟨bb, off, none⟩) l.length m) ∧ w'.cell? ⟨bb, off + j, none⟩ = some (.int .i64 l[j]))
        (first | (with_reducible assumption) | exact ⟨c0, c1, c2, c3, c4, hy0⟩ | exact ⟨k0, k1, k2, k3, k4, hy1⟩ | exact hall)
        (first | (go_at_call 121; (with_reducible refine (index_c _ _ _ _ _ _ _ _ _ _ hv (by omega) (by omega) (by omega) (by omega)).mono ?_); rintro e w3 ⟨rfl, hb3⟩; have S3 := hS0.step hb3; have R3 := hR0.below hb3; obtain ⟨k0, k1, k2, k3, k4⟩ := S3.q.open; have hy1 : w3.cell? ⟨bb, off + j, none⟩ = some (.int .i64 l[j]) := (S3.below.cell (p := ⟨bb, _, none⟩) hblt).trans (hr j hjl); have z0 := R3.at (k := k) (by rw [fillL_len _ _ hk]; omega); have z1 := R3.free k; have S4 := S3.far ⟨w1.heap.size, k, none⟩ (.int .i64 l[j]) hlt1; have R4 := R3.set k l[j]; have hall : _ ∧ _ ∧ _ ∧ _ ∧ _ ∧ _ := ⟨S4.q.open.1, S4.q.open.2.1, S4.q.open.2.2.1, S4.q.open.2.2.2.1, S4.q.open.2.2.2.2, (S4.below.cell (p := ⟨bb, _, none⟩) hblt).trans (hr j hjl)⟩; clear hb3))
      have R5 : RowAt (w3.setCell ⟨w1.heap.size, k, none⟩ (.int .i64 l[j])) w1.heap.size (fillL (colL ⟨a, b, c, d⟩ l x) (k + 1)) := by
        rw [← fillL_next _ k (by omega), HV.out]; exact R4
      have HR : Hid _ := R5
      have HS : Hid _ := S4
      clear R5 S4 R4 R3 S3 hall z0 z1
      go_wp2
      go_roundw
      case rel => exact ⟨k + 1, by omega, by go_num, HS.out, HR.out⟩
      case measure => simp [intOf]; omega
    · obtain rfl : k = C := by omega
      have HR : Hid _ := hR
      have HS : Hid _ := hS
      clear hR hS
      go_wp2
      go_ret2
      refine ⟨w1.heap.size, by rw [hCl]; rfl, Nat.le_of_lt hlt1, ?_, HS.out.below⟩
      have := HR.out
      rw [← hCl, fillL_all] at this
      exact this
end Go.Proofs.Ytoplgnckdmkaoaa

namespace Go.Proofs.Ytoplgnckdmkaoaa
open Go.RowKit

set_option maxHeartbeats 400000 in
theorem across_q (a b c d a' b' c' d' : Int) (w : World) :
    Calls Try.prog 63 #[.agg #[.int .i64 a, .int .i64 b, .int .i64 c, .int .i64 d], .agg #[.int .i64 a', .int .i64 b', .int .i64 c', .int .i64 d']] w fun e w' => e = .returned (.agg #[.int .i64 a, .int .i64 b', .int .i64 c, .int .i64 d']) ∧ Below w.heap.size w w' := by
  go_enter Try.func63, Try.ntmps63
  go_wp2
  refine bodyPost_ret (v := .agg #[.int .i64 a, .int .i64 b', .int .i64 c, .int .i64 d']) (by simp [results, Try.results63, go_sem]) rfl ⟨rfl, ?_⟩
  (repeat (first | exact Below.refl _ _ | (refine Below.setCell ?_ (by simp <;> omega) _) | (refine Below.alloc ?_ (by simp <;> omega) _)))

set_option maxHeartbeats 400000 in
theorem known_q (k : Int) (w : World) : Calls Try.prog 76 #[.int .i64 k] w fun e w' => e = .returned (.bool (kB k)) ∧ w = w' := by
  have hk : (mgI k != 0) = kB k := by
    rw [Bool.eq_iff_iff, k_iff, bne_iff_ne, mgI]
    split
    · simp; omega
    · split
      · simp; omega
      · simp; omega
  go_enter Try.func76, Try.ntmps76
  go_wp2_with (go_at_call 93; refine (mg_q _ _).mono ?_; rintro e wn ⟨rfl, rfl⟩)
  go_ret
  exact ⟨by first | rw [hk] | (rw [← hk]; simp [bne]), rfl⟩

theorem fold_min_le : ∀ (l : List Int) (x : Int), l.foldl min x ≤ x ∧ ∀ v ∈ l, l.foldl min x ≤ v
  | [], x => ⟨by simp, by simp⟩
  | y :: l, x => by
    obtain ⟨h1, h2⟩ := fold_min_le l (min x y)
    refine ⟨by rw [List.foldl_cons]; omega, fun v hv => ?_⟩
    rw [List.foldl_cons]
    rcases List.mem_cons.1 hv with rfl | hv
    · omega
    · exact h2 v hv
theorem fold_max_le : ∀ (l : List Int) (x : Int), x ≤ l.foldl max x ∧ ∀ v ∈ l, v ≤ l.foldl max x
  | [], x => ⟨by simp, by simp⟩
  | y :: l, x => by
    obtain ⟨h1, h2⟩ := fold_max_le l (max x y)
    refine ⟨by rw [List.foldl_cons]; omega, fun v hv => ?_⟩
    rw [List.foldl_cons]
    rcases List.mem_cons.1 hv with rfl | hv
    · omega
    · exact h2 v hv
theorem fold_min_in : ∀ (l : List Int) (x : Int), l.foldl min x = x ∨ l.foldl min x ∈ l
  | [], x => .inl rfl
  | y :: l, x => by
    rw [List.foldl_cons]
    rcases fold_min_in l (min x y) with h | h
    · rw [h]
      rcases Int.le_total x y with q | q
      · exact .inl (by omega)
      · exact .inr (by rw [Int.min_eq_right q]; simp)
    · exact .inr (by simp [h])
theorem fold_max_in : ∀ (l : List Int) (x : Int), l.foldl max x = x ∨ l.foldl max x ∈ l
  | [], x => .inl rfl
  | y :: l, x => by
    rw [List.foldl_cons]
    rcases fold_max_in l (max x y) with h | h
    · rw [h]
      rcases Int.le_total x y with q | q
      · exact .inr (by rw [Int.max_eq_right q]; simp)
      · exact .inl (by omega)
    · exact .inr (by simp [h])
theorem few_lim {l : List Int} {b : Int} (h0 : 0 < l.length) : fewB l b = true ↔ (-b ≤ mnL l ∧ mxL l ≤ b) := by
  rw [few_iff]
  cases l with
  | nil => simp at h0
  | cons x l =>
    simp only [mnL, mxL, foldI, Ex.within]
    constructor
    · intro h
      refine ⟨?_, ?_⟩
      · rcases fold_min_in l x with q | q
        · rw [q]; exact (h x (by simp)).1
        · exact (h _ (by simp [q])).1
      · rcases fold_max_in l x with q | q
        · rw [q]; exact (h x (by simp)).2
        · exact (h _ (by simp [q])).2
    · rintro ⟨h1, h2⟩ v hv
      obtain ⟨m1, m2⟩ := fold_min_le l x
      obtain ⟨n1, n2⟩ := fold_max_le l x
      rcases List.mem_cons.1 hv with rfl | hv
      · omega
      · have := m2 v hv
        have := n2 v hv
        omega

set_option maxHeartbeats 1000000 in
theorem within5_q (a b c d bd : Int) (s : Option Addr) (m : Nat) (l : List Int) (w : World) (hp : pvB a b c d l.length = true) (hb : 0 ≤ bd) (hb' : bd ≤ 4611686018427387904) (hH : HoldsI w s l) :
    Calls Try.prog 77 #[.agg #[.int .i64 a, .int .i64 b, .int .i64 c, .int .i64 d, .slice s l.length m], .int .i64 bd] w fun e w' => e = .returned (.bool (fewB l bd)) ∧ Below w.heap.size w w' := by
  have wn : IntKind.i64.wrap (-bd) = -bd := IntWalk.i64_in _ (by omega)
  have hl : l.length ≤ 140737488351232 := by have := (pv_iff.1 hp).2; omega
  have B := below_alloc (Below.refl _ w) (.cells #[.int .i64 a, .int .i64 b, .int .i64 c, .int .i64 d, .slice s l.length m] 26)
  have lH := hH.alloc (.cells #[.int .i64 a, .int .i64 b, .int .i64 c, .int .i64 d, .slice s l.length m] 26)
  by_cases h0 : 0 < l.length
  · obtain ⟨u, hu⟩ : ∃ u, mnL l = u := ⟨_, rfl⟩
    obtain ⟨v, hv⟩ : ∃ v, mxL l = v := ⟨_, rfl⟩
    have hL := lim_yes a b c d s m l (w.alloc (.cells #[.int .i64 a, .int .i64 b, .int .i64 c, .int .i64 d, .slice s l.length m] 26)) hp h0 hl lH
    have hfe := few_lim (b := bd) h0
    rw [hu, hv] at hL hfe
    clear hu hv
    have HF : Hid _ := hfe
    clear hfe
    by_cases h1 : -bd ≤ u
    · go_enter Try.func77, Try.ntmps77
      go_wp2_with fail
      refine hL.mono ?_
      rintro e w1 ⟨rfl, hb⟩
      replace B := below_call B hb
      clear hb
      go_wp2
      go_ret
      exact ⟨ret_bool (by rw [HF.out]; simp [h1]), B⟩
    · go_enter Try.func77, Try.ntmps77
      go_wp2_with fail
      refine hL.mono ?_
      rintro e w1 ⟨rfl, hb⟩
      replace B := below_call B hb
      clear hb
      go_wp2
      go_ret
      exact ⟨ret_bool (by rw [HF.out]; simp; omega), B⟩
  · have hz : l.length = 0 := by omega
    have hL := lim_no a b c d s m l (w.alloc (.cells #[.int .i64 a, .int .i64 b, .int .i64 c, .int .i64 d, .slice s l.length m] 26)) (.inr ⟨hp, hz⟩)
    have hfe : fewB l bd = true := by
      obtain rfl := List.length_eq_zero_iff.1 hz
      rfl
    have h1 : -bd ≤ 0 := by omega
    have HF : Hid _ := hfe
    clear hfe hz h0
    go_enter Try.func77, Try.ntmps77
    go_wp2_with fail
    refine hL.mono ?_
    rintro e w1 ⟨rfl, hb⟩
    replace B := below_call B hb
    clear hb
    go_wp2
    go_ret
    exact ⟨ret_bool (by rw [HF.out]), B⟩
end Go.Proofs.Ytoplgnckdmkaoaa

namespace Go.Proofs.Ytoplgnckdmkaoaa
open Go.RowKit

theorem cd2 {a : Int} (h : 0 ≤ a) : Pl.cd a 2 = hfI a false := by
  have t1 : a.tmod 2 = a % 2 := Int.tmod_eq_emod_of_nonneg h
  have t2 : a.tdiv 2 = a / 2 := Int.tdiv_eq_ediv_of_nonneg h
  rw [Pl.cd, if_neg (by decide), t1, t2, hfI]
  split <;> simp <;> omega
theorem fd2 {a : Int} (h : 0 ≤ a) : Pl.fd a 2 = hfI a true := by
  have t1 : a.tmod 2 = a % 2 := Int.tmod_eq_emod_of_nonneg h
  have t2 : a.tdiv 2 = a / 2 := Int.tdiv_eq_ediv_of_nonneg h
  rw [Pl.fd, if_neg (by decide), t1, t2, hfI]
  rw [if_neg (by omega)]
  simp
/-- The worlds of the last statement of Bands: the two rectangles lie, and the result's block. -/
structure BdW (w : World) (L H : Nat) (lo hi : Pl.R) (W : World) : Prop where
  below : Below w.heap.size w W
  low : Box W L lo
  high : Box W H hi
  res : Blk W (w.heap.size + 1) 84 (arr4 fun _ => zR)
theorem BdW.step {w W W1 : World} {L H : Nat} {lo hi : Pl.R} (h : BdW w L H lo hi W) (hb : Below W.heap.size W W1) : BdW w L H lo hi W1 := ⟨below_call h.below hb, h.low.below hb, h.high.below hb, h.res.below hb⟩
structure BdF (w : World) (L H : Nat) (lo hi : Pl.R) where
  W : World
  ok : BdW w L H lo hi W
set_option maxHeartbeats 4000000 in
theorem bands_q (a b c d : Int) (w : World) : Calls Try.prog 60 #[.agg #[.int .i64 a, .int .i64 b, .int .i64 c, .int .i64 d]] w fun e w' => e = .returned (.agg (arr4 (bnds ⟨a, b, c, d⟩))) ∧ Below w.heap.size w w' := by
  have x1 := (Box.fresh w a b c d 23).alloc (arr4 fun _ => zR) 84
  have x2 := Blk.freshAt (w.alloc (.cells #[.int .i64 a, .int .i64 b, .int .i64 c, .int .i64 d] 23)) (w.heap.size + 1) (by simp) 84 (arr4 fun _ => zR)
  have B1 := below_alloc (below_alloc (Below.refl w.heap.size w) (.cells #[.int .i64 a, .int .i64 b, .int .i64 c, .int .i64 d] 23)) (.cells (arr4 fun _ => zR) 84)
  go_enter Try.func60, Try.ntmps60
  obtain ⟨c0, c1, c2, c3⟩ := x1.open
  go_wp2_with fail
  clear c0 c1 c2 c3
  refine (valid_c _ _ _ _ _).mono ?_
  rintro e w1 ⟨rfl, hb⟩
  replace x1 := x1.below hb
  replace x2 := x2.below hb
  replace B1 := below_call B1 hb
  clear hb
  cases hv : Pl.validB a b c d with
  | false =>
    have hz : bnds ⟨a, b, c, d⟩ = fun _ => zR := funext fun o => if_neg (by simp [hv])
    go_wp2_with (first | (refine wpList_store_row rfl 84 (.tmp 2) (.tmp 8) rfl (w.heap.size + 1) (arr4 fun _ => zR) rfl rfl 84 _ x2 info16 rfl (one16 _) ?_))
    refine bodyPost_ret (results_cell_row rfl _ _ (w.heap.size + 1) 84 (arr4 fun _ => zR) (0, 0) _ rfl (x2.row _) Try.underlying84 rfl info16) rfl ⟨by rw [hz], below_row B1 (Nat.le_succ _) _⟩
  | true =>
    obtain ⟨v1, v2, v3, v4, v5, v6⟩ := Pl.valid_iff.1 hv
    have hR : Pl.redR a b c d 2 2 = ⟨hfI a false, hfI b false, hfI c false, hfI d false⟩ := by
      rw [Pl.redR, if_pos ⟨hv, by decide, by decide⟩, cd2 (by omega), cd2 (by omega), cd2 (by omega), cd2 (by omega)]
    obtain ⟨c0, c1, c2, c3⟩ := x1.open
    go_wp2_with fail
    clear c0 c1 c2 c3
    refine (red_c _ _ _ _ _ _ _).mono ?_
    rw [hR]
    rintro e w2 ⟨rfl, hb⟩
    replace x1 := x1.below hb
    replace x2 := x2.below hb
    replace B1 := below_call B1 hb
    clear hb hR
    go_upto_region 4 with fail
    obtain ⟨W3, hW3⟩ : ∃ W3, W3 = w2.alloc (.cells #[.int .i64 (hfI a false), .int .i64 (hfI b false), .int .i64 (hfI c false), .int .i64 (hfI d false)] 23) := ⟨_, rfl⟩
    have y1 : Box W3 w.heap.size ⟨a, b, c, d⟩ := hW3 ▸ x1.alloc _ _
    have y2 : Blk W3 (w.heap.size + 1) 84 (arr4 fun _ => zR) := hW3 ▸ x2.alloc _
    have y3 : Box W3 w2.heap.size ⟨hfI a false, hfI b false, hfI c false, hfI d false⟩ := hW3 ▸ Box.fresh w2 _ _ _ _ _
    have B3 : Below w.heap.size w W3 := hW3 ▸ below_alloc B1 _
    rw [← hW3]
    clear hW3 x1 x2 B1
    obtain ⟨c0, c1, c2, c3⟩ := y1.open
    go_cut [4] (fun s4 wx => ∃ g : Nat, s4 = .pointer (some ⟨g, 0, none⟩) ∧ BdW w w2.heap.size g ⟨hfI a false, hfI b false, hfI c false, hfI d false⟩ ⟨Pl.fd a 2, Pl.fd b 2, Pl.fd c 2, Pl.fd d 2⟩ wx)
    case first =>
      go_region_held3 (fun w' => w'.cell? ⟨w.heap.size, 0, none⟩ = some (.int .i64 a) ∧ w'.cell? ⟨w.heap.size, 1, none⟩ = some (.int .i64 b) ∧ w'.cell? ⟨w.heap.size, 2, none⟩ = some (.int .i64 c) ∧ w'.cell? ⟨w.heap.size, 3, none⟩ = some (.int .i64 d))
        (first | assumption | (simp [World.cell?_alloc_some, c0, c1, c2, c3]; done))
        (first | (go_at_call 120; (with_reducible refine (fd_c _ _ _ (by omega) (by omega)).mono ?_); rintro e w3 ⟨rfl, rfl⟩))
      all_goals
        go_wp2_with fail
        go_meet
        exact ⟨W3.heap.size, rfl, below_alloc B3.drew _, (y3.alloc _ _).drew, (Box.fresh W3 _ _ _ _ _).drew, (y2.alloc _).drew⟩
    case rest =>
      obtain ⟨g, rfl, hS⟩ := hcut
      rw [fd2 (by omega), fd2 (by omega), fd2 (by omega), fd2 (by omega)] at hS
      clear c0 c1 c2 c3 y1 y2 y3 B3
      have hst : ∀ (X : BdF w w2.heap.size g ⟨hfI a false, hfI b false, hfI c false, hfI d false⟩ ⟨hfI a true, hfI b true, hfI c true, hfI d true⟩) (w' : World), Below X.W.heap.size X.W w' → ∃ Y : BdF w w2.heap.size g ⟨hfI a false, hfI b false, hfI c false, hfI d false⟩ ⟨hfI a true, hfI b true, hfI c true, hfI d true⟩, w' = Y.W := fun X w' hb => ⟨⟨w', X.ok.step hb⟩, rfl⟩
      have hne : Nonempty (BdF w w2.heap.size g ⟨hfI a false, hfI b false, hfI c false, hfI d false⟩ ⟨hfI a true, hfI b true, hfI c true, hfI d true⟩) := ⟨⟨_, hS⟩⟩
      have l0 : ∀ X : BdF w w2.heap.size g ⟨hfI a false, hfI b false, hfI c false, hfI d false⟩ ⟨hfI a true, hfI b true, hfI c true, hfI d true⟩, X.W.cell? ⟨w2.heap.size, 0, none⟩ = some (.int .i64 (hfI a false)) := fun X => X.ok.low.open.1
      have l1 : ∀ X : BdF w w2.heap.size g ⟨hfI a false, hfI b false, hfI c false, hfI d false⟩ ⟨hfI a true, hfI b true, hfI c true, hfI d true⟩, X.W.cell? ⟨w2.heap.size, 1, none⟩ = some (.int .i64 (hfI b false)) := fun X => X.ok.low.open.2.1
      have l2 : ∀ X : BdF w w2.heap.size g ⟨hfI a false, hfI b false, hfI c false, hfI d false⟩ ⟨hfI a true, hfI b true, hfI c true, hfI d true⟩, X.W.cell? ⟨w2.heap.size, 2, none⟩ = some (.int .i64 (hfI c false)) := fun X => X.ok.low.open.2.2.1
      have l3 : ∀ X : BdF w w2.heap.size g ⟨hfI a false, hfI b false, hfI c false, hfI d false⟩ ⟨hfI a true, hfI b true, hfI c true, hfI d true⟩, X.W.cell? ⟨w2.heap.size, 3, none⟩ = some (.int .i64 (hfI d false)) := fun X => X.ok.low.open.2.2.2
      have h0 : ∀ X : BdF w w2.heap.size g ⟨hfI a false, hfI b false, hfI c false, hfI d false⟩ ⟨hfI a true, hfI b true, hfI c true, hfI d true⟩, X.W.cell? ⟨g, 0, none⟩ = some (.int .i64 (hfI a true)) := fun X => X.ok.high.open.1
      have h1 : ∀ X : BdF w w2.heap.size g ⟨hfI a false, hfI b false, hfI c false, hfI d false⟩ ⟨hfI a true, hfI b true, hfI c true, hfI d true⟩, X.W.cell? ⟨g, 1, none⟩ = some (.int .i64 (hfI b true)) := fun X => X.ok.high.open.2.1
      have h2 : ∀ X : BdF w w2.heap.size g ⟨hfI a false, hfI b false, hfI c false, hfI d false⟩ ⟨hfI a true, hfI b true, hfI c true, hfI d true⟩, X.W.cell? ⟨g, 2, none⟩ = some (.int .i64 (hfI c true)) := fun X => X.ok.high.open.2.2.1
      have h3 : ∀ X : BdF w w2.heap.size g ⟨hfI a false, hfI b false, hfI c false, hfI d false⟩ ⟨hfI a true, hfI b true, hfI c true, hfI d true⟩, X.W.cell? ⟨g, 3, none⟩ = some (.int .i64 (hfI d true)) := fun X => X.ok.high.open.2.2.2
      go_upto_region 5 with fail
      refine wp_region_qt (fun w' => ∃ X : BdF w w2.heap.size g ⟨hfI a false, hfI b false, hfI c false, hfI d false⟩ ⟨hfI a true, hfI b true, hfI c true, hfI d true⟩, w' = X.W) 9 (by kernel_rfl) (by kernel_rfl) ⟨⟨_, hS.step (Below.refl _ _).drew⟩, rfl⟩ ?_
      simp only [List.take_succ_cons, List.take_zero, List.drop_succ_cons, List.drop_zero]
      repeat (first | go_big_quiet_step ((first | (go_at_call 63; exact call_in (across_q _ _ _ _ _ _ _ _ _) (hst _)))) | quiet_step ((first | (go_at_call 63; exact call_in (across_q _ _ _ _ _ _ _ _ _) (hst _)))))
      refine wpQuiet_nil ?_
      intro w5 hw'
      obtain ⟨⟨_, hS5⟩, hw''⟩ := hw'
      subst hw''
      clear hst hne l0 l1 l2 l3 h0 h1 h2 h3 hS
      have x2 := hS5.res
      have hz : bnds ⟨a, b, c, d⟩ = bndR ⟨a, b, c, d⟩ := funext fun o => if_pos hv
      go_wp2_with (first | (refine wpList_store_row rfl 84 (.tmp 2) (.tmp 32) rfl (w.heap.size + 1) (arr4 (bndR ⟨a, b, c, d⟩)) rfl rfl 84 _ x2 info16 rfl (one16 _) ?_))
      refine bodyPost_ret (results_cell_row rfl _ _ (w.heap.size + 1) 84 (arr4 (bndR ⟨a, b, c, d⟩)) (0, 0) _ rfl (x2.row _) Try.underlying84 rfl info16) rfl ⟨by rw [hz], below_row hS5.below (Nat.le_succ _) _⟩
end Go.Proofs.Ytoplgnckdmkaoaa
