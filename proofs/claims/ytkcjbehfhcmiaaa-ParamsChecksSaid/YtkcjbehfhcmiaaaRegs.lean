/-
  A region that draws its order, whose first operations are quiet in a class of worlds and whose last operations are forced: the first are walked once in the order of the text, the last one after the other, in any world of the class. Plain laws over the model; no program in sight.
-/
import Derived.Test.YtkcjbehfhcmiaaaBox
import Derived.Deep.QuietTactic
import Derived.StillTail
set_option maxRecDepth 100000
namespace Go.Proofs.Ytkcjbehfhcmiaaa
open Go.RowKit

section
variable {P : Program} {ops : Array Oper} {md : Region.Mode} {C : World → Prop}

/-- What the walk in the order of the text shows: each operation's value, and the state behind all. -/
def Lex (P : Program) (ops : Array Oper) (C : World → Prop) : List Oper → Act → Act → Prop
  | [], a, b => b = a
  | o :: os, a, b => ∃ v, YieldsIn P ops C o v a ∧ Lex P ops C os (a.put o.dst v) b
theorem lex_of {Q : Act → Prop} : ∀ (os : List Oper) (a : Act), wpQuiet P ops C Q os a → ∃ b, Lex P ops C os a b ∧ Q b
  | [], a, h => ⟨a, rfl, h⟩
  | o :: os, a, h => by
    unfold wpQuiet at h
    by_cases hw : Region.wanted o (yielded ops a.tmps) = true
    · rw [if_pos hw] at h
      obtain ⟨v, h1, h2⟩ := h
      obtain ⟨b, h3, h4⟩ := lex_of os _ h2
      exact ⟨b, ⟨v, .inl ⟨hw, h1⟩, h3⟩, h4⟩
    · rw [if_neg hw] at h
      obtain ⟨b, h3, h4⟩ := lex_of os _ h
      exact ⟨b, ⟨undef, .inr ⟨by simpa using hw, rfl⟩, h3⟩, h4⟩
theorem put_look (a : Act) (d : Option Tmp) (v : Value) (t : Tmp) (h : d ≠ some t) : (a.put d v).tmps[t]? = a.tmps[t]? := by
  cases d with
  | none => rfl
  | some e =>
    have hne : e ≠ t := fun q => h (by rw [q])
    simp [Act.put, Array.getElem?_setIfInBounds_ne hne]
theorem put_own (a : Act) (t : Tmp) (v : Value) (h : t < a.tmps.size) : (a.put (some t) v).tmps[t]? = some v := by simp [Act.put, h]
theorem put_size (a : Act) (d : Option Tmp) (v : Value) : (a.put d v).tmps.size = a.tmps.size := by cases d <;> simp [Act.put]
theorem put_late (a : Act) (d : Option Tmp) (v : Value) : (a.put d v).defers = a.defers := by cases d <;> rfl
theorem lex_keep : ∀ (os : List Oper) (a b : Act), Lex P ops C os a b → b.tmps.size = a.tmps.size ∧ b.defers = a.defers ∧ ∀ t, (∀ o ∈ os, o.dst ≠ some t) → b.tmps[t]? = a.tmps[t]?
  | [], a, b, h => by cases h; exact ⟨rfl, rfl, fun _ _ => rfl⟩
  | o :: os, a, b, h => by
    obtain ⟨v, _, h2⟩ := h
    obtain ⟨e1, e2, e3⟩ := lex_keep os _ b h2
    refine ⟨e1.trans (put_size _ _ _), e2.trans (put_late _ _ _), fun t ht => ?_⟩
    rw [e3 t fun o' ho' => ht o' (by simp [ho']), put_look _ _ _ _ (ht o (by simp))]
theorem lex_at : ∀ (os : List Oper) (a b : Act), Lex P ops C os a b → (os.filterMap (·.dst)).Nodup → ∀ (i : Nat) (o : Oper), os[i]? = some o →
    ∃ ai v, YieldsIn P ops C o v ai ∧ (∀ t k ok, k < i → os[k]? = some ok → ok.dst = some t → ai.tmps[t]? = b.tmps[t]?) ∧
      (∀ t, (∀ k ok, k < i → os[k]? = some ok → ok.dst ≠ some t) → ai.tmps[t]? = a.tmps[t]?) ∧ (∀ d, o.dst = some d → d < a.tmps.size → b.tmps[d]? = some v)
  | [], _, _, _, _, _, _, hi => by simp at hi
  | o :: os, a, b, h, hN, i, o', hi => by
    obtain ⟨v, h1, h2⟩ := h
    obtain ⟨_, _, k3⟩ := lex_keep os _ b h2
    have hN' : (os.filterMap (·.dst)).Nodup := by
      cases hd : o.dst with
      | none => simpa [List.filterMap_cons, hd] using hN
      | some d => exact (List.nodup_cons.1 (by simpa [List.filterMap_cons, hd] using hN)).2
    have hne : ∀ t, o.dst = some t → ∀ q ∈ os, q.dst ≠ some t := fun t ht q hq e => by
      have : t ∉ os.filterMap (·.dst) := (List.nodup_cons.1 (by simpa [List.filterMap_cons, ht] using hN)).1
      exact this (List.mem_filterMap.2 ⟨q, hq, e⟩)
    cases i with
    | zero =>
      obtain rfl : o = o' := by simpa using hi
      refine ⟨a, v, h1, fun t k _ hk => absurd hk (Nat.not_lt_zero _), fun t _ => rfl, fun d hd hlt => ?_⟩
      rw [k3 d (hne d hd), hd]
      exact put_own _ _ _ hlt
    | succ i =>
      obtain ⟨ai, u, g1, g2, g3, g4⟩ := lex_at os _ b h2 hN' i o' (by simpa using hi)
      refine ⟨ai, u, g1, fun t k ok hk hok ht => ?_, fun t ht => ?_, fun d hd hlt => g4 d hd (by rw [put_size]; exact hlt)⟩
      · cases k with
        | zero =>
          obtain rfl : o = ok := by simpa using hok
          rw [g3 t fun k' ok' _ h' e => hne t ht ok' (List.mem_of_getElem? h') e, k3 t (hne t ht)]
        | succ k => exact g2 t k ok (by omega) (by simpa using hok) ht
      · rw [g3 t fun k' ok' hk' h' e => ht (k' + 1) ok' (by omega) (by simpa using h') e, put_look _ _ _ _ (ht 0 o (by omega) (by simp))]

theorem wanted_same (o : Oper) (a a' : Act) (h : ∀ t ∈ o.looksAt ops, a'.tmps[t]? = a.tmps[t]?) : Region.wanted o (yielded ops a'.tmps) = Region.wanted o (yielded ops a.tmps) := by
  unfold Region.wanted
  cases hg : o.guard with
  | none => rfl
  | some gw =>
    obtain ⟨g, want⟩ := gw
    have hy : yielded ops a'.tmps g = yielded ops a.tmps g := by
      unfold yielded
      cases ht : (ops[g]?).bind (·.dst) with
      | none => rfl
      | some t =>
        have := h t (by simp [Oper.looksAt, hg, ht])
        simp [this]
    simp only [hy]
theorem exec_same (o : Oper) (hs : ∀ cs b, o.op ≠ .select cs b) (a a' : Act) (h : ∀ t ∈ o.looksAt ops, a'.tmps[t]? = a.tmps[t]?) : execOp a'.eval o = execOp a.eval o :=
  execOp_congr o hs fun x hx => by
    cases x with
    | tmp t =>
      have := h t (List.mem_append_left _ (List.mem_filterMap.2 ⟨.tmp t, by simpa using hx, rfl⟩))
      simp only [Act.eval, Array.getD_eq_getD_getElem?, this]
    | _ => rfl

def headArr (n m : Nat) : Array Bool := ((List.range m).map fun i => decide (i < n)).toArray
/-- The Bool over a region: its first n operations write different slots, look only at slots of operations that they wait for, and wait only for earlier ones; the others wait for all of them and stand in one order. -/
def tailOk (md : Region.Mode) (ops : Array Oper) (n : Nat) : Bool :=
  Region.noSelect ops && decide (n < ops.size) && Region.sinkB md ops n && Region.chainB md ops n && decide (((ops.toList.take n).filterMap (·.dst)).Nodup) &&
  ((List.range n).all fun i => match ops[i]? with
    | none => true
    | some o => (o.after.all fun e => !Region.binds md e || decide (e.on < i)) && (o.looksAt ops).all fun t => (List.range n).all fun j => match ops[j]? with
      | none => true
      | some oj => (oj.dst != some t) || (decide (j < i) && Region.waitsFor md ops i j)) &&
  Region.seqB md ops (ops.size - n) n (headArr n ops.size)

theorem least {p : Nat → Prop} : ∀ i, p i → ∃ j, p j ∧ j ≤ i ∧ ∀ k, k < j → ¬ p k := fun i => by
  induction i using Nat.strongRecOn with
  | _ i ih =>
    intro hi
    by_cases h : ∃ k, k < i ∧ p k
    · obtain ⟨k, hk, hp⟩ := h
      obtain ⟨j, h1, h2, h3⟩ := ih k hk hp
      exact ⟨j, h1, by omega, h3⟩
    · exact ⟨i, hi, Nat.le_refl _, fun k hk hp => h ⟨k, hk, hp⟩⟩

theorem nodup_index : ∀ {os : List Oper} {i k : Nat} {o ok : Oper} {t : Tmp}, (os.filterMap (·.dst)).Nodup → os[i]? = some o → os[k]? = some ok → o.dst = some t → ok.dst = some t → i = k := by
  intro os
  induction os with
  | nil => intro i k o ok t _ h1; simp at h1
  | cons x xs ih =>
    intro i k o ok t hN h1 h2 e1 e2
    have hN' : (xs.filterMap (·.dst)).Nodup := by
      cases hd : x.dst with
      | none => simpa [List.filterMap_cons, hd] using hN
      | some d => exact (List.nodup_cons.1 (by simpa [List.filterMap_cons, hd] using hN)).2
    have hne : x.dst = some t → ∀ q ∈ xs, q.dst ≠ some t := fun ht q hq e => by
      have : t ∉ xs.filterMap (·.dst) := (List.nodup_cons.1 (by simpa [List.filterMap_cons, ht] using hN)).1
      exact this (List.mem_filterMap.2 ⟨q, hq, e⟩)
    cases i with
    | zero =>
      obtain rfl : x = o := by simpa using h1
      cases k with
      | zero => rfl
      | succ k => exact absurd e2 (hne e1 ok (List.mem_of_getElem? (by simpa using h2)))
    | succ i =>
      cases k with
      | zero =>
        obtain rfl : x = ok := by simpa using h2
        exact absurd e1 (hne e2 o (List.mem_of_getElem? (by simpa using h1)))
      | succ k =>
        have q := ih (i := i) (k := k) (o := o) (ok := ok) (t := t) hN' (by simpa using h1) (by simpa using h2) e1 e2
        rw [q]

/-- The state: slots of operations that have come up hold what they hold behind all; the others what they held. -/
structure Part (ops : Array Oper) (n : Nat) (a0 b : Act) (listed : Array Bool) (a : Act) : Prop where
  late : a.defers = b.defers
  size : a.tmps.size = b.tmps.size
  up : ∀ t k ok, k < n → listed.getD k true = true → ops[k]? = some ok → ok.dst = some t → a.tmps[t]? = b.tmps[t]?
  down : ∀ t, (∀ k ok, k < n → listed.getD k true = true → ops[k]? = some ok → ok.dst ≠ some t) → a.tmps[t]? = a0.tmps[t]?

theorem wp_region_qt {id : Nat} {Q : Exit → Act → World → Prop} {a0 : Act} {w : World} {l : List Oper} (C : World → Prop) (n : Nat) (hm : P.follows .mixedOrders = true) (hB : tailOk .any l.toArray n = true) (hC : C w.drew)
    (h : wpQuiet P l.toArray C (fun a' => ∀ w', C w' → wpList P l.toArray Q (l.drop n) a' w') (l.take n) a0) : (Code.region id l.toArray true).wp P Q a0 w := by
  simp only [tailOk, Bool.and_eq_true, decide_eq_true_eq] at hB
  obtain ⟨⟨⟨⟨⟨⟨hsel, hn⟩, hs⟩, hc⟩, hN⟩, hall⟩, hseq⟩ := hB
  have hn' : n < l.length := by simpa using hn
  obtain ⟨b, hL, hQ⟩ := lex_of (l.take n) a0 h
  have hN' : ((l.take n).filterMap (·.dst)).Nodup := by simpa using hN
  obtain ⟨b1, b2, b3⟩ := lex_keep _ _ _ hL
  have hat : ∀ k, k < n → (l.take n)[k]? = l.toArray[k]? := fun k hk => by simp [hk]
  refine wp_region_any hm ?_
  have key : ∀ (f : Nat) (L : List Nat) (listed : Array Bool) (a : Act) (w : World), L.Nodup → L.length = f → (∀ i, i ∈ L ↔ (i < n ∧ listed.getD i true = false)) → HeadInv .any l.toArray n listed → Part l.toArray n a0 b listed a → C w →
      wpAny P .any l.toArray Q (f + (l.length - n)) listed a w := by
    intro f
    induction f with
    | zero =>
      intro L listed a w _ hlen hL2 inv hp hCw
      obtain rfl := List.length_eq_zero_iff.1 hlen
      have hal : ∀ i, i < n → listed.getD i true = true := fun i hi => by
        cases hq : listed.getD i true with
        | true => rfl
        | false => exact absurd ((hL2 i).2 ⟨hi, hq⟩) (by simp)
      have hla : listed = headArr n l.toArray.size := by
        refine Array.ext (by rw [inv.size]; simp [headArr]) fun i h1 h2 => ?_
        have hi : i < l.toArray.size := by rw [← inv.size]; exact h1
        have hg : listed.getD i true = listed[i] := by simp [Array.getD_eq_getD_getElem?, h1]
        rw [← hg]
        by_cases hin : i < n
        · rw [hal i hin]; simp [headArr, hin]
        · rw [inv.tail i (by omega) hi]; simp [headArr, hin]
      have hab : a = b := by
        obtain ⟨t1, d1⟩ := a
        obtain ⟨t2, d2⟩ := b
        have e1 : d1 = d2 := hp.late
        have e2 : t1 = t2 := by
          refine Array.ext hp.size fun i h1 h2 => ?_
          have : (t1[i]? : Option Value) = t2[i]? := by
            by_cases hd : ∃ k ok, k < n ∧ l.toArray[k]? = some ok ∧ ok.dst = some i
            · obtain ⟨k, ok, hk, hok, hdk⟩ := hd
              exact hp.up i k ok hk (hal k hk) hok hdk
            · have e := hp.down i fun k ok hk _ hok e => hd ⟨k, ok, hk, hok, e⟩
              have e' := b3 i fun o ho e => by
                obtain ⟨k, hk⟩ := List.mem_iff_getElem?.1 ho
                have hkn : k < n := by
                  rcases Nat.lt_or_ge k n with q | q
                  · exact q
                  · rw [List.getElem?_eq_none (by simp; omega)] at hk; cases hk
                exact hd ⟨k, o, hkn, by rw [← hat k hkn]; exact hk, e⟩
              exact e.trans e'.symm
          rw [Array.getElem?_eq_getElem h1, Array.getElem?_eq_getElem h2] at this
          exact Option.some.inj this
        rw [e1, e2]
      subst hab
      have := wpAny_of_seq (md := .any) (P := P) (Q' := Q) (l.drop n) n listed a w (fun j => by simp [List.getElem?_drop]) (by rw [hla]; simpa using hseq) (hQ w hCw)
      simpa using this
    | succ f ih =>
      intro L listed a w hLN hlen hL2 inv hp hCw
      have h00 : ∃ i0, i0 ∈ L := by
        cases L with
        | nil => simp at hlen
        | cons x xs => exact ⟨x, by simp⟩
      obtain ⟨i0, hi0⟩ := h00
      obtain ⟨hi0n, hi0l⟩ := (hL2 i0).1 hi0
      have row : ∀ i, i < n → ∃ o, l.toArray[i]? = some o ∧ (∀ e ∈ o.after, Region.binds .any e = true → e.on < i) ∧ ∀ t ∈ o.looksAt l.toArray, ∀ j, j < n → ∀ oj, l.toArray[j]? = some oj → oj.dst = some t → j < i ∧ ∃ e ∈ o.after, Region.binds .any e = true ∧ e.on = j := by
        intro i hi
        have hi' : i < l.length := by omega
        have ho : l.toArray[i]? = some l[i] := by simp [hi']
        refine ⟨l[i], ho, ?_⟩
        have h1 := List.all_eq_true.1 hall i (List.mem_range.2 hi)
        rw [ho] at h1
        simp only [Bool.and_eq_true] at h1
        refine ⟨fun e he hb => ?_, fun t ht j hj oj hoj hd => ?_⟩
        · have h2 := Array.all_eq_true_iff_forall_mem.1 h1.1 e he
          simp [hb] at h2
          exact h2
        · have h2 := List.all_eq_true.1 (List.all_eq_true.1 h1.2 t ht) j (List.mem_range.2 hj)
          rw [hoj] at h2
          simp only [Bool.or_eq_true, Bool.and_eq_true, decide_eq_true_eq] at h2
          rcases h2 with h2 | h2
          · simp [hd] at h2
          · obtain ⟨o', ho', e, he, hb, hon⟩ := Region.waitsFor_spec h2.2
            obtain rfl : l[i] = o' := Option.some.inj (ho.symm.trans ho')
            exact ⟨h2.1, e, he, hb, hon⟩
      obtain ⟨i1, hi1, _, hmin⟩ := least (p := fun i => i < n ∧ listed.getD i true = false) i0 ⟨hi0n, hi0l⟩
      have hready : i1 ∈ Region.ready .any l.toArray listed := by
        obtain ⟨o, ho, ha, _⟩ := row i1 hi1.1
        refine mem_ready.2 ⟨hi1.2, o, ho, fun e he hb => ?_⟩
        have hlt := ha e he hb
        have hne : listed.getD e.on true = true := by
          cases hq : listed.getD e.on true with
          | true => rfl
          | false => exact absurd ⟨by omega, hq⟩ (hmin e.on hlt)
        have hsz : e.on < listed.size := by rw [inv.size]; simp; omega
        simp [Array.getD_eq_getD_getElem?, hsz] at hne ⊢
        exact hne
      rw [show f + 1 + (l.length - n) = f + (l.length - n) + 1 by omega]
      refine ⟨fun h0 => (by rw [h0] at hready; cases hready), fun i hi => ?_⟩
      have hin : i < n := by
        rcases Nat.lt_or_ge i n with q | q
        · exact q
        · exact absurd hi (tail_waits hs hc hn inv _ i0 rfl hi0n hi0l i q)
      obtain ⟨o, ho, ha, hlook⟩ := row i hin
      obtain ⟨hun, o', ho', hdone⟩ := mem_ready.1 hi
      obtain rfl : o = o' := Option.some.inj (ho.symm.trans ho')
      obtain ⟨ai, v, hy, g1, g2, g3⟩ := lex_at _ _ _ hL hN' i o ((hat i hin).trans ho)
      have hsame : ∀ t ∈ o.looksAt l.toArray, a.tmps[t]? = ai.tmps[t]? := by
        intro t ht
        by_cases hd : ∃ k ok, k < n ∧ l.toArray[k]? = some ok ∧ ok.dst = some t
        · obtain ⟨k, ok, hk, hok, hdk⟩ := hd
          obtain ⟨hki, e, he, hb, hon⟩ := hlook t ht k hk ok hok hdk
          have hl1 := hdone e he hb
          rw [hon] at hl1
          have hsz : k < listed.size := by rw [inv.size]; simp; omega
          have hl2 : listed.getD k true = true := by
            simp [Array.getD_eq_getD_getElem?, hsz] at hl1 ⊢
            exact hl1
          rw [hp.up t k ok hk hl2 hok hdk, g1 t k ok hki ((hat k hk).trans hok) hdk]
        · rw [hp.down t fun k ok hk _ hok e => hd ⟨k, ok, hk, hok, e⟩, g2 t fun k ok hk hok e => hd ⟨k, ok, by omega, by rw [← hat k (by omega)]; exact hok, e⟩]
      have hsl : ∀ cs b, o.op ≠ .select cs b := fun cs b => Region.noSelect_spec hsel i o cs b ho
      have hya : YieldsIn P l.toArray C o v a := hy.of_same (exec_same o hsl ai a hsame) (wanted_same o ai a hsame)
      refine wpOp_of_qOp (K := fun a' => a' = a.put o.dst v) hCw (fun a' w' hw' e => ?_) (hya.qOp ho rfl)
      subst e
      have hsz : i < listed.size := by rw [inv.size]; simp; omega
      refine ih (L.erase i) _ _ w' (hLN.erase i) (by rw [List.length_erase_of_mem ((hL2 i).2 ⟨hin, hun⟩), hlen]; rfl) (fun j => ?_) (inv.set hi hin) ?_ hw'
      · rw [hLN.mem_erase_iff, hL2 j]
        by_cases hji : i = j
        · subst hji
          simp [hsz]
        · rw [getD_set_ne true hji]
          constructor
          · rintro ⟨_, q⟩; exact q
          · intro q; exact ⟨fun e => hji e.symm, q⟩
      · refine ⟨(put_late _ _ _).trans hp.late, (put_size _ _ _).trans hp.size, fun t k ok hk hkl hok hdk => ?_, fun t ht => ?_⟩
        · by_cases hki : i = k
          · subst hki
            obtain rfl : o = ok := Option.some.inj (ho.symm.trans hok)
            rw [hdk]
            by_cases hts : t < a.tmps.size
            · rw [put_own _ _ _ hts, g3 t hdk (by rw [← b1, ← hp.size]; exact hts)]
            · have n1 : (a.put (some t) v).tmps.size ≤ t := by rw [put_size]; exact Nat.le_of_not_lt hts
              have n2 : b.tmps.size ≤ t := by rw [← hp.size]; exact Nat.le_of_not_lt hts
              rw [Array.getElem?_eq_none n1, Array.getElem?_eq_none n2]
          · rw [getD_set_ne true hki] at hkl
            by_cases hdi : o.dst = some t
            · exfalso
              have e1 : (l.take n)[i]? = some o := (hat i hin).trans ho
              have e2 : (l.take n)[k]? = some ok := (hat k hk).trans hok
              exact hki (nodup_index hN' e1 e2 hdi hdk)
            · rw [put_look _ _ _ _ hdi]
              exact hp.up t k ok hk hkl hok hdk
        · have hdi : o.dst ≠ some t := ht i o hin (by simp [hsz]) ho
          rw [put_look _ _ _ _ hdi]
          refine hp.down t fun k ok hk hkl hok => ?_
          exact ht k ok hk (by by_cases hki : i = k; · subst hki; simp [hsz]
                               · rw [getD_set_ne true hki]; exact hkl) hok
  have hr := key n (List.range n) (Array.replicate l.toArray.size false) a0 w.drew List.nodup_range (by simp) (fun i => by
      rw [List.mem_range]
      constructor
      · intro hi; exact ⟨hi, getD_in (by simp; omega) (getD_replicate_false _ _)⟩
      · exact fun q => q.1) ⟨by simp, fun j oj _ hl => (by rw [getD_replicate_false] at hl; cases hl), fun t _ ht => getD_in (by simpa using ht) (getD_replicate_false _ _)⟩
    ⟨b2.symm, b1.symm, fun t k ok hk hkl => (by rw [getD_in (i := k) (by simp; omega) (getD_replicate_false _ _)] at hkl; cases hkl), fun t _ => rfl⟩ hC
  rw [show n + (l.length - n) = l.toArray.size by simp; omega] at hr
  exact hr
end
end Go.Proofs.Ytkcjbehfhcmiaaa
