/-
  Layer 17: the bytes of a block in mathematics: segments, sizes, entries.
  Layer 17: the two writers behind the interface writer: what a call of each method does.
  Layer 17: segment writes the symbols of a segment's passes through any writer.
  Layer 17: the passes of a segment are all raw or all not; lengths of what is coded.
  Layer 17: what code keeps in memory: the coder, the raw writer, the coded block.
  Layer 17: what code begins with, and what segment leaves of it.
-/
import Derived.Test.YtklchodbnjebnaaDoorNI
import Derived.Test.YtklchodbnjebnaaDoorNF
import Derived.Test.YtklchodbnjebnaaDoorND
import Derived.Test.YtklchodbnjebnaaDoorNA
import Derived.Test.YtklchodbnjebnaaDoorNC
import Derived.Shelf.Abstract
import Derived.Test.YtklchodbnjebnaaDoorNM
import Derived.Test.YtklchodbnjebnaaDoorNL
import Derived.Test.YtklchodbnjebnaaDoorNT
import Derived.Laws.ResultCell
set_option maxRecDepth 100000
namespace Go.Proofs.YtklchodbnjebnaaDoor
open Go.RowKit

theorem take_s {α : Type} {l : List α} {k : Nat} (h : k < l.length) : l.take (k + 1) = l.take k ++ [l[k]] := by
  rw [List.take_add_one, List.getElem?_eq_getElem h]; rfl
section
variable {τ : Type}
/-- The sizes behind the passes of a segment: ps performs a pass, sz tells the size behind it. -/
def zW (ps : τ → List Sy → τ) (sz : τ → Int) : τ → List (List Sy) → List Int
  | _, [] => []
  | t, L :: Ls => sz (ps t L) :: zW ps sz (ps t L) Ls
theorem zW_len (ps : τ → List Sy → τ) (sz : τ → Int) (Ls : List (List Sy)) : ∀ t, (zW ps sz t Ls).length = Ls.length := by
  induction Ls with
  | nil => intro t; rfl
  | cons L Ls ih => intro t; simp [zW, ih]
theorem zW_snoc (ps : τ → List Sy → τ) (sz : τ → Int) (L : List Sy) (Ls : List (List Sy)) : ∀ t, zW ps sz t (Ls ++ [L]) = zW ps sz t Ls ++ [sz (ps (Ls.foldl ps t) L)] := by
  induction Ls with
  | nil => intro t; rfl
  | cons M Ls ih => intro t; simp [zW, ih]
theorem zW_at (ps : τ → List Sy → τ) (sz : τ → Int) (Ls : List (List Sy)) : ∀ t (k : Nat) (h : k < (zW ps sz t Ls).length), (zW ps sz t Ls)[k] = sz ((Ls.take (k + 1)).foldl ps t) := by
  induction Ls with
  | nil => intro t k h; simp [zW] at h
  | cons L Ls ih =>
    intro t k h
    cases k with
    | zero => simp [zW]
    | succ k => simp only [zW, List.getElem_cons_succ]; rw [ih]; simp
theorem foldl_s (f : τ → List Sy → τ) (t : τ) {l : List (List Sy)} {k : Nat} (h : k < l.length) : (l.take (k + 1)).foldl f t = f ((l.take k).foldl f t) l[k] := by
  rw [take_s h, List.foldl_append]; rfl
end
/-- Probabilities begun anew, if it is asked for. -/
def rst (r : Bool) (x : Am.X) : Am.X := if r then (List.replicate x.1.length 2048, x.2) else x
/-- A pass through the arithmetic coder. -/
def eP (r : Bool) (x : Am.X) (L : List Sy) : Am.X := Am.run (rst r x) L
/-- A pass through the raw writer. -/
def rP (l : List Int) (L : List Sy) : List Int := l ++ L.map Prod.snd
def szR (l : List Int) : Int := (Pk.nb l.length : Int)
def szE (x : Am.X) : Int := szF x.2
theorem rst_len (r : Bool) (x : Am.X) : (rst r x).1.length = x.1.length := by unfold rst; split <;> simp
theorem rst_st (r : Bool) (x : Am.X) : (rst r x).2 = x.2 := by unfold rst; split <;> rfl
theorem rep_okx (n : Nat) {s : Am.St} (h : Am.Ok s) : Am.OkX (List.replicate n 2048, s) := ⟨fun p hp => by rw [List.eq_of_mem_replicate hp]; unfold Am.prob; omega, h⟩
theorem rst_ok (r : Bool) {x : Am.X} (h : Am.OkX x) : Am.OkX (rst r x) := by
  unfold rst; split
  · exact rep_okx _ h.st
  · exact h
theorem eP_len (r : Bool) (x : Am.X) (L : List Sy) : (eP r x L).1.length = x.1.length := by rw [eP, Am.run_len, rst_len]
theorem eP_ok (r : Bool) {x : Am.X} {n : Nat} (h : Am.OkX x) (hn : x.1.length = n) {L : List Sy} (hL : ∀ y ∈ L, Am.sym n y) : Am.OkX (eP r x L) := Am.run_ok L _ (rst_ok r h) ((rst_len r x).trans hn) hL
theorem eP_n (r : Bool) {x : Am.X} {n : Nat} (h : Am.OkX x) (hn : x.1.length = n) {L : List Sy} (hL : ∀ y ∈ L, Am.sym n y) : x.2.n ≤ (eP r x L).2.n ∧ (eP r x L).2.n ≤ x.2.n + L.length := by
  have := Am.run_n L _ (rst_ok r h) ((rst_len r x).trans hn) hL
  rw [rst_st] at this
  exact this
structure EOk (n : Nat) (k : Nat) (x : Am.X) : Prop where
  ok : Am.OkX x
  len : x.1.length = n
  le : x.2.n ≤ k
theorem EOk.run {n k : Nat} {x : Am.X} (h : EOk n k x) {L : List Sy} (hL : ∀ y ∈ L, Am.sym n y) : EOk n (k + L.length) (Am.run x L) :=
  ⟨Am.run_ok L _ h.ok h.len hL, (Am.run_len _ _).trans h.len, by have := Am.run_n L _ h.ok h.len hL; have := h.le; omega⟩
theorem EOk.rst {n k : Nat} {x : Am.X} (h : EOk n k x) (r : Bool) : EOk n k (rst r x) := ⟨rst_ok r h.ok, (rst_len r x).trans h.len, by rw [rst_st]; exact h.le⟩
theorem EOk.eP {n k : Nat} {x : Am.X} (h : EOk n k x) (r : Bool) {L : List Sy} (hL : ∀ y ∈ L, Am.sym n y) : EOk n (k + L.length) (eP r x L) := (h.rst r).run hL
/-- What a coded block has got so far: passes, probabilities, entries, bytes. -/
structure Cd where
  k : Nat
  P : List Int
  E : List Int
  D : List Int
def cdZ (m : Mo) (c : Cd) (Ls : List (List Sy)) : List Int := if rawM (c.k : Int) m.b then zW rP szR [] Ls else zW (eP m.s) szE (c.P, Am.St.init) Ls
def cdB (m : Mo) (c : Cd) (Ls : List (List Sy)) : List Int := if rawM (c.k : Int) m.b then Pk.seg (Ls.foldl rP []) else Am.cw (Ls.foldl (eP m.s) (c.P, Am.St.init)).2
def cdP (m : Mo) (c : Cd) (Ls : List (List Sy)) : List Int := if rawM (c.k : Int) m.b then c.P else (Ls.foldl (eP m.s) (c.P, Am.St.init)).1
def cdE (m : Mo) (c : Cd) (Ls : List (List Sy)) : List Int := (cdZ m c Ls).map fun z => (c.D.length : Int) + min z ((cdB m c Ls).length : Int)
def cdN (m : Mo) (A : List (List Sy)) (c : Cd) (n : Nat) : Cd := ⟨c.k + n, cdP m c ((A.drop c.k).take n), c.E ++ cdE m c ((A.drop c.k).take n), c.D ++ cdB m c ((A.drop c.k).take n)⟩
def cd0 : Cd := ⟨0, List.replicate 19 2048, [], []⟩
def cdL (m : Mo) (A : List (List Sy)) (ns : List Int) : Cd := ns.foldl (fun c n => cdN m A c n.toNat) cd0
def cdA (m : Mo) (A : List (List Sy)) : Cd := cdL m A (segs A.length m.b m.r)
theorem cdZ_len (m : Mo) (c : Cd) (Ls : List (List Sy)) : (cdZ m c Ls).length = Ls.length := by unfold cdZ; split <;> exact zW_len _ _ _ _
theorem cdE_len (m : Mo) (c : Cd) (Ls : List (List Sy)) : (cdE m c Ls).length = Ls.length := by unfold cdE; rw [List.length_map, cdZ_len]
/-- The passes of a segment. -/
def cut9 (A : List (List Sy)) (k n : Nat) : List (List Sy) := (A.drop k).take n
theorem cut9_len (A : List (List Sy)) (k n : Nat) (h : k + n ≤ A.length) : (cut9 A k n).length = n := by unfold cut9; rw [List.length_take, List.length_drop]; omega
/-- All segments together: as many passes as there are, none empty. -/
def sumI (l : List Int) : Int := l.foldl (· + ·) 0
theorem sumI_snoc (l : List Int) (x : Int) : sumI (l ++ [x]) = sumI l + x := by unfold sumI; rw [List.foldl_append]; rfl
theorem sumI_app (l : List Int) : ∀ m : List Int, sumI (l ++ m) = sumI l + sumI m := by
  intro m
  induction m using Am.rev_ind with
  | h0 => simp [sumI]
  | h1 m x ih => rw [← List.append_assoc, sumI_snoc, ih, sumI_snoc]; omega
theorem bump_snoc (l : List Int) (x : Int) : bump (l ++ [x]) = l ++ [x + 1] := bump_app l x
theorem segC_ne (b r : Bool) (k : Nat) : ∃ l x, segC b r (k + 1) = l ++ [x] := by
  have h := segC_len b r (k + 1)
  rcases Am.rev_ind (p := fun l => l.length = 0 ∨ ∃ l' x, l = l' ++ [x]) (.inl rfl) (fun l x _ => .inr ⟨l, x, rfl⟩) (segC b r (k + 1)) with h1 | h1
  · omega
  · exact h1
/-- A pass more: a segment more, or the last one grown. -/
theorem segC_step (b r : Bool) (k : Nat) : segC b r (k + 1) = segC b r k ++ [1] ∧ newSeg b r k = true ∨ ∃ l x, segC b r k = l ++ [x] ∧ segC b r (k + 1) = l ++ [x + 1] ∧ newSeg b r k = false ∧ 1 ≤ k := by
  by_cases hn : newSeg b r k = true
  · left
    refine ⟨?_, hn⟩
    rw [segC, if_pos hn, bump_snoc]
    rfl
  · right
    have hk : k ≠ 0 := by intro h; subst h; simp [newSeg] at hn
    obtain ⟨j, rfl⟩ : ∃ j, k = j + 1 := ⟨k - 1, by omega⟩
    obtain ⟨l, x, h⟩ := segC_ne b r j
    refine ⟨l, x, h, ?_, by simpa using hn, by omega⟩
    rw [segC, if_neg hn, h, bump_snoc]
theorem segC_sum (b r : Bool) (k : Nat) : sumI (segC b r k) = k ∧ ∀ x ∈ segC b r k, 1 ≤ x := by
  induction k with
  | zero => exact ⟨rfl, by intro x hx; simp [segC] at hx⟩
  | succ k ih =>
    rcases segC_step b r k with ⟨h, -⟩ | ⟨l, x, h1, h2, -, -⟩
    · rw [h, sumI_snoc, ih.1]
      exact ⟨by omega, fun y hy => by rcases List.mem_append.1 hy with h | h; exact ih.2 y h; simp at h; omega⟩
    · rw [h1, sumI_snoc] at ih
      rw [h2, sumI_snoc]
      refine ⟨by omega, fun y hy => ?_⟩
      rcases List.mem_append.1 hy with h | h
      · exact ih.2 y (by simp [h])
      · simp at h; have := ih.2 x (by simp); omega
/-- Where a segment begins. -/
def atS (ns : List Int) (i : Nat) : Nat := (sumI (ns.take i)).toNat
theorem sumI_pos {l : List Int} (h : ∀ x ∈ l, 1 ≤ x) : (l.length : Int) ≤ sumI l := by
  induction l using Am.rev_ind with
  | h0 => simp [sumI]
  | h1 l x ih =>
    rw [sumI_snoc, List.length_append]
    have := ih fun y hy => h y (by simp [hy])
    have := h x (by simp)
    simp; omega
theorem atS_step {ns : List Int} (h : ∀ x ∈ ns, 1 ≤ x) {i : Nat} (hi : i < ns.length) : atS ns (i + 1) = atS ns i + ns[i].toNat ∧ 1 ≤ ns[i].toNat ∧ (ns[i].toNat : Int) = ns[i] := by
  have h1 := h _ (List.getElem_mem hi)
  have h2 := sumI_pos (l := ns.take i) fun x hx => h x (List.mem_of_mem_take hx)
  have h3 : sumI (ns.take (i + 1)) = sumI (ns.take i) + ns[i] := by rw [take_s hi, sumI_snoc]
  unfold atS
  rw [h3]
  omega
theorem atS_le {ns : List Int} (h : ∀ x ∈ ns, 1 ≤ x) (i : Nat) : atS ns i ≤ (sumI ns).toNat := by
  have h1 := sumI_app (ns.take i) (ns.drop i)
  rw [List.take_append_drop] at h1
  have h2 := sumI_pos (l := ns.drop i) fun x hx => h x (List.mem_of_mem_drop hx)
  unfold atS
  omega
theorem atS_all (ns : List Int) : atS ns ns.length = (sumI ns).toNat := by unfold atS; rw [List.take_length]
/-- What is coded behind the first segments. -/
def cdI (m : Mo) (A : List (List Sy)) (ns : List Int) (i : Nat) : Cd := cdL m A (ns.take i)
theorem cdI_zero (m : Mo) (A : List (List Sy)) (ns : List Int) : cdI m A ns 0 = cd0 := rfl
theorem cdI_step (m : Mo) (A : List (List Sy)) {ns : List Int} {i : Nat} (hi : i < ns.length) : cdI m A ns (i + 1) = cdN m A (cdI m A ns i) ns[i].toNat := by
  unfold cdI cdL; rw [take_s hi, List.foldl_append]; rfl
theorem cdI_all (m : Mo) (A : List (List Sy)) (ns : List Int) : cdI m A ns ns.length = cdL m A ns := by unfold cdI; rw [List.take_length]
theorem cdI_k (m : Mo) (A : List (List Sy)) {ns : List Int} (h : ∀ x ∈ ns, 1 ≤ x) (i : Nat) (hi : i ≤ ns.length) : (cdI m A ns i).k = atS ns i := by
  induction i with
  | zero => rfl
  | succ i ih => rw [cdI_step m A (by omega), (atS_step h (by omega)).1, ← ih (by omega)]; rfl
theorem cdI_E (m : Mo) (A : List (List Sy)) {ns : List Int} (h : ∀ x ∈ ns, 1 ≤ x) (hA : sumI ns = A.length) (i : Nat) (hi : i ≤ ns.length) : (cdI m A ns i).E.length = atS ns i := by
  induction i with
  | zero => rfl
  | succ i ih =>
    have h1 := atS_step h (show i < ns.length by omega)
    have h2 := atS_le h (i + 1)
    rw [cdI_step m A (by omega), h1.1, ← ih (by omega)]
    unfold cdN
    dsimp only
    rw [List.length_append, cdE_len]
    congr 1
    exact cut9_len A _ _ (by rw [cdI_k m A h i (by omega)]; omega)
end Go.Proofs.YtklchodbnjebnaaDoor
set_option maxRecDepth 100000
namespace Go.Proofs.YtklchodbnjebnaaDoor
open Go.RowKit

/-- Pairs of numbers as a symbol's value. -/
def syV (y : Sy) : Value := .agg #[.int .i64 y.1, .int .i64 y.2]
def WtrT (out : List Int) (fin : World → Prop) (a : Nat) (w : World) (e : Ending) (w' : World) : Prop :=
  ∃ sl m, e = .returned (.slice sl out.length m) ∧ HoldsB w' sl out ∧ out.length ≤ m ∧ (∀ p, sl = some p → ∃ ds, Blk w' p.block 5 ds) ∧ (sl = none → out = [] ∧ m = 0) ∧ fin w' ∧ Kp a w w'
/-- A writer behind an interface value: the object that it writes into, its state. -/
structure Wtr where
  τ : Type
  a : Nat
  B : Nat
  T : TypeId
  x : Value
  I : World → τ → Prop
  wr : τ → Sy → τ
  rs : τ → τ
  sz : τ → Int
  out : τ → List Int
  fin : τ → τ
  n : τ → Nat
  sy : Sy → Prop
  fw : Nat
  fr : Nat
  fs : Nat
  ft : Nat
  rw : Value
  rr : Value
  rsz : Value
  rt : Value
  mw : ∀ w, (method 303 T x "wavelet/blockenc.write").run Tryd.prog w = .ok (fw, rw) w
  mr : ∀ w, (method 303 T x "Reset").run Tryd.prog w = .ok (fr, rr) w
  ms : ∀ w, (method 303 T x "Size").run Tryd.prog w = .ok (fs, rsz) w
  mt : ∀ w, (method 303 T x "Terminate").run Tryd.prog w = .ok (ft, rt) w
  ew : ∀ args w, (callFunc fw args).run Tryd.prog w = .ok (.enter fw args) w
  er : ∀ args w, (callFunc fr args).run Tryd.prog w = .ok (.enter fr args) w
  es : ∀ args w, (callFunc fs args).run Tryd.prog w = .ok (.enter fs args) w
  et : ∀ args w, (callFunc ft args).run Tryd.prog w = .ok (.enter ft args) w
  lt : ∀ {W : World} {t : τ}, I W t → a < W.heap.size
  fl : ∀ {W : World} {t : τ}, I W t → ∀ k, Fp W a k → k < W.heap.size
  fp : ∀ {W : World} {t : τ}, I W t → ∀ k, Fp W a k → B ≤ k
  keep : ∀ {W W' : World} {t : τ}, I W t → (∀ k, Fp W a k → W'.heap[k]? = W.heap[k]?) → I W' t
  cw : ∀ {W : World} {t : τ} {y : Sy}, I W t → sy y → n t ≤ 1000000 → Calls Tryd.prog fw #[rw, syV y] W fun e w' => e = .returned (.tuple #[]) ∧ I w' (wr t y) ∧ Kp a W w'
  cr : ∀ {W : World} {t : τ}, I W t → Calls Tryd.prog fr #[rr] W fun e w' => e = .returned (.tuple #[]) ∧ I w' (rs t) ∧ Kp a W w'
  cs : ∀ {W : World} {t : τ}, I W t → n t ≤ 1000000 → Calls Tryd.prog fs #[rsz] W fun e w' => e = .returned (.int .i64 (sz t)) ∧ W = w'
  ct : ∀ {W : World} {t : τ}, I W t → n t ≤ 1000000 → Calls Tryd.prog ft #[rt] W (WtrT (out t) (fun w' => I w' (fin t)) a W)
  nw : ∀ {W : World} {t : τ} {y : Sy}, I W t → sy y → n (wr t y) ≤ n t + 1
  nr : ∀ t, n (rs t) = n t
/-- What the arithmetic coder's writer is in. -/
def IE (B a : Nat) (W : World) (x : Am.X) : Prop := AEc W B a x ∧ Am.OkX x ∧ x.1.length = 19
theorem ewritec_c (W : World) (B a : Nat) (x : Am.X) (y : Sy) (h : IE B a W x) (hy : Am.sym 19 y) (hn : x.2.n ≤ 1000000) : Calls Tryd.prog 131 #[.agg #[.pointer (some ⟨a, 0, none⟩)], syV y] W fun e w' => e = .returned (.tuple #[]) ∧ IE B a w' (Am.step x y) ∧ Kp a W w' := by
  obtain ⟨h1, h2, h3⟩ := h
  obtain ⟨c, b⟩ := y
  have hA := below_alloc (below_alloc (Below.refl _ W) (.cells #[.pointer (some ⟨a, 0, none⟩)] 78)) (.cells #[.int .i64 c, .int .i64 b] 104)
  have he := enc_y _ B a x c b (h1.below hA) h2 ⟨hy.1, by rw [h3]; exact hy.2.1, hy.2.2⟩ (by omega) hn
  have hK := Lib.hid (Kp.of_below hA h1.lt)
  have H3 := Lib.hid (show Am.OkX (Am.step x (c, b)) ∧ (Am.step x (c, b)).1.length = 19 from ⟨Am.step_ok h2 hy.1 (by rw [h3]; exact hy.2.1), (Am.step_len _ _).trans h3⟩)
  clear h1 h2 h3 hA hy hn
  unfold syV
  dsimp only
  go_enter Tryd.func131, Tryd.ntmps131
  go_wp2_with (first | (go_at_call 132; (with_reducible refine he.mono ?_); rintro e w1 ⟨rfl, hE1, hK1⟩; have E1 := Lib.hid hE1; have K1 := Lib.hid (hK.out.trans hK1); clear hE1 hK1))
  go_end0
  exact ⟨rfl, ⟨E1.out, H3.out⟩, K1.out⟩
theorem IE.reset {W : World} {B a : Nat} {x : Am.X} (h : IE B a W x) : Calls Tryd.prog 111 #[.pointer (some ⟨a, 0, none⟩)] W fun e w' => e = .returned (.tuple #[]) ∧ IE B a w' (rst true x) ∧ Kp a W w' := by
  obtain ⟨h1, h2, h3⟩ := h
  refine (ereset_c W B a x h1 (by omega) (by omega)).mono fun e w' z => ⟨z.1, ⟨?_, rst_ok true h2, (rst_len true x).trans h3⟩, z.2.2⟩
  exact z.2.1
theorem IE.term {W : World} {B a : Nat} {x : Am.X} (h : IE B a W x) (hn : x.2.n ≤ 1000000) : Calls Tryd.prog 113 #[.pointer (some ⟨a, 0, none⟩)] W (WtrT (Am.cw x.2) (fun w' => IE B a w' (x.1, Am.St.init)) a W) := by
  obtain ⟨h1, h2, h3⟩ := h
  refine (eterm2_c W B a x h1 h2.st hn).mono fun e w' z => ?_
  obtain ⟨sl, m, e1, e2, e3, e4, e5, e6, e7⟩ := z
  exact ⟨sl, m, e1, e2, e3, fun p hp => (e4 p hp).2.1, e5, ⟨e6, ⟨h2.ps, Am.ok_init⟩, h3⟩, e7⟩
/-- The arithmetic coder behind the interface. -/
def wtrE (B a : Nat) : Wtr where
  τ := Am.X
  a := a
  B := B
  T := 78
  x := .agg #[.pointer (some ⟨a, 0, none⟩)]
  I := IE B a
  wr := Am.step
  rs := rst true
  sz := szE
  out := fun x => Am.cw x.2
  fin := fun x => (x.1, Am.St.init)
  n := fun x => x.2.n
  sy := Am.sym 19
  fw := 131
  fr := 111
  fs := 112
  ft := 113
  rw := .agg #[.pointer (some ⟨a, 0, none⟩)]
  rr := .pointer (some ⟨a, 0, none⟩)
  rsz := .pointer (some ⟨a, 0, none⟩)
  rt := .pointer (some ⟨a, 0, none⟩)
  mw := fun _ => by kernel_rfl
  mr := fun _ => by kernel_rfl
  ms := fun _ => by kernel_rfl
  mt := fun _ => by kernel_rfl
  ew := enters_of (fn := Tryd.f131) (by kernel_rfl) (by kernel_rfl) rfl
  er := enters_of (fn := Tryd.f111) (by kernel_rfl) (by kernel_rfl) rfl
  es := enters_of (fn := Tryd.f112) (by kernel_rfl) (by kernel_rfl) rfl
  et := enters_of (fn := Tryd.f113) (by kernel_rfl) (by kernel_rfl) rfl
  lt := fun h => h.1.lt
  fl := fun h => h.1.fl
  fp := fun h k hk => (h.1.fp k hk).1
  keep := fun h hk => ⟨h.1.keep hk, h.2⟩
  cw := fun h hy hn => ewritec_c _ B a _ _ h hy hn
  cr := fun h => h.reset
  cs := fun h hn => esize_c _ B a _ h.1 (by omega)
  ct := fun h hn => h.term hn
  nw := fun {W t y} h hy => (Am.enc_n y.2 h.2.1.st (Am.pr_prob h.2.1 hy.1 (by rw [h.2.2]; exact hy.2.1))).2
  nr := fun t => rfl
def IR (B a : Nat) (W : World) (l : List Int) : Prop := Rw W B a l ∧ Pk.bits l
theorem ewriter_c (W : World) (B a : Nat) (l : List Int) (y : Sy) (h : IR B a W l) (hy : y.2 = 0 ∨ y.2 = 1) (hn : l.length ≤ 1000000) : Calls Tryd.prog 139 #[.agg #[.pointer (some ⟨a, 0, none⟩)], syV y] W fun e w' => e = .returned (.tuple #[]) ∧ IR B a w' (l ++ [y.2]) ∧ Kp a W w' := by
  obtain ⟨h1, h2⟩ := h
  obtain ⟨c, b⟩ := y
  dsimp only at hy
  have hA := below_alloc (below_alloc (Below.refl _ W) (.cells #[.pointer (some ⟨a, 0, none⟩)] 83)) (.cells #[.int .i64 c, .int .i64 b] 104)
  have he := aPut_c _ B a l b (h1.below hA) h2 (by omega)
  have hK := Lib.hid (Kp.of_below hA h1.lt)
  have H3 := Lib.hid (show Pk.bits (l ++ [b]) from Pk.bits_snoc h2 hy)
  rw [show putL l b = l ++ [b] from if_pos hy, show putE b = 0 from if_pos hy] at he
  clear h1 h2 hA hy hn
  unfold syV
  dsimp only
  go_enter Tryd.func139, Tryd.ntmps139
  go_wp2_with (first | (go_at_call 140; (with_reducible refine he.mono ?_); rintro e w1 ⟨rfl, hE1, hK1⟩; have E1 := Lib.hid hE1; have K1 := Lib.hid (hK.out.trans hK1); clear hE1 hK1))
  go_end0
  exact ⟨rfl, ⟨E1.out, H3.out⟩, K1.out⟩
theorem eresetr_c (W : World) (a : Nat) : Calls Tryd.prog 138 #[.agg #[.pointer (some ⟨a, 0, none⟩)]] W fun e w' => e = .returned (.tuple #[]) ∧ Below W.heap.size W w' := by
  have hA := Lib.hid (below_alloc (Below.refl _ W) (.cells #[.pointer (some ⟨a, 0, none⟩)] 83))
  go_enter Tryd.func138, Tryd.ntmps138
  go_wp2_with fail
  go_end0
  exact ⟨rfl, hA.out⟩
theorem IR.term {W : World} {B a : Nat} {l : List Int} (h : IR B a W l) (hn : l.length ≤ 1000000) : Calls Tryd.prog 129 #[.pointer (some ⟨a, 0, none⟩)] W (WtrT (Pk.seg l) (fun w' => IR B a w' []) a W) := by
  obtain ⟨h1, h2⟩ := h
  refine (wterm_c W B a l h1 (by omega)).mono fun e w' z => ?_
  obtain ⟨sl, m, e1, e2, e3, e4, e5, e6, e7⟩ := z
  exact ⟨sl, m, e1, e2, e3, fun p hp => (e4 p hp).2, e5, ⟨e6, Pk.bits_nil⟩, e7⟩
/-- The raw writer behind the interface. -/
def wtrR (B a : Nat) : Wtr where
  τ := List Int
  a := a
  B := B
  T := 83
  x := .agg #[.pointer (some ⟨a, 0, none⟩)]
  I := IR B a
  wr := fun l y => l ++ [y.2]
  rs := id
  sz := szR
  out := Pk.seg
  fin := fun _ => []
  n := List.length
  sy := fun y => y.2 = 0 ∨ y.2 = 1
  fw := 139
  fr := 138
  fs := 128
  ft := 129
  rw := .agg #[.pointer (some ⟨a, 0, none⟩)]
  rr := .agg #[.pointer (some ⟨a, 0, none⟩)]
  rsz := .pointer (some ⟨a, 0, none⟩)
  rt := .pointer (some ⟨a, 0, none⟩)
  mw := fun _ => by kernel_rfl
  mr := fun _ => by kernel_rfl
  ms := fun _ => by kernel_rfl
  mt := fun _ => by kernel_rfl
  ew := enters_of (fn := Tryd.f139) (by kernel_rfl) (by kernel_rfl) rfl
  er := enters_of (fn := Tryd.f138) (by kernel_rfl) (by kernel_rfl) rfl
  es := enters_of (fn := Tryd.f128) (by kernel_rfl) (by kernel_rfl) rfl
  et := enters_of (fn := Tryd.f129) (by kernel_rfl) (by kernel_rfl) rfl
  lt := fun h => h.1.lt
  fl := fun h => h.1.fl
  fp := fun h k hk => (h.1.fp k hk).1
  keep := fun h hk => ⟨h.1.keep hk, h.2⟩
  cw := fun h hy hn => ewriter_c _ B a _ _ h hy hn
  cr := fun {W t} h => (eresetr_c W a).mono fun e w' z => ⟨z.1, ⟨h.1.below z.2, h.2⟩, Kp.of_below z.2 h.1.lt⟩
  cs := fun h hn => wsize_c _ B a _ h.1 (by omega)
  ct := fun h hn => h.term hn
  nw := fun {W t y} h hy => by simp
  nr := fun t => rfl
end Go.Proofs.YtklchodbnjebnaaDoor
set_option maxRecDepth 100000
namespace Go.Proofs.YtklchodbnjebnaaDoor
open Go.RowKit

/-- A pass of a writer. -/
def Wtr.ps (O : Wtr) (r : Bool) (t : O.τ) (L : List Sy) : O.τ := L.foldl O.wr (if r then O.rs t else t)
theorem Wtr.out9 (O : Wtr) {w0 W W1 : World} {t : O.τ} (h : O.I W t) (hB : O.B = w0.heap.size) (hb : Below w0.heap.size w0 W) (k : Kp O.a W W1) : Below w0.heap.size w0 W1 :=
  hb.trans (k.below (fun i hi => by have := O.fp h i hi; omega) hb.size)
/-- While the passes of a segment are written. -/
structure Sgm (O : Wtr) (w0 w : World) (t : O.τ) (zs : List Int) (sv : Value) (W : World) : Prop where
  i : O.I W t
  kp : Kp O.a w W
  out : Below w0.heap.size w0 W
  row : W.ownsRow w.heap.size 3 1 sv zs.length (zs.map (Value.int .i64))
  far : ∀ k, sv.ownBlock = some k → ¬ Fp W O.a k
  le : w0.heap.size ≤ w.heap.size
  base : O.B = w0.heap.size
section
variable {O : Wtr} {w0 w W W1 : World} {t t' : O.τ} {zs : List Int} {sv : Value}
theorem Sgm.lt (h : Sgm O w0 w t zs sv W) {k : Nat} (hk : sv.ownBlock = some k) : k < W.heap.size := by
  obtain ⟨_, ds, hb⟩ := own_foot h.row hk
  exact hb.lt
theorem Sgm.step (h : Sgm O w0 w t zs sv W) (hb : Below W.heap.size W W1) : Sgm O w0 w t zs sv W1 :=
  ⟨O.keep h.i fun k hk => hb.block k (O.fl h.i k hk), h.kp.trans (Kp.of_below hb (O.lt h.i)), below_call h.out hb, own_below h.row hb, fun k hk hf => h.far k hk ((fp_same (hb.block O.a (O.lt h.i)) k).1 hf), h.le, h.base⟩
theorem Sgm.call (h : Sgm O w0 w t zs sv W) (he : O.I W1 t') (hk : Kp O.a W W1) : Sgm O w0 w t' zs sv W1 :=
  ⟨he, h.kp.trans hk, O.out9 h.i h.base h.out hk, own_keep h.row fun k ho => hk.block k (h.lt ho) (h.far k ho), fun k ho hf => (hk.foot k hf).elim (h.far k ho) fun hge => by have := h.lt ho; omega, h.le, h.base⟩
theorem Sgm.grow (h : Sgm O w0 w t zs sv W) {X : Obj} {w2 : World} {v' : Value} {z : Int} (hown : w2.ownsRow w.heap.size 3 1 v' (zs.length + 1) (zs.map (Value.int .i64) ++ [.int .i64 z])) (hg : (W.alloc X).grownBy w2 sv.ownBlock) (hat : v'.ownBlock = sv.ownBlock ∨ v'.ownBlock = some (W.alloc X).heap.size) :
    Sgm O w0 w t (zs ++ [z]) v' w2 := by
  have hsame : ∀ k, k < W.heap.size → sv.ownBlock ≠ some k → w2.heap[k]? = W.heap[k]? := fun k hk hne => (hg.block k (by simp; omega) (fun e => hne e.symm)).trans (Below.heap_alloc W X k hk)
  have ha := hsame O.a (O.lt h.i) (fun e => h.far O.a e (.inl rfl))
  have hsz : W.heap.size ≤ w2.heap.size := by have := hg.size; simp at this; omega
  have hle : ∀ k, sv.ownBlock = some k → w.heap.size ≤ k := fun k hk => (own_foot h.row hk).1
  have hks := h.kp.size
  refine ⟨O.keep h.i fun k hk => hsame k (O.fl h.i k hk) fun e => h.far k e hk, ⟨hg.os.trans h.kp.os, hg.tape.trans h.kp.tape, hg.output.trans h.kp.output, Nat.le_trans hks hsz, fun k hk hf => ?_, fun k hk => h.kp.foot k ((fp_same ha k).1 hk)⟩,
    ⟨hg.os.trans h.out.os, hg.tape.trans h.out.tape, hg.output.trans h.out.output, Nat.le_trans h.out.size hsz, fun k hk => ?_⟩, by simpa using hown, fun k hk hf => ?_, h.le, h.base⟩
  · exact (hsame k (by omega) fun e => by have := hle k e; omega).trans (h.kp.block k hk hf)
  · have := h.le
    exact (hsame k (by omega) fun e => by have := hle k e; omega).trans (h.out.block k hk)
  · have hf' := (fp_same ha k).1 hf
    rcases hat with e | e
    · exact h.far k (e ▸ hk) hf'
    · have := O.fl h.i k hf'
      rw [e] at hk
      simp at hk
      omega
end
/-- Behind segment: the sizes, the bytes. -/
def SegDone (O : Wtr) (w0 : World) (t : O.τ) (Ls : List (List Sy)) (r : Bool) (w : World) (e : Ending) (w' : World) : Prop :=
  ∃ ss p sl ml, e = .returned (.tuple #[.slice ss Ls.length p, .slice sl (O.out (Ls.foldl (O.ps r) t)).length ml]) ∧ HoldsB w' sl (O.out (Ls.foldl (O.ps r) t)) ∧ (∀ p, sl = some p → ∃ ds, Blk w' p.block 5 ds) ∧ (sl = none → O.out (Ls.foldl (O.ps r) t) = [] ∧ ml = 0) ∧
    Sgm O w0 w (O.fin (Ls.foldl (O.ps r) t)) (zW (O.ps r) O.sz t Ls) (.slice ss Ls.length p) w'
set_option maxHeartbeats 8000000 in
theorem segment_c (O : Wtr) (w0 w : World) (t : O.τ) (Ls : List (List Sy)) (s : Option Addr) (m : Nat) (r : Bool) (hB : O.B = w0.heap.size) (hb : Below w0.heap.size w0 w) (hZ : HoldsZ w0 s Ls) (hi : O.I w t) (hs : ∀ L ∈ Ls, L.length ≤ 1000 ∧ ∀ y ∈ L, O.sy y) (hl : Ls.length ≤ 178) (hn : O.n t = 0) :
    Calls Tryd.prog 38 #[.iface O.T O.x, .slice s Ls.length m, .bool r] w (SegDone O w0 t Ls r w) := by
  obtain ⟨i0, hi1, hz0, hz1, hz2⟩ := info_parts infoI
  have HO := Lib.hid hZ
  have HS := Lib.hid hs
  have HL := Lib.hid hl
  have hmw := O.mw
  have hmr := O.mr
  have hms := O.ms
  have hmt := O.mt
  have hew := O.ew
  have her := O.er
  have hes := O.es
  have het := O.et
  have kw := fun (W : World) (t : O.τ) (y : Sy) => O.cw (W := W) (t := t) (y := y)
  have kr := fun (W : World) (t : O.τ) => O.cr (W := W) (t := t)
  have ks := fun (W : World) (t : O.τ) => O.cs (W := W) (t := t)
  have kt := fun (W : World) (t : O.τ) => O.ct (W := W) (t := t)
  obtain ⟨fw, hfw⟩ : ∃ f, f = O.fw := ⟨_, rfl⟩
  obtain ⟨fr, hfr⟩ : ∃ f, f = O.fr := ⟨_, rfl⟩
  obtain ⟨fs, hfs⟩ : ∃ f, f = O.fs := ⟨_, rfl⟩
  obtain ⟨ft, hft⟩ : ∃ f, f = O.ft := ⟨_, rfl⟩
  obtain ⟨rw1, hrw⟩ : ∃ f, f = O.rw := ⟨_, rfl⟩
  obtain ⟨rr1, hrr⟩ : ∃ f, f = O.rr := ⟨_, rfl⟩
  obtain ⟨rs1, hrs⟩ : ∃ f, f = O.rsz := ⟨_, rfl⟩
  obtain ⟨rt1, hrt⟩ : ∃ f, f = O.rt := ⟨_, rfl⟩
  rw [← hfw] at hew hmw kw
  rw [← hfr] at her hmr kr
  rw [← hfs] at hes hms ks
  rw [← hft] at het hmt kt
  rw [← hrw] at hmw kw
  rw [← hrr] at hmr kr
  rw [← hrs] at hms ks
  rw [← hrt] at hmt kt
  have KW := Lib.hid kw
  have KR := Lib.hid kr
  have KS := Lib.hid ks
  have KT := Lib.hid kt
  clear kw kr ks kt
  obtain ⟨T0, hT0⟩ : ∃ f, f = O.T := ⟨_, rfl⟩
  obtain ⟨x0', hx0⟩ : ∃ f, f = O.x := ⟨_, rfl⟩
  rw [← hT0, ← hx0] at hmw hmr hms hmt ⊢
  clear hT0 hx0 hfw hfr hfs hft hrw hrr hrs hrt
  have hI : Hid (Sgm O w0 w t [] (.slice none 0 0) w) := ⟨hi, Kp.refl _ _, hb, World.ownsRow_nil _ _ _ _, fun k hk => by simp [Value.ownBlock] at hk, hb.size, hB⟩
  have HN0 := Lib.hid (show O.n t ≤ 1000 * 0 by omega)
  clear hB hb hZ hi hs hl hn
  go_enter Tryd.func38, Tryd.ntmps38
  go_wp2_with fail
  go_loopw [6, 14] (fun z i wr => ∃ (k : Nat) (sv : Value), k ≤ Ls.length ∧ i = .int .i64 (k : Int) ∧ z = sv ∧ Hid (Sgm O w0 w ((Ls.take k).foldl (O.ps r) t) (zW (O.ps r) O.sz t (Ls.take k)) sv wr) ∧ Hid (O.n ((Ls.take k).foldl (O.ps r) t) ≤ 1000 * k)) (fun _ i _ => Ls.length - (intOf i).toNat)
  case atStart => exact ⟨0, _, Nat.zero_le _, rfl, rfl, hI, HN0⟩
  case round =>
    obtain ⟨k, sv, hk, rfl, hz6, hT, hN⟩ := hrel
    have hrow := hT.out.row
    rw [zW_len, List.length_take, Nat.min_eq_left hk] at hrow
    obtain ⟨s5, m5, rfl⟩ := own_slice hrow
    subst hz6
    clear hrow
    by_cases hlt : k < Ls.length
    · obtain ⟨bo, off, sk, mk, rfl, c00, hY⟩ := HO.out.at hlt
      have c0 := (hT.out.out.cell (p := ⟨bo, off + k, none⟩) (cell_lt c00)).trans c00
      have HY := Lib.hid hY
      have hsy := HS.out _ (List.getElem_mem hlt)
      have hst : Hid ((Ls.take (k + 1)).foldl (O.ps r) t = O.ps r ((Ls.take k).foldl (O.ps r) t) Ls[k]) := by show _ = _; rw [foldl_s _ _ hlt]
      have hzt : Hid (zW (O.ps r) O.sz t (Ls.take (k + 1)) = zW (O.ps r) O.sz t (Ls.take k) ++ [O.sz ((Ls.take (k + 1)).foldl (O.ps r) t)]) := by show _ = _; rw [foldl_s _ _ hlt, take_s hlt, zW_snoc]
      obtain ⟨L, hL⟩ : ∃ q, q = Ls[k] := ⟨_, rfl⟩
      rw [← hL] at c0 hsy hst HY
      clear hL c00 hY
      obtain ⟨n1, hn1⟩ : ∃ q, q = L.length := ⟨_, rfl⟩
      have HN1 := Lib.hid hn1
      rw [← hn1] at c0
      have SY := Lib.hid hsy
      obtain ⟨t0, ht0⟩ : ∃ q, q = (Ls.take k).foldl (O.ps r) t := ⟨_, rfl⟩
      obtain ⟨z0, hzz⟩ : ∃ q, q = zW (O.ps r) O.sz t (Ls.take k) := ⟨_, rfl⟩
      rw [← ht0] at hT hN hst
      rw [← hzz] at hT hzt
      have HZL := Lib.hid (show z0.length = k by rw [hzz, zW_len, List.length_take]; omega)
      have HLT := Lib.hid hlt
      have HK := Lib.hid hk
      clear hsy hn1 ht0 hzz hk
      have kr := KR.out _ _ hT.out.i
      have nr := Lib.hid (O.nr t0)
      cases r with
      | false =>
        have T1 := hT
        obtain ⟨t1, ht1⟩ : ∃ q, q = t0 := ⟨_, rfl⟩
        have HT1 := Lib.hid ht1
        clear kr
        skip
        go_wp2_with fail
        have T2 : Hid (Sgm O w0 w t1 z0 (.slice s5 k m5) wr) := by rw [ht1]; exact T1
        have N2 : Hid (O.n ((L.take 0).foldl O.wr t1) ≤ 1000 * k + 0) := by show O.n t1 ≤ _; rw [ht1]; have := hN.out; omega
        clear ht1 T1 hT hN hlt 
        obtain ⟨wr0, rfl⟩ : ∃ z, z = wr := ⟨_, rfl⟩
        go_loopw [23] (fun i wr => ∃ j : Nat, j ≤ n1 ∧ i = .int .i64 (j : Int) ∧ Hid (Sgm O w0 w ((L.take j).foldl O.wr t1) z0 (.slice s5 k m5) wr) ∧ Hid (O.n ((L.take j).foldl O.wr t1) ≤ 1000 * k + j)) (fun i _ => n1 - (intOf i).toNat)
        case atStart => exact ⟨0, Nat.zero_le _, rfl, T2, N2⟩
        case round =>
          obtain ⟨j, hj, rfl, hT, hN⟩ := hrel
          by_cases hjt : j < n1
          · have hjl : j < L.length := by have := HN1.out; omega
            obtain ⟨b2, o2, rfl, d0, d1⟩ := (HY.out.call hT.out.out).at hjl
            have hsj : Hid ((L.take (j + 1)).foldl O.wr t1 = O.wr ((L.take j).foldl O.wr t1) L[j]) := by show _ = _; rw [foldl_take O.wr t1 L j hjl]
            have hmem := SY.out.2 _ (List.getElem_mem hjl)
            obtain ⟨q, hq⟩ : ∃ q, q = L[j] := ⟨_, rfl⟩
            obtain ⟨q0, q1⟩ := q
            rw [← hq] at d0 d1 hsj hmem
            dsimp only at d0 d1
            clear hq
            have T0' := hT.out.step ((Below.refl _ _).alloc (Nat.le_refl _) (.cells #[.int .i64 q0, .int .i64 q1] 104))
            have hn9 : O.n ((L.take j).foldl O.wr t1) ≤ 1000000 := by have := hN.out; have := HK.out; have := HL.out; have := SY.out.1; have := HN1.out; omega
            have kw := KW.out _ _ _ T0'.i hmem hn9
            have nw := Lib.hid (O.nw T0'.i hmem)
            unfold syV at kw
            dsimp only at kw
            have HT0 := Lib.hid T0'
            have HJ := Lib.hid hjt
            have wj : IntKind.i64.wrap ((j : Int) + 1) = ((j + 1 : Nat) : Int) := by have := SY.out.1; have := HN1.out; rw [IntWalk.i64_left]; unfold wrap64; omega
            clear T0' hmem hn9 hj hjt hjl
            go_wp2_with (first | (go_at_fn fw; (with_reducible refine kw.mono ?_); rintro e W1 ⟨rfl, hE1, hK1⟩; have T3 := Lib.hid (HT0.out.call hE1 hK1); clear hE1 hK1))
            go_roundw
            case rel => exact ⟨j + 1, HJ.out, by go_num, by rw [hsj.out]; exact T3, by show _ ≤ _; rw [hsj.out]; have := nw.out; have := hN.out; omega⟩
            case measure => have := HJ.out; simp [intOf]; omega
          · obtain rfl : j = n1 := by omega
            have he : (L.take j).foldl O.wr t1 = (Ls.take (k + 1)).foldl (O.ps false) t := by
              rw [hst.out, HN1.out, List.take_length, HT1.out]; rfl
            rw [he] at hT hN
            have ks := KS.out _ _ hT.out.i (by have := hN.out; have := HK.out; have := HL.out; have := SY.out.1; have := HN1.out; omega)
            have hzt1 := hzt.out
            obtain ⟨t2, ht2⟩ : ∃ q, q = (Ls.take (k + 1)).foldl (O.ps false) t := ⟨_, rfl⟩
            rw [← ht2] at hT hN ks hzt1
            obtain ⟨z, hz⟩ : ∃ z, z = O.sz t2 := ⟨_, rfl⟩
            rw [← hz] at ks hzt1
            have HZT := Lib.hid hzt1
            have HT2 := Lib.hid ht2
            have hsv : wr.ownsRow w.heap.size 3 1 (.slice s5 k m5) k (z0.map (Value.int .i64)) := by have := hT.out.row; rwa [HZL.out] at this
            have HSV := Lib.hid hsv
            have hws : w.heap.size ≤ wr.heap.size := hT.out.kp.size
            have wk : IntKind.i64.wrap ((k : Int) + 1) = ((k + 1 : Nat) : Int) := by have := HL.out; have := HK.out; rw [IntWalk.i64_left]; unfold wrap64; omega
            have k178 : k ≤ 178 := by have := HL.out; have := HK.out; omega
            have K178 := Lib.hid k178
            clear hsv he hzt1 ht2 hz hzt hst hj k178 hjt
            go_wp2_with (first | (go_at_fn fs; (with_reducible refine ks.mono ?_); rintro e wn ⟨rfl, rfl⟩) | (at_builtin; refine wpList_append_own_at _ rfl _ _ 22 rfl w.heap.size 3 i0 (.int .i64 0) 1 8 Tryd.underlying22 hi1 hz0 hz1 hz2 rfl (by decide) _ k _ rfl (own_below HSV.out ((Below.refl _ _).alloc (Nat.le_refl _) _)) ⟨wr.heap.size, 0, none⟩ 1 1 [.int .i64 z] rfl rfl (one_new8 _ _ _) (by intro u hu; simp at hu; subst hu; rfl) (by have := K178.out; unfold maxLen; omega) (by have := K178.out; omega) (by simp; omega) ?_))
            intro v' w2 hown hgrow _ hat
            have T4 := Lib.hid (hT.out.grow (by rw [HZL.out]; exact hown) hgrow (hat.imp id fun e => e.trans (by simp)))
            clear hown hgrow hat
            go_wp2_with fail
            go_roundw
            case rel =>
              refine ⟨k + 1, v', HLT.out, by go_num, rfl, ?_, ?_⟩
              · rw [HZT.out, ← HT2.out]; exact T4
              · show _ ≤ _
                rw [← HT2.out]; have := hN.out; have := SY.out.1; have := HN1.out; omega
            case measure => have := HLT.out; simp [intOf]; omega
      | true =>
        obtain ⟨t1, ht1⟩ : ∃ q, q = (O.rs t0) := ⟨_, rfl⟩
        have HT1 := Lib.hid ht1
        clear kr
        have kr := KR.out _ _ hT.out.i
        go_wp2_with (first | (go_at_fn fr; (with_reducible refine kr.mono ?_); rintro e W1 ⟨rfl, hE1, hK1⟩; have T1 := Lib.hid (hT.out.call hE1 hK1); clear hE1 hK1))
        have T2 : Hid (Sgm O w0 w t1 z0 (.slice s5 k m5) W1) := by rw [ht1]; exact T1
        have N2 : Hid (O.n ((L.take 0).foldl O.wr t1) ≤ 1000 * k + 0) := by show O.n t1 ≤ _; rw [ht1]; have := hN.out; have := nr.out; omega
        clear ht1 T1 hT hN hlt kr
        obtain ⟨wr0, rfl⟩ : ∃ z, z = W1 := ⟨_, rfl⟩
        go_loopw [23] (fun i wr => ∃ j : Nat, j ≤ n1 ∧ i = .int .i64 (j : Int) ∧ Hid (Sgm O w0 w ((L.take j).foldl O.wr t1) z0 (.slice s5 k m5) wr) ∧ Hid (O.n ((L.take j).foldl O.wr t1) ≤ 1000 * k + j)) (fun i _ => n1 - (intOf i).toNat)
        case atStart => exact ⟨0, Nat.zero_le _, rfl, T2, N2⟩
        case round =>
          obtain ⟨j, hj, rfl, hT, hN⟩ := hrel
          by_cases hjt : j < n1
          · have hjl : j < L.length := by have := HN1.out; omega
            obtain ⟨b2, o2, rfl, d0, d1⟩ := (HY.out.call hT.out.out).at hjl
            have hsj : Hid ((L.take (j + 1)).foldl O.wr t1 = O.wr ((L.take j).foldl O.wr t1) L[j]) := by show _ = _; rw [foldl_take O.wr t1 L j hjl]
            have hmem := SY.out.2 _ (List.getElem_mem hjl)
            obtain ⟨q, hq⟩ : ∃ q, q = L[j] := ⟨_, rfl⟩
            obtain ⟨q0, q1⟩ := q
            rw [← hq] at d0 d1 hsj hmem
            dsimp only at d0 d1
            clear hq
            have T0' := hT.out.step ((Below.refl _ _).alloc (Nat.le_refl _) (.cells #[.int .i64 q0, .int .i64 q1] 104))
            have hn9 : O.n ((L.take j).foldl O.wr t1) ≤ 1000000 := by have := hN.out; have := HK.out; have := HL.out; have := SY.out.1; have := HN1.out; omega
            have kw := KW.out _ _ _ T0'.i hmem hn9
            have nw := Lib.hid (O.nw T0'.i hmem)
            unfold syV at kw
            dsimp only at kw
            have HT0 := Lib.hid T0'
            have HJ := Lib.hid hjt
            have wj : IntKind.i64.wrap ((j : Int) + 1) = ((j + 1 : Nat) : Int) := by have := SY.out.1; have := HN1.out; rw [IntWalk.i64_left]; unfold wrap64; omega
            clear T0' hmem hn9 hj hjt hjl
            go_wp2_with (first | (go_at_fn fw; (with_reducible refine kw.mono ?_); rintro e W1 ⟨rfl, hE1, hK1⟩; have T3 := Lib.hid (HT0.out.call hE1 hK1); clear hE1 hK1))
            go_roundw
            any_goals first | exact ⟨j + 1, HJ.out, by go_num, by rw [hsj.out]; exact T3, by show _ ≤ _; rw [hsj.out]; have := nw.out; have := hN.out; omega⟩ | (have := HJ.out; simp [intOf]; omega)
          · obtain rfl : j = n1 := by omega
            have he : (L.take j).foldl O.wr t1 = (Ls.take (k + 1)).foldl (O.ps true) t := by
              rw [hst.out, HN1.out, List.take_length, HT1.out]; rfl
            rw [he] at hT hN
            have ks := KS.out _ _ hT.out.i (by have := hN.out; have := HK.out; have := HL.out; have := SY.out.1; have := HN1.out; omega)
            have hzt1 := hzt.out
            obtain ⟨t2, ht2⟩ : ∃ q, q = (Ls.take (k + 1)).foldl (O.ps true) t := ⟨_, rfl⟩
            rw [← ht2] at hT hN ks hzt1
            obtain ⟨z, hz⟩ : ∃ z, z = O.sz t2 := ⟨_, rfl⟩
            rw [← hz] at ks hzt1
            have HZT := Lib.hid hzt1
            have HT2 := Lib.hid ht2
            have hsv : wr.ownsRow w.heap.size 3 1 (.slice s5 k m5) k (z0.map (Value.int .i64)) := by have := hT.out.row; rwa [HZL.out] at this
            have HSV := Lib.hid hsv
            have hws : w.heap.size ≤ wr.heap.size := hT.out.kp.size
            have wk : IntKind.i64.wrap ((k : Int) + 1) = ((k + 1 : Nat) : Int) := by have := HL.out; have := HK.out; rw [IntWalk.i64_left]; unfold wrap64; omega
            have k178 : k ≤ 178 := by have := HL.out; have := HK.out; omega
            have K178 := Lib.hid k178
            clear hsv he hzt1 ht2 hz hzt hst hj k178 hjt
            go_wp2_with (first | (go_at_fn fs; (with_reducible refine ks.mono ?_); rintro e wn ⟨rfl, rfl⟩) | (at_builtin; refine wpList_append_own_at _ rfl _ _ 22 rfl w.heap.size 3 i0 (.int .i64 0) 1 8 Tryd.underlying22 hi1 hz0 hz1 hz2 rfl (by decide) _ k _ rfl (own_below HSV.out ((Below.refl _ _).alloc (Nat.le_refl _) _)) ⟨wr.heap.size, 0, none⟩ 1 1 [.int .i64 z] rfl rfl (one_new8 _ _ _) (by intro u hu; simp at hu; subst hu; rfl) (by have := K178.out; unfold maxLen; omega) (by have := K178.out; omega) (by simp; omega) ?_))
            intro v' w2 hown hgrow _ hat
            have T4 := Lib.hid (hT.out.grow (by rw [HZL.out]; exact hown) hgrow (hat.imp id fun e => e.trans (by simp)))
            clear hown hgrow hat
            go_wp2_with fail
            go_roundw
            case rel =>
              refine ⟨k + 1, v', HLT.out, by go_num, rfl, ?_, ?_⟩
              · rw [HZT.out, ← HT2.out]; exact T4
              · show _ ≤ _
                rw [← HT2.out]; have := hN.out; have := SY.out.1; have := HN1.out; omega
            case measure => have := HLT.out; simp [intOf]; omega
    · obtain rfl : k = Ls.length := by omega
      rw [List.take_length] at hT hN
      have kt := KT.out _ _ hT.out.i (by have := hN.out; have := HL.out; omega)
      go_wp2_with (first | (go_at_fn ft; (with_reducible refine kt.mono ?_); rintro e W1 ⟨sl, ml, rfl, hH, hm1, hq, hn0, hE1, hK1⟩; have T1 := Lib.hid (hT.out.call hE1 hK1); have X1 := Lib.hid hH; have X2 := Lib.hid hq; have X3 := Lib.hid hn0; clear hE1 hK1 hH hm1 hq hn0))
      go_ret2
      exact ⟨s5, m5, sl, ml, rfl, X1.out, X2.out, X3.out, T1.out⟩
end Go.Proofs.YtklchodbnjebnaaDoor
set_option maxRecDepth 100000
namespace Go.Proofs.YtklchodbnjebnaaDoor
open Go.RowKit

theorem segs_is (p : Nat) (hp : p ≤ 178) (b r : Bool) : segs (p : Int) b r = segC b r p := by
  unfold segs
  by_cases h : (p : Int) < 1 ∨ 178 < (p : Int)
  · rw [if_pos h]
    obtain rfl : p = 0 := by omega
    rfl
  · rw [if_neg h, Int.toNat_natCast]
theorem atS_app (l m : List Int) {i : Nat} (hi : i ≤ l.length) : atS (l ++ m) i = atS l i := by
  unfold atS; rw [List.take_append_of_le_length hi]
theorem atS_end (l : List Int) : atS l l.length = (sumI l).toNat := atS_all l
theorem seg_raw (b r : Bool) (p : Nat) : ∀ i, i < (segC b r p).length → ∀ k, atS (segC b r p) i ≤ k → k < atS (segC b r p) (i + 1) → rawM (k : Int) b = rawM (atS (segC b r p) i : Int) b := by
  induction p with
  | zero => intro i hi; simp [segC] at hi
  | succ p ih =>
    intro i hi k h1 h2
    obtain ⟨hs, hp⟩ := segC_sum b r p
    rcases segC_step b r p with ⟨h, -⟩ | ⟨l, x, e1, e2, hn, h3⟩
    · rw [h] at hi h1 h2 ⊢
      rw [List.length_append] at hi
      simp only [List.length_singleton] at hi
      by_cases hl : i < (segC b r p).length
      · rw [atS_app _ _ (by omega)] at h1 ⊢
        rw [atS_app _ _ (by omega)] at h2
        exact ih i hl k h1 h2
      · obtain rfl : i = (segC b r p).length := by omega
        rw [atS_app _ _ (Nat.le_refl _)] at h1 ⊢
        have h4 : atS (segC b r p ++ [1]) ((segC b r p).length + 1) = (sumI (segC b r p ++ [1])).toNat := by
          have := atS_end (segC b r p ++ [1])
          rw [List.length_append] at this
          exact this
        rw [h4, sumI_snoc] at h2
        rw [atS_end] at h1 ⊢
        have : k = (sumI (segC b r p)).toNat := by omega
        rw [this]
    · rw [e1] at ih hs hp
      rw [e2] at hi h1 h2 ⊢
      rw [List.length_append] at hi
      simp only [List.length_singleton] at hi
      by_cases hl : i < l.length
      · have h4 := ih i (by rw [List.length_append]; omega) k
        rw [atS_app _ _ (by omega)] at h1 ⊢
        rw [atS_app _ _ (by omega)] at h2
        rw [atS_app _ _ (by omega), atS_app _ _ (by omega)] at h4
        exact h4 h1 h2
      · obtain rfl : i = l.length := by omega
        have h4 := ih l.length (by rw [List.length_append]; simp)
        have h5 : atS (l ++ [x]) (l.length + 1) = (sumI (l ++ [x])).toNat := by have := atS_end (l ++ [x]); rw [List.length_append] at this; exact this
        have h6 : atS (l ++ [x + 1]) (l.length + 1) = (sumI (l ++ [x + 1])).toNat := by have := atS_end (l ++ [x + 1]); rw [List.length_append] at this; exact this
        have hx := hp x (by simp)
        have hl0 := sumI_pos (l := l) fun y hy => hp y (by simp [hy])
        rw [atS_app _ _ (Nat.le_refl _)] at h1 ⊢
        rw [h5, atS_app _ _ (Nat.le_refl _)] at h4
        rw [h6, sumI_snoc] at h2
        rw [sumI_snoc] at h4 hs
        rw [atS_end] at h1 h4 ⊢
        by_cases hk : k < p
        · exact h4 k h1 (by omega)
        · obtain rfl : k = p := by omega
          have h7 := h4 (k - 1) (by omega) (by omega)
          have h8 : rawM ((k : Nat) : Int) b = rawM (((k - 1 : Nat) : Nat) : Int) b := by
            have e : ((k - 1 : Nat) : Int) = (k : Int) - 1 := by omega
            rw [e]
            unfold newSeg at hn
            simp at hn
            exact hn.2
          rw [h8, h7]
theorem szF_nn (s : Am.St) : 0 ≤ szF s := by unfold szF; split <;> omega
theorem zW_nn {τ : Type} (ps : τ → List Sy → τ) (sz : τ → Int) (h : ∀ t, 0 ≤ sz t) (Ls : List (List Sy)) : ∀ t, ∀ z ∈ zW ps sz t Ls, 0 ≤ z := by
  induction Ls with
  | nil => intro t z hz; simp [zW] at hz
  | cons L Ls ih =>
    intro t z hz
    rcases List.mem_cons.1 hz with rfl | h2
    · exact h _
    · exact ih _ z h2
theorem cdZ_nn (m : Mo) (c : Cd) (Ls : List (List Sy)) : ∀ z ∈ cdZ m c Ls, 0 ≤ z := by
  unfold cdZ
  split
  · exact zW_nn _ _ (fun l => by unfold szR; omega) _ _
  · exact zW_nn _ _ (fun x => szF_nn _) _ _
/-- What symbols a pass may have. -/
def SyOk (m : Mo) (A : List (List Sy)) : Prop := ∀ k (h : k < A.length), A[k].length ≤ 1000 ∧ ∀ y ∈ A[k], (y.2 = 0 ∨ y.2 = 1) ∧ (rawM (k : Int) m.b = false → 0 ≤ y.1 ∧ y.1 < 19)
theorem cut9_at {A : List (List Sy)} {k n j : Nat} (h : j < (cut9 A k n).length) : ∃ h2 : k + j < A.length, (cut9 A k n)[j] = A[k + j] := by
  have h2 : j < ((A.drop k).take n).length := h
  have e : (cut9 A k n)[j] = ((A.drop k).take n)[j] := rfl
  have e2 : ((A.drop k).take n)[j] = A[k + j]'(by rw [List.length_take, List.length_drop] at h2; omega) := by rw [List.getElem_take, List.getElem_drop]
  exact ⟨by rw [List.length_take, List.length_drop] at h2; omega, e.trans e2⟩
theorem SyOk.cut {m : Mo} {A : List (List Sy)} (h : SyOk m A) {ns : List Int} (e0 : ns = segC m.b m.r A.length) {i : Nat} (hi : i < ns.length) :
    ∀ L ∈ cut9 A (atS ns i) (ns[i]).toNat, L.length ≤ 1000 ∧ ∀ y ∈ L, (y.2 = 0 ∨ y.2 = 1) ∧ (rawM (atS ns i : Int) m.b = false → Am.sym 19 y) := by
  intro L hL
  obtain ⟨j, hj, rfl⟩ := List.mem_iff_getElem.1 hL
  obtain ⟨h2, e⟩ := cut9_at hj
  obtain ⟨h3, h4⟩ := h _ h2
  rw [e]
  refine ⟨h3, fun y hy => ⟨(h4 y hy).1, fun hr => ?_⟩⟩
  have hj2 := hj
  unfold cut9 at hj2
  rw [List.length_take, List.length_drop] at hj2
  have hp : ∀ x ∈ ns, 1 ≤ x := by rw [e0]; exact (segC_sum _ _ _).2
  have hst := atS_step hp hi
  have hrr : rawM ((atS ns i + j : Nat) : Int) m.b = rawM (atS ns i : Int) m.b := by
    subst e0
    exact seg_raw m.b m.r A.length i hi _ (by omega) (by omega)
  have hy2 := (h4 y hy).2 (hrr.trans hr)
  exact ⟨hy2.1, hy2.2, (h4 y hy).1⟩
theorem cw_le {n k : Nat} {x : Am.X} (h : EOk n k x) : (Am.cw x.2).length ≤ k + 1 := by have := Am.cw_len x.2; have := h.le; omega
theorem eS_ok {n : Nat} (r : Bool) (Ls : List (List Sy)) : ∀ {k : Nat} {x : Am.X}, EOk n k x → (∀ L ∈ Ls, L.length ≤ 1000 ∧ ∀ y ∈ L, Am.sym n y) → EOk n (k + 1000 * Ls.length) (Ls.foldl (eP r) x) := by
  induction Ls with
  | nil => intro k x h _; exact h
  | cons L Ls ih =>
    intro k x h hL
    have h1 := h.eP r (hL L (by simp)).2
    have h2 := ih h1 fun M hM => hL M (by simp [hM])
    have h3 := (hL L (by simp)).1
    exact ⟨h2.ok, h2.len, by have := h2.le; simp only [List.length_cons, List.foldl_cons]; omega⟩
theorem rP_len (Ls : List (List Sy)) : ∀ l : List Int, (∀ L ∈ Ls, L.length ≤ 1000) → (Ls.foldl rP l).length ≤ l.length + 1000 * Ls.length := by
  induction Ls with
  | nil => intro l _; exact Nat.le_refl _
  | cons L Ls ih =>
    intro l h
    have := ih (rP l L) fun M hM => h M (by simp [hM])
    have h2 := h L (by simp)
    have h3 : (rP l L).length = l.length + L.length := by unfold rP; simp
    simp only [List.foldl_cons, List.length_cons]
    omega
end Go.Proofs.YtklchodbnjebnaaDoor
set_option maxRecDepth 100000
namespace Go.Proofs.YtklchodbnjebnaaDoor
open Go.RowKit

theorem holdsI_far {w w1 : World} {s : Option Addr} {l : List Int} (h : HoldsI w s l) (hs : ∀ p, s = some p → w1.heap[p.block]? = w.heap[p.block]?) : HoldsI w1 s l := by
  rcases h with h | ⟨b, off, rfl, hr⟩
  · exact .inl h
  · exact .inr ⟨b, off, rfl, fun k hk => (World.cell?_of_block (w := w) (a := ⟨b, off + k, none⟩) (show w1.heap[b]? = w.heap[b]? from hs ⟨b, off, none⟩ rfl)).trans (hr k hk)⟩
/-- A block that is none of two objects'. -/
structure Fr (W : World) (a b k : Nat) : Prop where
  lt : k < W.heap.size
  na : ¬ Fp W a k
  nb : ¬ Fp W b k
/-- The coder between two segments, the raw writer beside it. -/
structure Pr (B : Nat) (W : World) (a b : Nat) (P : List Int) : Prop where
  e : IE B a W (P, Am.St.init)
  r : IR B b W []
  dj : Dj W a b
section
variable {B a b k : Nat} {W W1 : World} {P P' : List Int}
theorem Fr.keep (h : Fr W a b k) (hz : W.heap.size ≤ W1.heap.size) (ha : W1.heap[a]? = W.heap[a]?) (hb : W1.heap[b]? = W.heap[b]?) : Fr W1 a b k :=
  ⟨Nat.lt_of_lt_of_le h.lt hz, fun hf => h.na ((fp_same ha k).1 hf), fun hf => h.nb ((fp_same hb k).1 hf)⟩
theorem Pr.keep (h : Pr B W a b P) (hk : ∀ i, Fp W a i ∨ Fp W b i → W1.heap[i]? = W.heap[i]?) : Pr B W1 a b P :=
  ⟨⟨h.e.1.keep fun i hi => hk i (.inl hi), h.e.2⟩, ⟨h.r.1.keep fun i hi => hk i (.inr hi), h.r.2⟩, fun i h1 h2 => h.dj i ((fp_same (hk a (.inl (.inl rfl))) i).1 h1) ((fp_same (hk b (.inr (.inl rfl))) i).1 h2)⟩
theorem Pr.lt (h : Pr B W a b P) : a < W.heap.size ∧ b < W.heap.size := ⟨h.e.1.lt, h.r.1.lt⟩
theorem Pr.fl (h : Pr B W a b P) : ∀ i, Fp W a i ∨ Fp W b i → i < W.heap.size := fun i hi => hi.elim (h.e.1.fl i) (h.r.1.fl i)
theorem Pr.below (h : Pr B W a b P) (hb : Below W.heap.size W W1) : Pr B W1 a b P := h.keep fun i hi => hb.block i (h.fl i hi)
theorem Fr.below (h : Fr W a b k) (p : Pr B W a b P) (hb : Below W.heap.size W W1) : Fr W1 a b k := h.keep hb.size (hb.block a p.lt.1) (hb.block b p.lt.2)
/-- A call on the coder. -/
theorem Pr.enc (h : Pr B W a b P) (hk : Kp a W W1) (hi : IE B a W1 (P', Am.St.init)) : Pr B W1 a b P' ∧ ∀ k, Fr W a b k → Fr W1 a b k ∧ W1.heap[k]? = W.heap[k]? := by
  obtain ⟨r1, d1⟩ := h.r.1.kp h.dj hk
  have hb := (h.dj.kp hk h.r.1.fl).2 b (.inl rfl)
  exact ⟨⟨hi, ⟨r1, h.r.2⟩, d1⟩, fun k f => ⟨⟨Nat.lt_of_lt_of_le f.lt hk.size, fun hf => (hk.foot k hf).elim f.na fun hz => by have := f.lt; omega, fun hf => f.nb ((fp_same hb k).1 hf)⟩, hk.block k f.lt f.na⟩⟩
theorem Pr.raw (h : Pr B W a b P) (hk : Kp b W W1) (hi : IR B b W1 []) : Pr B W1 a b P ∧ ∀ k, Fr W a b k → Fr W1 a b k ∧ W1.heap[k]? = W.heap[k]? := by
  obtain ⟨e1, d1⟩ := h.e.1.kp h.dj.symm hk
  have ha := (h.dj.symm.kp hk h.e.1.fl).2 a (.inl rfl)
  exact ⟨⟨⟨e1, h.e.2⟩, hi, d1.symm⟩, fun k f => ⟨⟨Nat.lt_of_lt_of_le f.lt hk.size, fun hf => f.na ((fp_same ha k).1 hf), fun hf => (hk.foot k hf).elim f.nb fun hz => by have := f.lt; omega⟩, hk.block k f.lt f.nb⟩⟩
end
/-- While a block is coded: the objects, the coded block with its entries and bytes, the list of segments. -/
structure Cst (w0 : World) (m : Mo) (pl : Int) (a b mB rB cB : Nat) (P E D : List Int) (ev dv : Value) (sg : Option Addr) (ns : List Int) (W : World) : Prop where
  pr : Pr w0.heap.size W a b P
  out : Below w0.heap.size w0 W
  mb : Blk W mB 27 #[.bool m.b, .bool m.r, .bool m.s, .bool m.c, .bool m.y]
  rb : Blk W rB 25 #[.int .i64 0, .slice none 0 0, .slice none 0 0]
  cb : Blk W cB 25 #[.int .i64 pl, ev, dv]
  er : W.ownsRow w0.heap.size 3 1 ev E.length (E.map (Value.int .i64))
  dr : W.ownsRow w0.heap.size 5 1 dv D.length (D.map (Value.int .u8))
  hsg : HoldsI W sg ns
  fm : Fr W a b mB
  fr : Fr W a b rB
  fc : Fr W a b cB
  fe : ∀ k, ev.ownBlock = some k → Fr W a b k
  fd : ∀ k, dv.ownBlock = some k → Fr W a b k
  fs : ∀ p, sg = some p → Fr W a b p.block ∧ ev.ownBlock ≠ some p.block ∧ dv.ownBlock ≠ some p.block ∧ cB ≠ p.block
  hrc : rB ≠ cB
  gc : w0.heap.size ≤ cB
section
variable {w0 W W1 : World} {m : Mo} {pl : Int} {a b mB rB cB : Nat} {P P' E D : List Int} {ev dv : Value} {sg : Option Addr} {ns : List Int}
theorem Cst.turn (h : Cst w0 m pl a b mB rB cB P E D ev dv sg ns W) (hp : Pr w0.heap.size W1 a b P') (ho : Below w0.heap.size w0 W1) (hk : ∀ k, Fr W a b k → Fr W1 a b k ∧ W1.heap[k]? = W.heap[k]?) : Cst w0 m pl a b mB rB cB P' E D ev dv sg ns W1 :=
  ⟨hp, ho, (hk _ h.fm).2.trans h.mb, (hk _ h.fr).2.trans h.rb, (hk _ h.fc).2.trans h.cb, own_keep h.er fun k e => (hk _ (h.fe k e)).2, own_keep h.dr fun k e => (hk _ (h.fd k e)).2, holdsI_far h.hsg fun p e => (hk _ (h.fs p e).1).2,
    (hk _ h.fm).1, (hk _ h.fr).1, (hk _ h.fc).1, fun k e => (hk _ (h.fe k e)).1, fun k e => (hk _ (h.fd k e)).1, fun p e => ⟨(hk _ (h.fs p e).1).1, (h.fs p e).2⟩, h.hrc, h.gc⟩
theorem Cst.step (h : Cst w0 m pl a b mB rB cB P E D ev dv sg ns W) (hb : Below W.heap.size W W1) : Cst w0 m pl a b mB rB cB P E D ev dv sg ns W1 :=
  h.turn (h.pr.below hb) (below_call h.out hb) fun k f => ⟨f.below h.pr hb, hb.block k f.lt⟩
theorem Cst.enc (h : Cst w0 m pl a b mB rB cB P E D ev dv sg ns W) (hk : Kp a W W1) (hi : IE w0.heap.size a W1 (P', Am.St.init)) (ho : Below w0.heap.size w0 W1) : Cst w0 m pl a b mB rB cB P' E D ev dv sg ns W1 :=
  h.turn (h.pr.enc hk hi).1 ho (h.pr.enc hk hi).2
theorem Cst.raw (h : Cst w0 m pl a b mB rB cB P E D ev dv sg ns W) (hk : Kp b W W1) (hi : IR w0.heap.size b W1 []) (ho : Below w0.heap.size w0 W1) : Cst w0 m pl a b mB rB cB P E D ev dv sg ns W1 :=
  h.turn (h.pr.raw hk hi).1 ho (h.pr.raw hk hi).2
/-- An entry more. -/
theorem Cst.growE (h : Cst w0 m pl a b mB rB cB P E D ev dv sg ns W) {X : Obj} {w2 : World} {v' : Value} {z : Int} (hown : w2.ownsRow w0.heap.size 3 1 v' (E.length + 1) (E.map (Value.int .i64) ++ [.int .i64 z])) (hg : (W.alloc X).grownBy w2 ev.ownBlock) (hat : v'.ownBlock = ev.ownBlock ∨ v'.ownBlock = some (W.alloc X).heap.size) :
    Cst w0 m pl a b mB rB cB P (E ++ [z]) D v' dv sg ns (w2.setCell ⟨cB, 1, none⟩ v') ∧ Blk w2 cB 25 #[.int .i64 pl, ev, dv] ∧ ∀ k, k < W.heap.size → ev.ownBlock ≠ some k → k ≠ cB → (w2.setCell ⟨cB, 1, none⟩ v').heap[k]? = W.heap[k]? ∧ v'.ownBlock ≠ some k ∧ k < (w2.setCell ⟨cB, 1, none⟩ v').heap.size := by
  have hsz : W.heap.size ≤ w2.heap.size := by have := hg.size; simp at this; omega
  have hsame2 : ∀ k, k < W.heap.size → ev.ownBlock ≠ some k → w2.heap[k]? = W.heap[k]? := fun k hk hne => (hg.block k (by simp; omega) (fun e => hne e.symm)).trans (Below.heap_alloc W X k hk)
  have hse : (w2.setCell ⟨cB, 1, none⟩ v').heap.size = w2.heap.size := by simp [World.setCell]
  have hsame : ∀ k, k < W.heap.size → ev.ownBlock ≠ some k → k ≠ cB → (w2.setCell ⟨cB, 1, none⟩ v').heap[k]? = W.heap[k]? := fun k hk hne hc => (Below.heap_setCell _ _ _ k hc).trans (hsame2 k hk hne)
  have hnew : ∀ k, k < W.heap.size → ev.ownBlock ≠ some k → v'.ownBlock ≠ some k := fun k hk hne e => by
    rcases hat with h1 | h1
    · exact hne (h1 ▸ e)
    · rw [h1] at e; simp at e; omega
  have fne : ∀ k, Fp W a k ∨ Fp W b k → k < W.heap.size ∧ ev.ownBlock ≠ some k ∧ k ≠ cB := fun k hk => ⟨h.pr.fl k hk, fun e => hk.elim (h.fe k e).na (h.fe k e).nb, fun e => by subst e; exact hk.elim h.fc.na h.fc.nb⟩
  have hcn : ev.ownBlock ≠ some cB := fun e => by
    obtain ⟨_, ds, hb⟩ := own_foot h.er e
    exact (hb.ne h.cb (by decide)) rfl
  have hfr : ∀ k, Fr W a b k → Fr (w2.setCell ⟨cB, 1, none⟩ v') a b k := fun k f => by
    have ha := fne a (.inl (.inl rfl))
    have hb := fne b (.inr (.inl rfl))
    exact f.keep (by omega) (hsame a ha.1 ha.2.1 ha.2.2) (hsame b hb.1 hb.2.1 hb.2.2)
  have hblk : ∀ k t cs, Blk W k t cs → t ≠ 3 → ev.ownBlock ≠ some k := fun k t cs hb ht e => by
    obtain ⟨_, ds, hb2⟩ := own_foot h.er e
    exact (hb2.ne hb (fun e => ht e.symm)) rfl
  have hdn : ∀ k, dv.ownBlock = some k → ev.ownBlock ≠ some k := fun k e => by
    obtain ⟨_, ds, hb⟩ := own_foot h.dr e
    exact hblk k _ _ hb (by decide)
  have hmc : mB ≠ cB := fun e => (h.mb.ne h.cb (by decide)) e
  have hdc : ∀ k, dv.ownBlock = some k → k ≠ cB := fun k e => by
    obtain ⟨_, ds, hb⟩ := own_foot h.dr e
    exact hb.ne h.cb (by decide)
  have hvc : v'.ownBlock ≠ some cB := hnew cB h.fc.lt hcn
  refine ⟨⟨h.pr.keep fun k hk => hsame k (fne k hk).1 (fne k hk).2.1 (fne k hk).2.2, ?_, (hsame _ h.fm.lt (hblk _ _ _ h.mb (by decide)) hmc).trans h.mb, (hsame _ h.fr.lt (hblk _ _ _ h.rb (by decide)) h.hrc).trans h.rb, ?_, ?_, own_keep h.dr fun k e => hsame k (h.fd k e).lt (hdn k e) (hdc k e), holdsI_far h.hsg fun p e => hsame _ (h.fs p e).1.lt (h.fs p e).2.1 fun e2 => (h.fs p e).2.2.2 e2.symm,
    hfr _ h.fm, hfr _ h.fr, hfr _ h.fc, fun k e => ?_, fun k e => hfr k (h.fd k e), fun p e => ⟨hfr _ (h.fs p e).1, hnew _ (h.fs p e).1.lt (h.fs p e).2.1, (h.fs p e).2.2⟩, h.hrc, h.gc⟩, (hsame2 cB h.fc.lt hcn).trans h.cb, fun k h1 h2 h3 => ⟨hsame k h1 h2 h3, hnew k h1 h2, by omega⟩⟩
  · refine Below.setCell ?_ (p := ⟨cB, 1, none⟩) h.gc v'
    exact (h.out.alloc h.out.size X).grown hg (by have := h.out.size; simp; omega) fun k e => (own_foot h.er e).1
  · have hb2 : Blk w2 cB 25 #[.int .i64 pl, ev, dv] := (hsame2 cB h.fc.lt hcn).trans h.cb
    exact hb2.set 1 v'
  · have := own_far hown ⟨cB, 1, none⟩ v' hvc
    simpa using this
  · rcases hat with h1 | h1
    · exact hfr k (h.fe k (h1 ▸ e))
    · rw [h1] at e
      simp at e
      have hlt : k < w2.heap.size := by
        obtain ⟨_, ds, hb⟩ := own_foot hown (k := k) (h1.trans (by simp [e]))
        exact hb.lt
      refine ⟨by omega, fun hf => ?_, fun hf => ?_⟩
      · have ha := fne a (.inl (.inl rfl))
        have := h.pr.fl k (.inl ((fp_same (hsame a ha.1 ha.2.1 ha.2.2) k).1 hf))
        omega
      · have hb := fne b (.inr (.inl rfl))
        have := h.pr.fl k (.inr ((fp_same (hsame b hb.1 hb.2.1 hb.2.2) k).1 hf))
        omega
/-- More bytes. -/
theorem Cst.growD (h : Cst w0 m pl a b mB rB cB P E D ev dv sg ns W) {w2 : World} {v' : Value} {zs : List Int} (hown : w2.ownsRow w0.heap.size 5 1 v' (D.length + zs.length) (D.map (Value.int .u8) ++ zs.map (Value.int .u8))) (hg : W.grownBy w2 dv.ownBlock) (hat : v'.ownBlock = dv.ownBlock ∨ v'.ownBlock = some W.heap.size) :
    Cst w0 m pl a b mB rB cB P E (D ++ zs) ev v' sg ns (w2.setCell ⟨cB, 2, none⟩ v') ∧ Blk w2 cB 25 #[.int .i64 pl, ev, dv] := by
  have hsz : W.heap.size ≤ w2.heap.size := hg.size
  have hsame2 : ∀ k, k < W.heap.size → dv.ownBlock ≠ some k → w2.heap[k]? = W.heap[k]? := fun k hk hne => hg.block k hk (fun e => hne e.symm)
  have hse : (w2.setCell ⟨cB, 2, none⟩ v').heap.size = w2.heap.size := by simp [World.setCell]
  have hsame : ∀ k, k < W.heap.size → dv.ownBlock ≠ some k → k ≠ cB → (w2.setCell ⟨cB, 2, none⟩ v').heap[k]? = W.heap[k]? := fun k hk hne hc => (Below.heap_setCell _ _ _ k hc).trans (hsame2 k hk hne)
  have hnew : ∀ k, k < W.heap.size → dv.ownBlock ≠ some k → v'.ownBlock ≠ some k := fun k hk hne e => by
    rcases hat with h1 | h1
    · exact hne (h1 ▸ e)
    · rw [h1] at e; simp at e; omega
  have fne : ∀ k, Fp W a k ∨ Fp W b k → k < W.heap.size ∧ dv.ownBlock ≠ some k ∧ k ≠ cB := fun k hk => ⟨h.pr.fl k hk, fun e => hk.elim (h.fd k e).na (h.fd k e).nb, fun e => by subst e; exact hk.elim h.fc.na h.fc.nb⟩
  have hcn : dv.ownBlock ≠ some cB := fun e => by
    obtain ⟨_, ds, hb⟩ := own_foot h.dr e
    exact (hb.ne h.cb (by decide)) rfl
  have hfr : ∀ k, Fr W a b k → Fr (w2.setCell ⟨cB, 2, none⟩ v') a b k := fun k f => by
    have ha := fne a (.inl (.inl rfl))
    have hb := fne b (.inr (.inl rfl))
    exact f.keep (by omega) (hsame a ha.1 ha.2.1 ha.2.2) (hsame b hb.1 hb.2.1 hb.2.2)
  have hblk : ∀ k t cs, Blk W k t cs → t ≠ 5 → dv.ownBlock ≠ some k := fun k t cs hb ht e => by
    obtain ⟨_, ds, hb2⟩ := own_foot h.dr e
    exact (hb2.ne hb (fun e => ht e.symm)) rfl
  have hdn : ∀ k, ev.ownBlock = some k → dv.ownBlock ≠ some k := fun k e => by
    obtain ⟨_, ds, hb⟩ := own_foot h.er e
    exact hblk k _ _ hb (by decide)
  have hmc : mB ≠ cB := fun e => (h.mb.ne h.cb (by decide)) e
  have hdc : ∀ k, ev.ownBlock = some k → k ≠ cB := fun k e => by
    obtain ⟨_, ds, hb⟩ := own_foot h.er e
    exact hb.ne h.cb (by decide)
  have hvc : v'.ownBlock ≠ some cB := hnew cB h.fc.lt hcn
  refine ⟨⟨h.pr.keep fun k hk => hsame k (fne k hk).1 (fne k hk).2.1 (fne k hk).2.2, ?_, (hsame _ h.fm.lt (hblk _ _ _ h.mb (by decide)) hmc).trans h.mb, (hsame _ h.fr.lt (hblk _ _ _ h.rb (by decide)) h.hrc).trans h.rb, ?_, own_keep h.er fun k e => hsame k (h.fe k e).lt (hdn k e) (hdc k e), ?_, holdsI_far h.hsg fun p e => hsame _ (h.fs p e).1.lt (h.fs p e).2.2.1 fun e2 => (h.fs p e).2.2.2 e2.symm,
    hfr _ h.fm, hfr _ h.fr, hfr _ h.fc, fun k e => hfr k (h.fe k e), fun k e => ?_, fun p e => ⟨hfr _ (h.fs p e).1, (h.fs p e).2.1, hnew _ (h.fs p e).1.lt (h.fs p e).2.2.1, (h.fs p e).2.2.2⟩, h.hrc, h.gc⟩, (hsame2 cB h.fc.lt hcn).trans h.cb⟩
  · refine Below.setCell ?_ (p := ⟨cB, 2, none⟩) h.gc v'
    exact h.out.grown hg h.out.size fun k e => (own_foot h.dr e).1
  · have hb2 : Blk w2 cB 25 #[.int .i64 pl, ev, dv] := (hsame2 cB h.fc.lt hcn).trans h.cb
    exact hb2.set 2 v'
  · have := own_far hown ⟨cB, 2, none⟩ v' hvc
    simpa using this
  · rcases hat with h1 | h1
    · exact hfr k (h.fd k (h1 ▸ e))
    · rw [h1] at e
      simp at e
      have hlt : k < w2.heap.size := by
        obtain ⟨_, ds, hb⟩ := own_foot hown (k := k) (h1.trans (by simp [e]))
        exact hb.lt
      refine ⟨by omega, fun hf => ?_, fun hf => ?_⟩
      · have ha := fne a (.inl (.inl rfl))
        have := h.pr.fl k (.inl ((fp_same (hsame a ha.1 ha.2.1 ha.2.2) k).1 hf))
        omega
      · have hb := fne b (.inr (.inl rfl))
        have := h.pr.fl k (.inr ((fp_same (hsame b hb.1 hb.2.1 hb.2.2) k).1 hf))
        omega
end
end Go.Proofs.YtklchodbnjebnaaDoor
set_option maxRecDepth 100000
namespace Go.Proofs.YtklchodbnjebnaaDoor
open Go.RowKit

theorem holdsZ_part {w : World} {b off : Nat} {A : List (List Sy)} (h : HoldsZ w (some ⟨b, off, none⟩) A) (k n : Nat) : HoldsZ w (some ⟨b, off + k, none⟩) (cut9 A k n) := by
  rcases h with h | ⟨b', off', e, hr⟩
  · left; rw [h]; simp [cut9]
  · simp at e
    obtain ⟨rfl, rfl⟩ := e
    refine .inr ⟨_, _, rfl, fun j hj => ?_⟩
    obtain ⟨h2, e⟩ := cut9_at hj
    obtain ⟨sk, mk, z1, z2⟩ := hr (k + j) h2
    rw [e]
    exact ⟨sk, mk, by rw [Nat.add_assoc]; exact z1, z2⟩
theorem cst_start {W w1 w2 w3 : World} {m : Mo} {pl : Int} {a b : Nat} {sg : Option Addr} {ns : List Int}
    (hE : AEc w1 ((W.alloc (.cells #[.bool m.b, .bool m.r, .bool m.s, .bool m.c, .bool m.y] 27)).alloc (.cells #[.int .i64 0, .slice none 0 0, .slice none 0 0] 25)).heap.size a (x0 19))
    (B1 : Below ((W.alloc (.cells #[.bool m.b, .bool m.r, .bool m.s, .bool m.c, .bool m.y] 27)).alloc (.cells #[.int .i64 0, .slice none 0 0, .slice none 0 0] 25)).heap.size ((W.alloc (.cells #[.bool m.b, .bool m.r, .bool m.s, .bool m.c, .bool m.y] 27)).alloc (.cells #[.int .i64 0, .slice none 0 0, .slice none 0 0] 25)) w1)
    (hR : Rw w2 w1.heap.size b []) (B2 : Below w1.heap.size w1 w2)
    (B3 : Below (w2.alloc (.cells #[.int .i64 pl, .slice none 0 0, .slice none 0 0] 25)).heap.size (w2.alloc (.cells #[.int .i64 pl, .slice none 0 0, .slice none 0 0] 25)) w3)
    (G3 : HoldsI w3 sg ns) (F3 : ∀ p, sg = some p → (w2.alloc (.cells #[.int .i64 pl, .slice none 0 0, .slice none 0 0] 25)).heap.size ≤ p.block) (hsg : ∀ p, sg = some p → p.block < w3.heap.size) :
    Cst W m pl a b W.heap.size (W.heap.size + 1) w2.heap.size (List.replicate 19 2048) [] [] (.slice none 0 0) (.slice none 0 0) sg ns w3 := by
  obtain ⟨X1, hX1⟩ : ∃ x : Obj, x = .cells #[.bool m.b, .bool m.r, .bool m.s, .bool m.c, .bool m.y] 27 := ⟨_, rfl⟩
  obtain ⟨X2, hX2⟩ : ∃ x : Obj, x = .cells #[.int .i64 0, .slice none 0 0, .slice none 0 0] 25 := ⟨_, rfl⟩
  obtain ⟨X3, hX3⟩ : ∃ x : Obj, x = .cells #[.int .i64 pl, .slice none 0 0, .slice none 0 0] 25 := ⟨_, rfl⟩
  rw [← hX1, ← hX2] at hE B1
  rw [← hX3] at B3 F3
  have hA := below_alloc (below_alloc (Below.refl _ W) X1) X2
  have s1 : ((W.alloc X1).alloc X2).heap.size = W.heap.size + 2 := by simp
  have s2 : (w2.alloc X3).heap.size = w2.heap.size + 1 := by simp
  rw [s1] at hE B1
  rw [s2] at B3 F3
  have z1 := B1.size
  have z2 := B2.size
  have z3 := B3.size
  rw [s1] at z1
  rw [s2] at z3
  have hP2 : Pr W.heap.size w2 a b (List.replicate 19 2048) := by
    refine ⟨⟨(hE.below B2).lower (by omega), ?_⟩, ⟨hR.lower (by omega), Pk.bits_nil⟩, Dj.new B2 hE.fl fun k hk => (hR.fp k hk).1⟩
    exact ⟨x0_ok 19, x0_len 19⟩
  have b23 : Below w2.heap.size w2 w3 := by
    refine (below_alloc (Below.refl _ w2) X3).trans (B3.mono (by omega))
  have hP3 := hP2.below b23
  have fa : ∀ k, Fp w3 a k → W.heap.size + 2 ≤ k ∧ k < w2.heap.size := fun k hk => by
    have h1 := (fp_same (b23.block a hP2.lt.1) k).1 hk
    have h2 := (fp_same (B2.block a hE.lt) k).1 h1
    have := hE.fp k h2
    omega
  have fb : ∀ k, Fp w3 b k → W.heap.size + 2 ≤ k ∧ k < w2.heap.size := fun k hk => by
    have h1 := (fp_same (b23.block b hP2.lt.2) k).1 hk
    have := hR.fp k h1
    omega
  have hfr : ∀ k, k < w3.heap.size → (k < W.heap.size + 2 ∨ w2.heap.size ≤ k) → Fr w3 a b k := fun k h1 h2 => ⟨h1, fun hf => by have := fa k hf; omega, fun hf => by have := fb k hf; omega⟩
  have b2 : ∀ k, k < W.heap.size + 2 → w3.heap[k]? = ((W.alloc X1).alloc X2).heap[k]? := fun k hk => ((b23.block k (by omega)).trans (B2.block k (by omega))).trans (B1.block k hk)
  refine ⟨hP3, ?_, ?_, ?_, ?_, World.ownsRow_nil _ _ _ _, World.ownsRow_nil _ _ _ _, G3, hfr _ (by omega) (.inl (by omega)), hfr _ (by omega) (.inl (by omega)), hfr _ (by omega) (.inr (by omega)), fun k e => by simp [Value.ownBlock] at e, fun k e => by simp [Value.ownBlock] at e, fun p e => ⟨hfr _ (hsg p e) (.inr (by have := F3 p e; omega)), by simp [Value.ownBlock], by simp [Value.ownBlock], by have := F3 p e; omega⟩, by omega, by omega⟩
  · exact hA.trans ((B1.mono (by omega)).trans ((B2.mono (by omega)).trans (b23.mono (by omega))))
  · have e1 : Blk ((W.alloc X1).alloc X2) W.heap.size 27 #[.bool m.b, .bool m.r, .bool m.s, .bool m.c, .bool m.y] := by rw [hX1]; exact (Blk.new W _ _).alloc X2
    exact (b2 _ (by omega)).trans e1
  · have e1 : Blk ((W.alloc X1).alloc X2) (W.alloc X1).heap.size 25 #[.int .i64 0, .slice none 0 0, .slice none 0 0] := by rw [hX2]; exact Blk.new (W.alloc X1) _ _
    have e2 : (W.alloc X1).heap.size = W.heap.size + 1 := by simp
    rw [e2] at e1
    exact (b2 _ (by omega)).trans e1
  · have e1 : Blk (w2.alloc X3) w2.heap.size 25 #[.int .i64 pl, .slice none 0 0, .slice none 0 0] := by rw [hX3]; exact Blk.new w2 _ _
    exact (B3.block _ (by omega)).trans e1
theorem ps_E (B a : Nat) (r : Bool) : (wtrE B a).ps r = eP r := by funext t L; cases r <;> rfl
theorem rP_is (L : List Sy) : ∀ l : List Int, L.foldl (fun (l : List Int) (y : Sy) => l ++ [y.2]) l = rP l L := by
  induction L with
  | nil => intro l; simp [rP]
  | cons y L ih => intro l; rw [List.foldl_cons, ih]; simp [rP]
theorem ps_R (B a : Nat) (r : Bool) : (wtrR B a).ps r = rP := by
  funext t L
  have := rP_is L t
  cases r <;> exact this
/-- Behind segment: sizes and bytes beside what there was. -/
def SegG (w0 : World) (m : Mo) (pl : Int) (a b mB rB cB : Nat) (c : Cd) (E D : List Int) (ev dv : Value) (sg : Option Addr) (ns : List Int) (Ls : List (List Sy)) (n : Nat) (w : World) (e : Ending) (w' : World) : Prop :=
  ∃ ss p sl ml, e = .returned (.tuple #[.slice ss n p, .slice sl (cdB m c Ls).length ml]) ∧ HoldsI w' ss (cdZ m c Ls) ∧ HoldsB w' sl (cdB m c Ls) ∧ (∀ q, sl = some q → ∃ ds, Blk w' q.block 5 ds) ∧ (sl = none → cdB m c Ls = [] ∧ ml = 0) ∧
    (∀ q, ss = some q → w.heap.size ≤ q.block ∧ q.block < w'.heap.size) ∧ Cst w0 m pl a b mB rB cB (cdP m c Ls) E D ev dv sg ns w'
theorem segE_c {w0 w : World} {m : Mo} {pl : Int} {a b mB rB cB : Nat} {c : Cd} {E D : List Int} {ev dv : Value} {sg : Option Addr} {ns : List Int} (C : Cst w0 m pl a b mB rB cB c.P E D ev dv sg ns w)
    {s : Option Addr} {Ls : List (List Sy)} {n : Nat} (mm : Nat) (hZ : HoldsZ w0 s Ls) (hn : Ls.length = n) (hl : n ≤ 178) (hs : ∀ L ∈ Ls, L.length ≤ 1000 ∧ ∀ y ∈ L, Am.sym 19 y) (hr : rawM (c.k : Int) m.b = false) :
    Calls Tryd.prog 38 #[.iface 78 (.agg #[.pointer (some ⟨a, 0, none⟩)]), .slice s n mm, .bool m.s] w (SegG w0 m pl a b mB rB cB c E D ev dv sg ns Ls n w) := by
  subst hn
  have hk := segment_c (wtrE w0.heap.size a) w0 w (c.P, Am.St.init) Ls s mm m.s rfl C.out hZ C.pr.e hs hl rfl
  rw [show (wtrE w0.heap.size a).T = 78 from rfl, show (wtrE w0.heap.size a).x = .agg #[.pointer (some ⟨a, 0, none⟩)] from rfl] at hk
  refine hk.mono fun e w' z => ?_
  obtain ⟨ss, p, sl, ml, e1, e2, e3, e4, e5⟩ := z
  have hB : (wtrE w0.heap.size a).out (Ls.foldl ((wtrE w0.heap.size a).ps m.s) (c.P, Am.St.init)) = cdB m c Ls := by
    unfold cdB; rw [hr]; exact congrArg (fun f : Am.X → List Sy → Am.X => Am.cw (Ls.foldl f (c.P, Am.St.init)).2) (ps_E _ _ _)
  have hZs : zW ((wtrE w0.heap.size a).ps m.s) (wtrE w0.heap.size a).sz (c.P, Am.St.init) Ls = cdZ m c Ls := by
    unfold cdZ; rw [hr]; exact congrArg (fun f : Am.X → List Sy → Am.X => zW f szE (c.P, Am.St.init) Ls) (ps_E _ _ _)
  have hPs : (Ls.foldl ((wtrE w0.heap.size a).ps m.s) (c.P, Am.St.init)).1 = cdP m c Ls := by
    unfold cdP; rw [hr]; exact congrArg (fun f : Am.X → List Sy → Am.X => (Ls.foldl f (c.P, Am.St.init)).1) (ps_E _ _ _)
  rw [hB] at e1 e2 e4
  have e5r := e5.row
  rw [hZs] at e5r
  refine ⟨ss, p, sl, ml, e1, ?_, e2, e3, e4, fun q hq => ?_, ?_⟩
  · have hrow := e5r
    rw [cdZ_len] at hrow
    exact (own_holds hrow).2
  · have hrow := e5r
    rw [cdZ_len] at hrow
    obtain ⟨h1, ds, h2⟩ := own_foot hrow (k := q.block) (by rw [hq]; rfl)
    exact ⟨h1, h2.lt⟩
  · rw [← hPs]
    exact C.enc e5.kp e5.i e5.out
theorem segR_c {w0 w : World} {m : Mo} {pl : Int} {a b mB rB cB : Nat} {c : Cd} {E D : List Int} {ev dv : Value} {sg : Option Addr} {ns : List Int} (C : Cst w0 m pl a b mB rB cB c.P E D ev dv sg ns w)
    {s : Option Addr} {Ls : List (List Sy)} {n : Nat} (mm : Nat) (hZ : HoldsZ w0 s Ls) (hn : Ls.length = n) (hl : n ≤ 178) (hs : ∀ L ∈ Ls, L.length ≤ 1000 ∧ ∀ y ∈ L, (y.2 = 0 ∨ y.2 = 1)) (hr : rawM (c.k : Int) m.b = true) :
    Calls Tryd.prog 38 #[.iface 83 (.agg #[.pointer (some ⟨b, 0, none⟩)]), .slice s n mm, .bool m.s] w (SegG w0 m pl a b mB rB cB c E D ev dv sg ns Ls n w) := by
  subst hn
  have hk := segment_c (wtrR w0.heap.size b) w0 w [] Ls s mm m.s rfl C.out hZ C.pr.r hs hl rfl
  rw [show (wtrR w0.heap.size b).T = 83 from rfl, show (wtrR w0.heap.size b).x = .agg #[.pointer (some ⟨b, 0, none⟩)] from rfl] at hk
  refine hk.mono fun e w' z => ?_
  obtain ⟨ss, p, sl, ml, e1, e2, e3, e4, e5⟩ := z
  have hB : (wtrR w0.heap.size b).out (Ls.foldl ((wtrR w0.heap.size b).ps m.s) []) = cdB m c Ls := by
    unfold cdB; rw [hr]; exact congrArg (fun f : List Int → List Sy → List Int => Pk.seg (Ls.foldl f [])) (ps_R _ _ _)
  have hZs : zW ((wtrR w0.heap.size b).ps m.s) (wtrR w0.heap.size b).sz [] Ls = cdZ m c Ls := by
    unfold cdZ; rw [hr]; exact congrArg (fun f : List Int → List Sy → List Int => zW f szR [] Ls) (ps_R _ _ _)
  have hPs : c.P = cdP m c Ls := by unfold cdP; rw [hr]; rfl
  rw [hB] at e1 e2 e4
  have e5r := e5.row
  rw [hZs] at e5r
  refine ⟨ss, p, sl, ml, e1, ?_, e2, e3, e4, fun q hq => ?_, ?_⟩
  · have hrow := e5r
    rw [cdZ_len] at hrow
    exact (own_holds hrow).2
  · have hrow := e5r
    rw [cdZ_len] at hrow
    obtain ⟨h1, ds, h2⟩ := own_foot hrow (k := q.block) (by rw [hq]; rfl)
    exact ⟨h1, h2.lt⟩
  · rw [← hPs]
    exact C.raw e5.kp e5.i e5.out
theorem cdB_le {m : Mo} {c : Cd} {Ls : List (List Sy)} (hx : Am.OkX (c.P, Am.St.init)) (hP : c.P.length = 19) (hl : Ls.length ≤ 178) (hs : ∀ L ∈ Ls, L.length ≤ 1000 ∧ ∀ y ∈ L, (y.2 = 0 ∨ y.2 = 1) ∧ (rawM (c.k : Int) m.b = false → Am.sym 19 y)) : (cdB m c Ls).length ≤ 178001 := by
  unfold cdB
  by_cases hr : rawM (c.k : Int) m.b = true
  · rw [if_pos hr]
    have h1 := Pk.seg_len (Ls.foldl rP [])
    have h2 := rP_len Ls [] fun L hL => (hs L hL).1
    unfold Pk.nb at h1
    simp at h2
    omega
  · rw [if_neg hr]
    have h0 : EOk 19 0 (c.P, Am.St.init) := ⟨hx, hP, Nat.le_refl _⟩
    have h1 := cw_le (eS_ok m.s Ls h0 fun L hL => ⟨(hs L hL).1, fun y hy => ((hs L hL).2 y hy).2 (by simpa using hr)⟩)
    omega
theorem Blk.set3 {w : World} {g : Nat} {t : TypeId} {a b c : Value} (h : Blk w g t #[a, b, c]) (x y z : Value) : Blk (((w.setCell ⟨g, 0, none⟩ x).setCell ⟨g, 1, none⟩ y).setCell ⟨g, 2, none⟩ z) g t #[x, y, z] := ((h.set 0 x).set 1 y).set 2 z
theorem load_coded {W : World} {g : Nat} {v0 v1 v2 : Value} (B : Blk W g 25 #[v0, v1, v2]) : (loadVar 25 ⟨g, 0, none⟩).run Tryd.prog W = .ok (.agg #[v0, v1, v2]) W := by
  have c0 : W.cell? ⟨g, 0, none⟩ = some v0 := B.cell 0
  have c1 : W.cell? ⟨g, 1, none⟩ = some v1 := B.cell 1
  have c2 : W.cell? ⟨g, 2, none⟩ = some v2 := B.cell 2
  simp [loadVar, go_sem, c0, c1, c2]
theorem results_coded {fn : Func} {p u : Tmp} (h : fn.results = #[.cell p 25, .tmp u]) (tmps : Array Value) {W : World} {g : Nat} {v0 v1 v2 x : Value} (hp : tmps.getD p undef = .pointer (some ⟨g, 0, none⟩)) (hu : tmps.getD u undef = x) (B : Blk W g 25 #[v0, v1, v2]) :
    (results fn tmps).run Tryd.prog W = .ok (.tuple #[.agg #[v0, v1, v2], x]) W := by
  rw [results_cell_tmp h, hp, hu]
  have e : (asAddr (.pointer (some ⟨g, 0, none⟩))).run Tryd.prog W = .ok (⟨g, 0, none⟩ : Addr) W := rfl
  rw [e]
  simp only [Result.andThen]
  rw [load_coded B]
/-- Sizes and bytes of a segment while its entries are noted. -/
structure Kk (ev : Value) (cB : Nat) (ss sl : Option Addr) (zs dat : List Int) (wr : World) : Prop where
  hi : HoldsI wr ss zs
  hb : HoldsB wr sl dat
  k1 : ∀ q, (ss = some q ∨ sl = some q) → q.block < wr.heap.size ∧ ev.ownBlock ≠ some q.block ∧ q.block ≠ cB
theorem Kk.start {w0 w w' : World} {m : Mo} {pl : Int} {a b mB rB cB : Nat} {P P' E D : List Int} {ev dv : Value} {sg : Option Addr} {ns : List Int} {ss sl : Option Addr} {zs dat : List Int} (C : Cst w0 m pl a b mB rB cB P E D ev dv sg ns w) (C' : Cst w0 m pl a b mB rB cB P' E D ev dv sg ns w')
    (hi : HoldsI w' ss zs) (hb : HoldsB w' sl dat) (ht : ∀ q, sl = some q → ∃ ds, Blk w' q.block 5 ds) (hf : ∀ q, ss = some q → w.heap.size ≤ q.block ∧ q.block < w'.heap.size) : Kk ev cB ss sl zs dat w' := by
  refine ⟨hi, hb, fun q hq => ?_⟩
  rcases hq with hq | hq
  · have h1 := hf q hq
    exact ⟨h1.2, fun e => by have := (C.fe _ e).lt; omega, fun e => by have := C.fc.lt; omega⟩
  · obtain ⟨ds, h1⟩ := ht q hq
    refine ⟨h1.lt, fun e => ?_, h1.ne C'.cb (by decide)⟩
    obtain ⟨_, ds2, h2⟩ := own_foot C'.er e
    exact (h2.ne h1 (by decide)) rfl
theorem Kk.grow {ev v' : Value} {cB : Nat} {ss sl : Option Addr} {zs dat : List Int} {wr w2 : World} (h : Kk ev cB ss sl zs dat wr) (hk : ∀ k, k < wr.heap.size → ev.ownBlock ≠ some k → k ≠ cB → w2.heap[k]? = wr.heap[k]? ∧ v'.ownBlock ≠ some k ∧ k < w2.heap.size) : Kk v' cB ss sl zs dat w2 := by
  have h1 := fun q hq => hk q.block (h.k1 q hq).1 (h.k1 q hq).2.1 (h.k1 q hq).2.2
  exact ⟨holdsI_far h.hi fun q e => (h1 q (.inl e)).1, holdsB_far h.hb fun q e => (h1 q (.inr e)).1, fun q hq => ⟨(h1 q hq).2.2, (h1 q hq).2.1, (h.k1 q hq).2.2⟩⟩
end Go.Proofs.YtklchodbnjebnaaDoor
