/- What edits make of a text, byte by byte; what undoes them; the edit between two texts. And more of the same. -/
import Derived.Test.YtpmijaplkbmbiaaX4
/- What edits make of a text, byte by byte; what undoes them; the edit between two texts. -/
namespace Go.Proofs.Ytpmijaplkbmbiaa.E
open Go.Proofs.Ytpmijaplkbmbiaa Go.RowKit Go.By Go.Shelf
set_option linter.unusedVariables false
set_option linter.unusedSimpArgs false

/-- What a walk over an edit's bytes makes of a text: what is out, and where it stands. -/
structure As where
  out : List UInt8
  pos : Nat
def astep (s : List UInt8) (x : As) : Tok → As
  | .K => ⟨x.out ++ (s.drop x.pos).take 1, x.pos + 1⟩
  | .A b => ⟨x.out ++ [b], x.pos⟩
  | .D => ⟨x.out, x.pos + 1⟩
def as0 : As := ⟨[], 0⟩
def ascan (s : List UInt8) (ts : List Tok) : As := ts.foldl (astep s) as0
def applT (s : List UInt8) (ts : List Tok) : List UInt8 := (ascan s ts).out

theorem ascan_append (s : List UInt8) (ts us : List Tok) : ascan s (ts ++ us) = us.foldl (astep s) (ascan s ts) := by simp [ascan]

theorem af_K (s : List UInt8) (n : Nat) : ∀ x : As, (List.replicate n Tok.K).foldl (astep s) x = ⟨x.out ++ (s.drop x.pos).take n, x.pos + n⟩ := by
  induction n with
  | zero => intro x; simp
  | succ n ih =>
    intro x
    rw [List.replicate_succ, List.foldl_cons, ih]
    simp only [astep]
    rw [List.append_assoc]
    congr 1
    · congr 1
      rw [← List.drop_drop, ← List.take_add, Nat.add_comm 1 n]
    · omega
theorem af_A (s : List UInt8) (l : List UInt8) : ∀ x : As, (l.map Tok.A).foldl (astep s) x = ⟨x.out ++ l, x.pos⟩ := by
  induction l with
  | nil => intro x; simp
  | cons b l ih => intro x; rw [List.map_cons, List.foldl_cons, ih]; simp [astep]
theorem af_D (s : List UInt8) (n : Nat) : ∀ x : As, (List.replicate n Tok.D).foldl (astep s) x = ⟨x.out, x.pos + n⟩ := by
  induction n with
  | zero => intro x; simp
  | succ n ih => intro x; rw [List.replicate_succ, List.foldl_cons, ih]; simp only [astep]; congr 1; omega

theorem af_pos (s : List UInt8) (ts : List Tok) : ∀ x : As, (ts.foldl (astep s) x).pos = x.pos + tIn ts := by
  induction ts with
  | nil => intro x; rfl
  | cons t ts ih => intro x; rw [List.foldl_cons, ih]; cases t <;> simp only [astep, tIn] <;> omega
theorem ascan_pos (s : List UInt8) (ts : List Tok) : (ascan s ts).pos = tIn ts := by rw [ascan, af_pos]; simp [as0]
theorem af_len (s : List UInt8) (ts : List Tok) : ∀ x : As, x.pos + tIn ts ≤ s.length → (ts.foldl (astep s) x).out.length = x.out.length + tOut ts := by
  induction ts with
  | nil => intro x _; rfl
  | cons t ts ih =>
    intro x h
    rw [List.foldl_cons]
    cases t with
    | K =>
      simp only [tIn] at h
      rw [ih _ (by simp only [astep]; omega)]
      simp only [astep, tOut, List.length_append, List.length_take, List.length_drop]; omega
    | A b => rw [ih _ (by simpa [astep, tIn] using h)]; simp only [astep, tOut, List.length_append, List.length_cons, List.length_nil]; omega
    | D => simp only [tIn] at h; rw [ih _ (by simp only [astep]; omega)]; simp only [astep, tOut]
theorem applT_len {s : List UInt8} {ts : List Tok} (h : tIn ts ≤ s.length) : (applT s ts).length = tOut ts := by
  rw [applT, ascan, af_len _ _ _ (by simpa [as0] using h)]; simp [as0]

theorem ascan_nend (s : List UInt8) (st : Ns) : ascan s (expand (nend st)) = (List.replicate st.d Tok.D).foldl (astep s) ((st.a.map .A).foldl (astep s) ((List.replicate st.k Tok.K).foldl (astep s) (ascan s (expand st.op)))) := by
  rw [nend, expand_append, expand_flush, ascan_append, List.foldl_append, List.foldl_append]
theorem ascan_step (s : List UInt8) (st : Ns) (t : Tok) : ascan s (expand (nend (tstep st t))) = astep s (ascan s (expand (nend st))) t := by
  cases t with
  | K =>
    by_cases h : st.a = [] ∧ st.d = 0
    · rw [tstep_K0 h, ascan_nend, ascan_nend, h.1, h.2]
      simp only [af_K, List.map_nil, List.foldl_nil, List.replicate_zero, astep]
      rw [List.append_assoc, ← List.drop_drop, ← List.take_add]; congr 1
    · rw [tstep_K1 h, ascan_nend]
      show (List.replicate 0 Tok.D).foldl (astep s) ((List.map .A []).foldl (astep s) ((List.replicate 1 Tok.K).foldl (astep s) (ascan s (expand (nend st))))) = _
      rfl
  | A b =>
    rw [ascan_nend, ascan_nend]
    simp only [tstep, af_A, af_D, af_K, astep, List.append_assoc]
  | D =>
    rw [ascan_nend, ascan_nend]
    simp only [tstep, af_A, af_D, af_K, astep, Nat.add_assoc]
theorem ascan_normT (s : List UInt8) (ts : List Tok) : ascan s (expand (normT ts)) = ascan s ts := by
  have key : ∀ (ts : List Tok) (st : Ns), ascan s (expand (nend (ts.foldl tstep st))) = ts.foldl (astep s) (ascan s (expand (nend st))) := by
    intro ts
    induction ts with
    | nil => intro st; rfl
    | cons t ts ih => intro st; rw [List.foldl_cons, List.foldl_cons, ih, ascan_step]
  exact key ts ns0

/-- What undoes an edit, byte by byte. -/
def bT (s : List UInt8) : List Tok → Nat → List Tok
  | [], _ => []
  | .K :: ts, i => .K :: bT s ts (i + 1)
  | .A _ :: ts, i => .D :: bT s ts i
  | .D :: ts, i => ((s.drop i).take 1).map .A ++ bT s ts (i + 1)
theorem bT_append (s : List UInt8) (ts us : List Tok) : ∀ i, bT s (ts ++ us) i = bT s ts i ++ bT s us (i + tIn ts) := by
  induction ts with
  | nil => intro i; rfl
  | cons t ts ih => intro i; cases t <;> simp only [List.cons_append, bT, ih, tIn, List.append_assoc, Nat.add_assoc, Nat.add_comm 1]
theorem bT_K (s : List UInt8) (n : Nat) : ∀ i, bT s (List.replicate n .K) i = List.replicate n .K := by
  induction n with
  | zero => intro i; rfl
  | succ n ih => intro i; simp only [List.replicate_succ, bT, ih]
theorem bT_A (s : List UInt8) (l : List UInt8) : ∀ i, bT s (l.map .A) i = List.replicate l.length .D := by
  induction l with
  | nil => intro i; rfl
  | cons b l ih => intro i; simp only [List.map_cons, bT, ih, List.length_cons, List.replicate_succ]
theorem bT_D (s : List UInt8) (n : Nat) : ∀ i, bT s (List.replicate n .D) i = ((s.drop i).take n).map .A := by
  induction n with
  | zero => intro i; simp [bT]
  | succ n ih =>
    intro i
    simp only [List.replicate_succ, bT, ih]
    rw [← List.map_append, ← List.drop_drop, ← List.take_add, Nat.add_comm 1 n]
theorem bT_sums (s : List UInt8) (ts : List Tok) : ∀ i, i + tIn ts ≤ s.length → tIn (bT s ts i) = tOut ts ∧ tOut (bT s ts i) = tIn ts := by
  induction ts with
  | nil => intro i _; exact ⟨rfl, rfl⟩
  | cons t ts ih =>
    intro i h
    cases t with
    | K => simp only [tIn] at h; have := ih (i + 1) (by omega); simp only [bT, tIn, tOut]; omega
    | A b => simp only [tIn] at h; have := ih i (by omega); simp only [bT, tIn, tOut]; omega
    | D =>
      simp only [tIn] at h
      have := ih (i + 1) (by omega)
      simp only [bT, tIn_append, tOut_append, tIn_A, tOut_A, List.length_take, List.length_drop, tIn, tOut]; omega

theorem af_prefix (s : List UInt8) (ts : List Tok) : ∀ x : As, x.out <+: (ts.foldl (astep s) x).out := by
  induction ts with
  | nil => intro x; exact List.prefix_refl _
  | cons t ts ih =>
    intro x
    refine List.IsPrefix.trans ?_ (ih _)
    cases t
    · exact List.prefix_append _ _
    · exact List.prefix_append _ _
    · exact List.prefix_refl _

theorem drop_of_prefix {o l t : List UInt8} (h : o ++ l <+: t) : (t.drop o.length).take l.length = l := by
  obtain ⟨r, rfl⟩ := h
  rw [List.append_assoc, List.drop_left, List.take_left]

theorem undo (s : List UInt8) (ts : List Tok) : ∀ x : As, x.pos + tIn ts = s.length → ∀ t, (ts.foldl (astep s) x).out = t →
    (bT s ts x.pos).foldl (astep t) ⟨s.take x.pos, x.out.length⟩ = ⟨s, t.length⟩ := by
  induction ts with
  | nil =>
    intro x h t ht
    have ht' : x.out = t := ht
    subst ht'
    simp only [tIn, Nat.add_zero] at h
    rw [bT, List.foldl_nil, h, List.take_length]
  | cons k ts ih =>
    intro x h t ht
    rw [List.foldl_cons] at ht
    cases k with
    | K =>
      simp only [tIn] at h
      have hp := af_prefix s ts (astep s x .K)
      rw [ht] at hp
      have hl : ((s.drop x.pos).take 1).length = 1 := by rw [List.length_take, List.length_drop]; omega
      have hd := drop_of_prefix (o := x.out) (l := (s.drop x.pos).take 1) hp
      rw [hl] at hd
      have := ih (astep s x .K) (by simp only [astep]; omega) t ht
      simp only [bT, List.foldl_cons]
      refine Eq.trans ?_ this
      congr 1
      simp only [astep]
      rw [hd, List.length_append, hl, ← List.take_add]
    | A b =>
      simp only [tIn] at h
      have := ih (astep s x (.A b)) (by simp only [astep]; omega) t ht
      simp only [bT, List.foldl_cons]
      refine Eq.trans ?_ this
      congr 1
      simp only [astep, List.length_append, List.length_cons, List.length_nil]
    | D =>
      simp only [tIn] at h
      have := ih (astep s x .D) (by simp only [astep]; omega) t ht
      simp only [bT, List.foldl_append]
      refine Eq.trans ?_ this
      rw [af_A]
      congr 1
      simp only [astep]
      rw [← List.take_add]

theorem undone {s : List UInt8} {ts : List Tok} (h : tIn ts = s.length) : applT (applT s ts) (bT s ts 0) = s := by
  have := undo s ts as0 (by simpa [as0] using h) (applT s ts) rfl
  have e : ascan (applT s ts) (bT s ts 0) = ⟨s, (applT s ts).length⟩ := by simpa [as0, ascan] using this
  rw [applT, e]

/-- How many, from 0 on, side by side, hold; of n at most. -/
def cntF (p : Nat → Bool) : Nat → Nat → Nat
  | 0, i => i
  | f + 1, i => if p i = true then cntF p f (i + 1) else i
def cnt (n : Nat) (p : Nat → Bool) : Nat := cntF p n 0
def IsCnt (n : Nat) (p : Nat → Bool) (k : Nat) : Prop := k ≤ n ∧ (∀ i, i < k → p i = true) ∧ (k = n ∨ p k = false)
theorem IsCnt.unique {n k k' : Nat} {p : Nat → Bool} (h : IsCnt n p k) (h' : IsCnt n p k') : k = k' := by
  obtain ⟨a1, a2, a3⟩ := h
  obtain ⟨b1, b2, b3⟩ := h'
  rcases Nat.lt_trichotomy k k' with hl | he | hg
  · rcases a3 with e | e
    · omega
    · rw [b2 k hl] at e; cases e
  · exact he
  · rcases b3 with e | e
    · omega
    · rw [a2 k' hg] at e; cases e
theorem cntF_is (p : Nat → Bool) : ∀ f i, (∀ j, j < i → p j = true) → IsCnt (i + f) p (cntF p f i) := by
  intro f
  induction f with
  | zero => intro i h; exact ⟨Nat.le_refl _, h, .inl rfl⟩
  | succ f ih =>
    intro i h
    rw [cntF]
    by_cases hp : p i = true
    · rw [if_pos hp]
      have := ih (i + 1) (fun j hj => by
        rcases Nat.lt_or_ge j i with h1 | h1
        · exact h j h1
        · obtain rfl : j = i := by omega
          exact hp)
      rwa [show i + 1 + f = i + (f + 1) by omega] at this
    · rw [if_neg hp]
      exact ⟨by omega, h, .inr (by simpa using hp)⟩
theorem cnt_is (n : Nat) (p : Nat → Bool) : IsCnt n p (cnt n p) := by
  have := cntF_is p n 0 (fun j hj => by omega)
  rwa [Nat.zero_add] at this
theorem cnt_eq {n k : Nat} {p : Nat → Bool} (h : IsCnt n p k) : k = cnt n p := h.unique (cnt_is n p)

/-- How many bytes two texts begin with that are the same. -/
def headN (a b : List UInt8) : Nat := cnt (min a.length b.length) fun i => a.getD i 0 == b.getD i 0
/-- And how many they end with, behind those. -/
def tailN (a b : List UInt8) : Nat := cnt (min a.length b.length - headN a b) fun i => a.getD (a.length - 1 - i) 0 == b.getD (b.length - 1 - i) 0
def betL (a b : List UInt8) : List Rn :=
  [⟨headN a b, ⟨#[]⟩, 0⟩, ⟨0, ⟨((b.drop (headN a b)).take (b.length - tailN a b - headN a b)).toArray⟩, 0⟩, ⟨0, ⟨#[]⟩, ((a.length - tailN a b - headN a b : Nat) : Int)⟩, ⟨tailN a b, ⟨#[]⟩, 0⟩]

theorem bet_bounds (a b : List UInt8) : headN a b + tailN a b ≤ a.length ∧ headN a b + tailN a b ≤ b.length := by
  have h1 := (cnt_is (min a.length b.length) fun i => a.getD i 0 == b.getD i 0).1
  have h2 := (cnt_is (min a.length b.length - headN a b) fun i => a.getD (a.length - 1 - i) 0 == b.getD (b.length - 1 - i) 0).1
  have e1 : headN a b ≤ min a.length b.length := h1
  have e2 : tailN a b ≤ min a.length b.length - headN a b := h2
  omega

theorem bet_head (a b : List UInt8) : a.take (headN a b) = b.take (headN a b) := by
  have hb := bet_bounds a b
  have h1 := (cnt_is (min a.length b.length) fun i => a.getD i 0 == b.getD i 0).2.1
  apply List.ext_getElem
  · simp only [List.length_take]; omega
  · intro i hi hj
    have hi' : i < headN a b := by simp only [List.length_take] at hi; omega
    have := h1 i hi'
    rw [List.getElem_take, List.getElem_take]
    simpa [List.getD, show i < a.length by omega, show i < b.length by omega] using this
theorem bet_tail (a b : List UInt8) : a.drop (a.length - tailN a b) = b.drop (b.length - tailN a b) := by
  have hb := bet_bounds a b
  have h1 := (cnt_is (min a.length b.length - headN a b) fun i => a.getD (a.length - 1 - i) 0 == b.getD (b.length - 1 - i) 0).2.1
  apply List.ext_getElem
  · simp only [List.length_drop]; omega
  · intro i hi hj
    have hi' : i < tailN a b := by simp only [List.length_drop] at hi; omega
    have := h1 (tailN a b - 1 - i) (by show _ < tailN a b; omega)
    dsimp only at this
    rw [List.getElem_drop, List.getElem_drop]
    rw [show a.length - 1 - (tailN a b - 1 - i) = a.length - tailN a b + i by omega, show b.length - 1 - (tailN a b - 1 - i) = b.length - tailN a b + i by omega] at this
    simpa [List.getD, show a.length - tailN a b + i < a.length by omega, show b.length - tailN a b + i < b.length by omega] using this

theorem expand_betL (a b : List UInt8) : expand (betL a b) = List.replicate (headN a b) .K ++ (((b.drop (headN a b)).take (b.length - tailN a b - headN a b)).map .A ++ (List.replicate (a.length - tailN a b - headN a b) .D ++ List.replicate (tailN a b) .K)) := by
  simp only [expand, betL, List.flatMap_cons, List.flatMap_nil, toks_keep, toks_add, toks_drop, Int.toNat_natCast, List.append_nil]
theorem tIn_betL (a b : List UInt8) : tIn (expand (betL a b)) = a.length := by
  have := bet_bounds a b
  rw [expand_betL, tIn_append, tIn_append, tIn_append, tIn_K, tIn_A, tIn_D, tIn_K]; omega
theorem tOut_betL (a b : List UInt8) : tOut (expand (betL a b)) = b.length := by
  have := bet_bounds a b
  rw [expand_betL, tOut_append, tOut_append, tOut_append, tOut_K, tOut_A, tOut_D, tOut_K, List.length_take, List.length_drop]; omega
theorem applT_betL (a b : List UInt8) : applT a (expand (betL a b)) = b := by
  have hb := bet_bounds a b
  rw [applT, ascan, expand_betL, List.foldl_append, List.foldl_append, List.foldl_append, af_K, af_A, af_D, af_K]
  simp only [as0, List.drop_zero, List.nil_append, Nat.zero_add]
  rw [show headN a b + (a.length - tailN a b - headN a b) = a.length - tailN a b by omega, bet_tail, bet_head, List.take_of_length_le (l := b.drop (b.length - tailN a b)) (by rw [List.length_drop]; omega)]
  have e1 : b.take (headN a b) ++ (b.drop (headN a b)).take (b.length - tailN a b - headN a b) = b.take (b.length - tailN a b) := by
    rw [← List.take_add]; congr 1; omega
  rw [e1, List.take_append_drop]

theorem bet_self (a : List UInt8) : headN a a = a.length ∧ tailN a a = 0 := by
  have h : headN a a = a.length := by
    refine (cnt_eq ⟨by omega, fun i _ => by simp, .inl (by omega)⟩).symm
  refine ⟨h, ?_⟩
  have := bet_bounds a a
  omega
theorem betL_self (a : List UInt8) : expand (betL a a) = List.replicate a.length .K := by
  have := bet_self a
  rw [expand_betL, this.1, this.2]
  simp

end Go.Proofs.Ytpmijaplkbmbiaa.E

/- What edits make of a text, run by run; what undoes them. -/
namespace Go.Proofs.Ytpmijaplkbmbiaa.E
open Go.Proofs.Ytpmijaplkbmbiaa Go.RowKit Go.By Go.Shelf
set_option linter.unusedVariables false
set_option linter.unusedSimpArgs false

/-- The text that a walk over some runs has put out. -/
def outB (s : ByteArray) (rs : List Rn) : ByteArray := ⟨(applT s.data.toList (expand rs)).toArray⟩
theorem outB_nil (s : ByteArray) : outB s [] = ⟨#[]⟩ := rfl
theorem ext_list (s : ByteArray) (i j : Nat) : (s.extract i j).data.toList = (s.data.toList.drop i).take (j - i) := by
  simp [ByteArray.data_extract, List.extract_eq_take_drop]
theorem ba_eq {a b : ByteArray} (h : a.data.toList = b.data.toList) : a = b := by
  cases a; cases b; simp only [Array.toList_inj] at h; rw [h]
theorem af_run (s : List UInt8) (x : Rn) (h : kind x ≠ 0) (y : As) : (toks x).foldl (astep s) y = ⟨y.out ++ ((s.drop y.pos).take x.keep.toNat ++ x.add.data.toList), y.pos + (x.keep.toNat + x.drop.toNat)⟩ := by
  rw [toks, if_neg h, List.foldl_append, List.foldl_append, af_K, af_A, af_D]
  simp only [List.append_assoc, Nat.add_assoc]
theorem outB_snoc (s : ByteArray) (pre : List Rn) (x : Rn) (h : kind x ≠ 0) :
    outB s (pre ++ [x]) = outB s pre ++ s.extract (tIn (expand pre)) (tIn (expand pre) + x.keep.toNat) ++ x.add := by
  apply ba_eq
  simp only [outB, ByteArray.data_append, Array.toList_append, ext_list]
  rw [applT, expand_snoc, ascan_append, af_run _ _ h, ascan_pos, ← applT]
  simp only [List.append_assoc, Nat.add_sub_cancel_left]
theorem outB_size {s : ByteArray} {rs : List Rn} (h : tIn (expand rs) ≤ s.size) : (outB s rs).size = tOut (expand rs) := by
  have e := applT_len (s := s.data.toList) (ts := expand rs) (by rw [Array.length_toList]; exact h)
  rw [← e]
  unfold outB
  exact List.size_toArray

/-- What undoes a run. -/
def back1 (s : ByteArray) (i : Nat) (x : Rn) : Rn := ⟨x.keep, s.extract i (i + x.drop.toNat), x.add.size⟩
def backr1 (s : ByteArray) (i : Nat) (x : Rn) : List Rn := [⟨x.keep, ⟨#[]⟩, 0⟩, ⟨0, ⟨#[]⟩, x.add.size⟩, ⟨0, s.extract (i + x.keep.toNat) (i + x.keep.toNat + x.drop.toNat), 0⟩]
def backS (s : ByteArray) : List Rn → Nat → List Rn
  | [], _ => []
  | x :: xs, i => back1 s i x :: backS s xs (i + (x.keep.toNat + x.drop.toNat))
def backQ (s : ByteArray) : List Rn → Nat → List Rn
  | [], _ => []
  | x :: xs, i => backr1 s i x ++ backQ s xs (i + (x.keep.toNat + x.drop.toNat))

theorem tIn_toks' {x : Rn} (h : kind x ≠ 0) : tIn (toks x) = x.keep.toNat + x.drop.toNat := by
  rw [toks, if_neg h, tIn_append, tIn_append, tIn_K, tIn_A, tIn_D, Nat.zero_add]
theorem toks_back1 (s : ByteArray) (i : Nat) (x : Rn) (h : kind x ≠ 0) : toks (back1 s i x) = bT s.data.toList (toks x) i := by
  rcases kind_cases h with ⟨n, hn, rfl⟩ | ⟨a, ha, rfl⟩ | ⟨n, hn, rfl⟩
  · have e : back1 s i (rK n) = ⟨(n : Int), ⟨#[]⟩, 0⟩ := by
      rw [back1]; congr 1; apply ba_eq; rw [ext_list]; simp [rK]
    rw [e, toks_keep, toks_rK hn, bT_K, Int.toNat_natCast]
  · have e : back1 s i (rA a) = ⟨0, ⟨#[]⟩, (a.length : Int)⟩ := by
      rw [back1]; congr 1; apply ba_eq; rw [ext_list]; simp [rA]
    rw [e, toks_drop, toks_rA ha, bT_A, Int.toNat_natCast]
  · have e : back1 s i (rD n) = ⟨0, s.extract i (i + n), 0⟩ := by rfl
    rw [e, toks_add, toks_rD hn, bT_D, ext_list, Nat.add_sub_cancel_left]
theorem expand_backr1 (s : ByteArray) (i : Nat) (x : Rn) (h : kind x ≠ 0) : expand (backr1 s i x) = bT s.data.toList (toks x) i := by
  have three : ∀ a b c : Rn, expand [a, b, c] = toks a ++ (toks b ++ toks c) := fun a b c => by simp [expand]
  rw [backr1, three, toks_keep, toks_drop, toks_add, ext_list]
  rcases kind_cases h with ⟨n, hn, rfl⟩ | ⟨a, ha, rfl⟩ | ⟨n, hn, rfl⟩
  · rw [toks_rK hn, bT_K]; simp only [rK, Int.toNat_natCast, Int.toNat_zero, Nat.add_zero, Nat.sub_self, List.take_zero, List.map_nil, List.append_nil, show (⟨#[]⟩ : ByteArray).size = 0 from rfl, List.replicate_zero]
  · rw [toks_rA ha, bT_A]; simp [rA, ByteArray.size]
  · rw [toks_rD hn, bT_D]; simp only [rD, Int.toNat_natCast, Int.toNat_zero, Nat.add_zero, Nat.add_sub_cancel_left]; rfl
theorem expand_cons (x : Rn) (xs : List Rn) : expand (x :: xs) = toks x ++ expand xs := by simp [expand]
theorem expand_backS (s : ByteArray) (rs : List Rn) : (∀ x ∈ rs, kind x ≠ 0) → ∀ i, expand (backS s rs i) = bT s.data.toList (expand rs) i := by
  induction rs with
  | nil => intro _ i; rfl
  | cons x xs ih =>
    intro h i
    have hx := h x List.mem_cons_self
    rw [backS, expand_cons, expand_cons, bT_append, toks_back1 s i x hx, tIn_toks' hx, ih (fun y hy => h y (List.mem_cons_of_mem _ hy))]
theorem expand_backQ (s : ByteArray) (rs : List Rn) : (∀ x ∈ rs, kind x ≠ 0) → ∀ i, expand (backQ s rs i) = bT s.data.toList (expand rs) i := by
  induction rs with
  | nil => intro _ i; rfl
  | cons x xs ih =>
    intro h i
    have hx := h x List.mem_cons_self
    rw [backQ, expand_append, expand_cons, bT_append, expand_backr1 s i x hx, tIn_toks' hx, ih (fun y hy => h y (List.mem_cons_of_mem _ hy))]
theorem backS_snoc (s : ByteArray) (x : Rn) (pre : List Rn) : (∀ y ∈ pre, kind y ≠ 0) → ∀ i, backS s (pre ++ [x]) i = backS s pre i ++ [back1 s (i + tIn (expand pre)) x] := by
  induction pre with
  | nil => intro _ i; rfl
  | cons y ys ih =>
    intro h i
    rw [List.cons_append, backS, backS, ih (fun z hz => h z (List.mem_cons_of_mem _ hz)), expand_cons, tIn_append, tIn_toks' (h y List.mem_cons_self), List.cons_append]
    simp only [Nat.add_assoc]
theorem backQ_snoc (s : ByteArray) (x : Rn) (pre : List Rn) : (∀ y ∈ pre, kind y ≠ 0) → ∀ i, backQ s (pre ++ [x]) i = backQ s pre i ++ backr1 s (i + tIn (expand pre)) x := by
  induction pre with
  | nil => intro _ i; simp [backQ, expand, tIn]
  | cons y ys ih =>
    intro h i
    rw [List.cons_append, backQ, backQ, ih (fun z hz => h z (List.mem_cons_of_mem _ hz)), expand_cons, tIn_append, tIn_toks' (h y List.mem_cons_self), List.append_assoc]
    simp only [Nat.add_assoc]
theorem len_backS (s : ByteArray) (rs : List Rn) : ∀ i, (backS s rs i).length = rs.length := by
  induction rs with
  | nil => intro i; rfl
  | cons x xs ih => intro i; rw [backS, List.length_cons, ih, List.length_cons]
theorem len_backQ (s : ByteArray) (rs : List Rn) : ∀ i, (backQ s rs i).length = 3 * rs.length := by
  induction rs with
  | nil => intro i; rfl
  | cons x xs ih => intro i; rw [backQ, List.length_append, ih, List.length_cons, backr1]; simp; omega

/-- What undoes an edit. -/
def backR (s : ByteArray) (rs : List Rn) : List Rn := normR (backS s rs 0)
theorem normR_expand {L M : List Rn} (h : expand L = expand M) : normR L = normR M := by rw [normR, normR, h]
theorem backR_Q {s : ByteArray} {rs : List Rn} (h : ∀ x ∈ rs, kind x ≠ 0) : normR (backQ s rs 0) = backR s rs := normR_expand (by rw [expand_backQ s rs h, expand_backS s rs h])

end Go.Proofs.Ytpmijaplkbmbiaa.E

/- Two edits as one, byte by byte. -/
namespace Go.Proofs.Ytpmijaplkbmbiaa.E
open Go.Proofs.Ytpmijaplkbmbiaa Go.RowKit Go.By Go.Shelf
set_option linter.unusedVariables false
set_option linter.unusedSimpArgs false

/-- What two edits make as one. -/
def cT : List Tok → List Tok → List Tok
  | .D :: xs, ys => .D :: cT xs ys
  | [], .A b :: ys => .A b :: cT [] ys
  | .K :: xs, .A b :: ys => .A b :: cT (.K :: xs) ys
  | .A c :: xs, .A b :: ys => .A b :: cT (.A c :: xs) ys
  | .K :: xs, .K :: ys => .K :: cT xs ys
  | .A b :: xs, .K :: ys => .A b :: cT xs ys
  | .K :: xs, .D :: ys => .D :: cT xs ys
  | .A _ :: xs, .D :: ys => cT xs ys
  | _, _ => []
termination_by xs ys => xs.length + ys.length

theorem cT_sums (xs ys : List Tok) : tOut xs = tIn ys → tIn (cT xs ys) = tIn xs ∧ tOut (cT xs ys) = tOut ys := by
  induction xs, ys using cT.induct with
  | case1 xs ys ih => intro h; rw [cT]; simp only [tIn, tOut] at h ⊢; have := ih h; omega
  | case2 b ys ih => intro h; rw [cT]; simp only [tIn, tOut] at h ⊢; have := ih (by simpa [tOut] using h); simp only [tIn] at this; omega
  | case3 xs b ys ih => intro h; rw [cT]; simp only [tIn, tOut] at h ⊢; have := ih (by simpa [tOut] using h); simp only [tIn] at this; omega
  | case4 c xs b ys ih => intro h; rw [cT]; simp only [tIn, tOut] at h ⊢; have := ih (by simpa [tOut] using h); simp only [tIn] at this; omega
  | case5 xs ys ih => intro h; rw [cT]; simp only [tIn, tOut] at h ⊢; have := ih (by omega); omega
  | case6 b xs ys ih => intro h; rw [cT]; simp only [tIn, tOut] at h ⊢; have := ih (by omega); omega
  | case7 xs ys ih => intro h; rw [cT]; simp only [tIn, tOut] at h ⊢; have := ih (by omega); omega
  | case8 b xs ys ih => intro h; rw [cT]; simp only [tIn, tOut] at h ⊢; have := ih (by omega); omega
  | case9 xs ys h1 h2 h3 h4 h5 h6 h7 h8 =>
    intro h
    rcases xs with _ | ⟨x, xs⟩
    · rcases ys with _ | ⟨y, ys⟩
      · simp [cT, tIn, tOut]
      · cases y with
        | K => simp [tIn, tOut] at h
        | A b => exact absurd rfl (h2 b ys rfl)
        | D => simp [tIn, tOut] at h
    · cases x with
      | D => exact absurd rfl (h1 xs)
      | K => rcases ys with _ | ⟨y, ys⟩
             · simp [tIn, tOut] at h
             · cases y with
               | K => exact absurd rfl (h5 xs ys rfl)
               | A b => exact absurd rfl (h3 xs b ys rfl)
               | D => exact absurd rfl (h7 xs ys rfl)
      | A c => rcases ys with _ | ⟨y, ys⟩
               · simp [tIn, tOut] at h
               · cases y with
                 | K => exact absurd rfl (h6 c xs ys rfl)
                 | A b => exact absurd rfl (h4 c xs b ys rfl)
                 | D => exact absurd rfl (h8 c xs ys rfl)

/-- What an edit makes of a text, from its head on. -/
def ap : List UInt8 → List Tok → List UInt8
  | s, .A b :: ts => b :: ap s ts
  | c :: s, .K :: ts => c :: ap s ts
  | _ :: s, .D :: ts => ap s ts
  | _, _ => []
theorem af_ap (s : List UInt8) (ts : List Tok) : ∀ x : As, x.pos + tIn ts ≤ s.length → (ts.foldl (astep s) x).out = x.out ++ ap (s.drop x.pos) ts := by
  induction ts with
  | nil => intro x _; cases h : s.drop x.pos <;> simp [ap]
  | cons t ts ih =>
    intro x h
    rw [List.foldl_cons]
    cases t with
    | A b => rw [ih _ (by simpa [astep, tIn] using h)]; simp [astep, ap]
    | K =>
      simp only [tIn] at h
      rw [ih _ (by simp only [astep]; omega)]
      have hd : s.drop x.pos = s[x.pos]'(by omega) :: s.drop (x.pos + 1) := List.drop_eq_getElem_cons (by omega)
      simp only [astep, ap, List.append_assoc]
      rw [hd]
      rfl
    | D =>
      simp only [tIn] at h
      rw [ih _ (by simp only [astep]; omega)]
      have hd : s.drop x.pos = s[x.pos]'(by omega) :: s.drop (x.pos + 1) := List.drop_eq_getElem_cons (by omega)
      simp only [astep]
      rw [hd]
      simp [ap]
theorem applT_ap {s : List UInt8} {ts : List Tok} (h : tIn ts ≤ s.length) : applT s ts = ap s ts := by
  rw [applT, ascan, af_ap _ _ _ (by simpa [as0] using h)]; simp [as0]
theorem ap_len (ts : List Tok) : ∀ s : List UInt8, tIn ts ≤ s.length → (ap s ts).length = tOut ts := fun s h => by rw [← applT_ap h, applT_len h]

/-- What is composed makes what both make. -/
theorem cT_ap (xs ys : List Tok) : ∀ s : List UInt8, tOut xs = tIn ys → tIn xs ≤ s.length → ap s (cT xs ys) = ap (ap s xs) ys := by
  induction xs, ys using cT.induct with
  | case1 xs ys ih =>
    intro s h hl
    rcases s with _ | ⟨c, s⟩
    · simp [tIn] at hl
    · rw [cT]; simp only [ap, tIn, tOut, List.length_cons] at h hl ⊢; exact ih s h (by omega)
  | case2 b ys ih =>
    intro s h hl
    rw [cT]; simp only [ap]; rw [ih s (by simpa [tIn, tOut] using h) (by simp [tIn])]
    have e : ap s [] = [] := by cases s <;> simp [ap]
    simp only [e, ap]
  | case3 xs b ys ih =>
    intro s h hl
    rw [cT]; simp only [ap]; rw [ih s (by simpa [tIn, tOut] using h) (by simpa [tIn] using hl)]
  | case4 c xs b ys ih =>
    intro s h hl
    rw [cT]; simp only [ap]; rw [ih s (by simpa [tIn, tOut] using h) (by simpa [tIn] using hl)]; simp only [ap]
  | case5 xs ys ih =>
    intro s h hl
    rcases s with _ | ⟨c, s⟩
    · simp [tIn] at hl
    · rw [cT]; simp only [ap, tIn, tOut, List.length_cons] at h hl ⊢; rw [ih s (by omega) (by omega)]
  | case6 b xs ys ih =>
    intro s h hl
    rw [cT]; simp only [ap, tIn, tOut] at h hl ⊢; rw [ih s (by omega) (by omega)]
  | case7 xs ys ih =>
    intro s h hl
    rcases s with _ | ⟨c, s⟩
    · simp [tIn] at hl
    · rw [cT]; simp only [ap, tIn, tOut, List.length_cons] at h hl ⊢; rw [ih s (by omega) (by omega)]
  | case8 b xs ys ih =>
    intro s h hl
    rw [cT]; simp only [ap, tIn, tOut] at h hl ⊢; rw [ih s (by omega) (by omega)]
  | case9 xs ys h1 h2 h3 h4 h5 h6 h7 h8 =>
    intro s h hl
    rcases xs with _ | ⟨x, xs⟩
    · rcases ys with _ | ⟨y, ys⟩
      · simp [cT, ap]
      · cases y with
        | K => simp [tIn, tOut] at h
        | A b => exact absurd rfl (h2 b ys rfl)
        | D => simp [tIn, tOut] at h
    · cases x with
      | D => exact absurd rfl (h1 xs)
      | K => rcases ys with _ | ⟨y, ys⟩
             · simp [tIn, tOut] at h
             · cases y with
               | K => exact absurd rfl (h5 xs ys rfl)
               | A b => exact absurd rfl (h3 xs b ys rfl)
               | D => exact absurd rfl (h7 xs ys rfl)
      | A c => rcases ys with _ | ⟨y, ys⟩
               · simp [tIn, tOut] at h
               · cases y with
                 | K => exact absurd rfl (h6 c xs ys rfl)
                 | A b => exact absurd rfl (h4 c xs b ys rfl)
                 | D => exact absurd rfl (h8 c xs ys rfl)

/-- With one that changes nothing an edit composes to itself. -/
theorem cT_idle_left (ys : List Tok) : cT (List.replicate (tIn ys) .K) ys = ys := by
  induction ys with
  | nil => simp [tIn, cT]
  | cons y ys ih =>
    cases y with
    | K => rw [tIn, List.replicate_succ, cT, ih]
    | D => rw [tIn, List.replicate_succ, cT, ih]
    | A b =>
      rw [tIn]
      cases h : tIn ys with
      | zero => rw [h] at ih; rw [List.replicate_zero, cT, ← List.replicate_zero (a := Tok.K), ih]
      | succ n => rw [h] at ih; rw [List.replicate_succ, cT, ← List.replicate_succ, ih]
theorem cT_idle_right (xs : List Tok) : cT xs (List.replicate (tOut xs) .K) = xs := by
  induction xs with
  | nil => simp [tOut, cT]
  | cons x xs ih =>
    cases x with
    | K => rw [tOut, List.replicate_succ, cT, ih]
    | D => rw [tOut, cT, ih]
    | A b => rw [tOut, List.replicate_succ, cT, ih]

theorem cT_len (xs ys : List Tok) : (cT xs ys).length ≤ xs.length + ys.length := by
  induction xs, ys using cT.induct with
  | case1 xs ys ih => rw [cT]; simp only [List.length_cons]; omega
  | case2 b ys ih => rw [cT]; simp only [List.length_cons, List.length_nil] at ih ⊢; omega
  | case3 xs b ys ih => rw [cT]; simp only [List.length_cons] at ih ⊢; omega
  | case4 c xs b ys ih => rw [cT]; simp only [List.length_cons] at ih ⊢; omega
  | case5 xs ys ih => rw [cT]; simp only [List.length_cons]; omega
  | case6 b xs ys ih => rw [cT]; simp only [List.length_cons]; omega
  | case7 xs ys ih => rw [cT]; simp only [List.length_cons]; omega
  | case8 b xs ys ih => rw [cT]; simp only [List.length_cons]; omega
  | case9 xs ys h1 h2 h3 h4 h5 h6 h7 h8 => rw [cT] <;> first | exact Nat.zero_le _ | assumption

end Go.Proofs.Ytpmijaplkbmbiaa.E

/- The edit between two texts: how many bytes are the same at both ends. -/
namespace Go.Proofs.Ytpmijaplkbmbiaa.E
open Go.Proofs.Ytpmijaplkbmbiaa Go.RowKit Go.By Go.Shelf
set_option linter.unusedVariables false
set_option linter.unusedSimpArgs false

theorem byte_eq {a b : ByteArray} {i j : Nat} (hi : i < a.size) (hj : j < b.size) : ((a[i].toNat : Int) == (b[j].toNat : Int)) = (a.data.toList.getD i 0 == b.data.toList.getD j 0) := by
  have key : ∀ (c : ByteArray) (k : Nat) (hk : k < c.size), c.data.toList.getD k 0 = c[k] := fun c k hk => by
    have : c.data.toList[k]? = some c[k] := by rw [Array.getElem?_toList, Array.getElem?_eq_getElem hk]; rfl
    rw [List.getD_eq_getElem?_getD, this]; rfl
  have e1 := key a i hi
  have e2 := key b j hj
  rw [e1, e2]
  apply Bool.eq_iff_iff.2
  rw [beq_iff_eq, beq_iff_eq]
  constructor
  · intro h
    exact UInt8.toNat_inj.1 (by omega)
  · intro h
    rw [h]

set_option maxRecDepth 20000 in
set_option maxHeartbeats 2000000 in
theorem same1 (b1 b2 i : Nat) (a b : ByteArray) (W : World) (h1 : W.cell? ⟨b1, 0, none⟩ = some (.string a)) (h2 : W.cell? ⟨b2, 0, none⟩ = some (.string b)) (hi : i < a.size) (hj : i < b.size) :
    Calls Try.prog 115 #[.int .i64 (i : Int), .pointer (some ⟨b1, 0, none⟩), .pointer (some ⟨b2, 0, none⟩)] W fun e W' => e = .returned (.bool (a.data.toList.getD i 0 == b.data.toList.getD i 0)) ∧ Below W.heap.size W W' := by
  have hi' : (i : Int) < (a.size : Int) := by omega
  have hj' : (i : Int) < (b.size : Int) := by omega
  have HE := hide (byte_eq hi hj)
  go_enter Try.func115, Try.ntmps115
  go_wp2_with fail
  go_quiet (fail)
  go_wp2
  go_ret
  exact ⟨congrArg (fun x => Ending.returned (Value.bool x)) HE.out, ⟨rfl, rfl, rfl, Nat.le_refl _, fun _ _ => rfl⟩⟩

set_option maxRecDepth 20000 in
set_option maxHeartbeats 2000000 in
theorem same2 (b1 b2 i : Nat) (a b : ByteArray) (W : World) (h1 : W.cell? ⟨b1, 0, none⟩ = some (.string a)) (h2 : W.cell? ⟨b2, 0, none⟩ = some (.string b)) (hi : i < a.size) (hj : i < b.size) (ha : a.size ≤ 16777216) (hb : b.size ≤ 16777216) :
    Calls Try.prog 116 #[.int .i64 (i : Int), .pointer (some ⟨b1, 0, none⟩), .pointer (some ⟨b2, 0, none⟩)] W fun e W' => e = .returned (.bool (a.data.toList.getD (a.data.toList.length - 1 - i) 0 == b.data.toList.getD (b.data.toList.length - 1 - i) 0)) ∧ Below W.heap.size W W' := by
  obtain ⟨x, hx⟩ : ∃ x, x = a.size - 1 - i := ⟨_, rfl⟩
  obtain ⟨y, hy⟩ : ∃ y, y = b.size - 1 - i := ⟨_, rfl⟩
  have i1 : x < a.size := by omega
  have i2 : y < b.size := by omega
  have HE := hide (byte_eq i1 i2)
  have hla : a.data.toList.length = a.size := by rw [Array.length_toList]; rfl
  have hlb : b.data.toList.length = b.size := by rw [Array.length_toList]; rfl
  rw [hla, hlb, ← hx, ← hy]
  have w1 : IntKind.i64.wrap ((a.size : Int) - 1) = (a.size : Int) - 1 := by rw [IntKind.wrap_i64]; omega
  have w2 : IntKind.i64.wrap ((a.size : Int) - 1 - (i : Int)) = (x : Int) := by rw [IntKind.wrap_i64]; omega
  have w3 : IntKind.i64.wrap ((b.size : Int) - 1) = (b.size : Int) - 1 := by rw [IntKind.wrap_i64]; omega
  have w4 : IntKind.i64.wrap ((b.size : Int) - 1 - (i : Int)) = (y : Int) := by rw [IntKind.wrap_i64]; omega
  have i3 : (x : Int) < (a.size : Int) := by omega
  have i4 : (y : Int) < (b.size : Int) := by omega
  clear hla hlb hi hj hx hy
  go_enter Try.func116, Try.ntmps116
  go_wp2_with fail
  go_quiet (fail)
  go_wp2
  go_ret
  exact ⟨congrArg (fun x => Ending.returned (Value.bool x)) HE.out, ⟨rfl, rfl, rfl, Nat.le_refl _, fun _ _ => rfl⟩⟩

set_option maxRecDepth 20000 in
set_option maxHeartbeats 4000000 in
theorem count1 (n b1 b2 : Nat) (p : Nat → Bool) (W : World) (hn : n ≤ 16777216)
    (hf : ∀ i W', i < n → Below W.heap.size W W' → Calls Try.prog 115 #[.int .i64 (i : Int), .pointer (some ⟨b1, 0, none⟩), .pointer (some ⟨b2, 0, none⟩)] W' fun e W'' => e = .returned (.bool (p i)) ∧ Below W'.heap.size W' W'') :
    Calls Try.prog 114 #[.int .i64 (n : Int), .func (.func 115) #[] #[.pointer (some ⟨b1, 0, none⟩), .pointer (some ⟨b2, 0, none⟩)]] W fun e W' => e = .returned (.int .i64 ((cnt n p : Nat) : Int)) ∧ Below W.heap.size W W' := by
  have HF := hide hf
  clear hf
  go_enter Try.func114, Try.ntmps114
  go_wp2_with fail
  go_loopw [7] (fun i wr => ∃ k : Nat, k ≤ n ∧ i = .int .i64 (k : Int) ∧ Hid ((∀ j, j < k → p j = true) ∧ Below W.heap.size W wr)) (fun i _ => n - (intOf i).toNat)
  case atStart => exact ⟨0, Nat.zero_le _, rfl, hide ⟨fun j hj => by omega, Below.refl _ _⟩⟩
  case round =>
    obtain ⟨k, hk, rfl, HI⟩ := hrel
    by_cases hlt : k < n
    · have hlt' : (k : Int) < (n : Int) := by omega
      have hc := HF.out k wr hlt HI.out.2
      have w6 : IntKind.i64.wrap ((k : Int) + 1) = (k : Int) + 1 := by rw [IntKind.wrap_i64]; omega
      cases hp : p k with
      | true =>
        rw [hp] at hc
        have HP := hide hp
        clear hp
        go_wp2_with (go_at_call 115; refine hc.mono ?_; rintro e W2 ⟨rfl, hb⟩; have HB := hide hb; clear hb)
        go_roundw
        case rel => exact ⟨k + 1, by omega, by go_num, hide ⟨fun j hj => by
          rcases Nat.lt_or_ge j k with h | h
          · exact HI.out.1 j h
          · obtain rfl : j = k := by omega
            exact HP.out, HI.out.2.trans (HB.out.mono HI.out.2.size)⟩⟩
        case measure => simp [intOf]; omega
      | false =>
        rw [hp] at hc
        have HP := hide hp
        clear hp
        go_wp2_with (go_at_call 115; refine hc.mono ?_; rintro e W2 ⟨rfl, hb⟩; have HB := hide hb; clear hb)
        go_ret
        exact ⟨congrArg (fun x : Nat => Ending.returned (Value.int .i64 (x : Int))) (cnt_eq ⟨hk, HI.out.1, .inr HP.out⟩), HI.out.2.trans (HB.out.mono HI.out.2.size)⟩
    · obtain rfl : k = n := by omega
      go_wp2
      go_ret
      exact ⟨congrArg (fun x : Nat => Ending.returned (Value.int .i64 (x : Int))) (cnt_eq ⟨Nat.le_refl _, HI.out.1, .inl rfl⟩), HI.out.2⟩

set_option maxRecDepth 20000 in
set_option maxHeartbeats 4000000 in
theorem count2 (n b1 b2 : Nat) (p : Nat → Bool) (W : World) (hn : n ≤ 16777216)
    (hf : ∀ i W', i < n → Below W.heap.size W W' → Calls Try.prog 116 #[.int .i64 (i : Int), .pointer (some ⟨b1, 0, none⟩), .pointer (some ⟨b2, 0, none⟩)] W' fun e W'' => e = .returned (.bool (p i)) ∧ Below W'.heap.size W' W'') :
    Calls Try.prog 114 #[.int .i64 (n : Int), .func (.func 116) #[] #[.pointer (some ⟨b1, 0, none⟩), .pointer (some ⟨b2, 0, none⟩)]] W fun e W' => e = .returned (.int .i64 ((cnt n p : Nat) : Int)) ∧ Below W.heap.size W W' := by
  have HF := hide hf
  clear hf
  go_enter Try.func114, Try.ntmps114
  go_wp2_with fail
  go_loopw [7] (fun i wr => ∃ k : Nat, k ≤ n ∧ i = .int .i64 (k : Int) ∧ Hid ((∀ j, j < k → p j = true) ∧ Below W.heap.size W wr)) (fun i _ => n - (intOf i).toNat)
  case atStart => exact ⟨0, Nat.zero_le _, rfl, hide ⟨fun j hj => by omega, Below.refl _ _⟩⟩
  case round =>
    obtain ⟨k, hk, rfl, HI⟩ := hrel
    by_cases hlt : k < n
    · have hlt' : (k : Int) < (n : Int) := by omega
      have hc := HF.out k wr hlt HI.out.2
      have w6 : IntKind.i64.wrap ((k : Int) + 1) = (k : Int) + 1 := by rw [IntKind.wrap_i64]; omega
      cases hp : p k with
      | true =>
        rw [hp] at hc
        have HP := hide hp
        clear hp
        go_wp2_with (go_at_call 116; refine hc.mono ?_; rintro e W2 ⟨rfl, hb⟩; have HB := hide hb; clear hb)
        go_roundw
        case rel => exact ⟨k + 1, by omega, by go_num, hide ⟨fun j hj => by
          rcases Nat.lt_or_ge j k with h | h
          · exact HI.out.1 j h
          · obtain rfl : j = k := by omega
            exact HP.out, HI.out.2.trans (HB.out.mono HI.out.2.size)⟩⟩
        case measure => simp [intOf]; omega
      | false =>
        rw [hp] at hc
        have HP := hide hp
        clear hp
        go_wp2_with (go_at_call 116; refine hc.mono ?_; rintro e W2 ⟨rfl, hb⟩; have HB := hide hb; clear hb)
        go_ret
        exact ⟨congrArg (fun x : Nat => Ending.returned (Value.int .i64 (x : Int))) (cnt_eq ⟨hk, HI.out.1, .inr HP.out⟩), HI.out.2.trans (HB.out.mono HI.out.2.size)⟩
    · obtain rfl : k = n := by omega
      go_wp2
      go_ret
      exact ⟨congrArg (fun x : Nat => Ending.returned (Value.int .i64 (x : Int))) (cnt_eq ⟨Nat.le_refl _, HI.out.1, .inl rfl⟩), HI.out.2⟩

end Go.Proofs.Ytpmijaplkbmbiaa.E
