/- What edits make of a text, byte by byte; what undoes them; the edit between two texts. -/
import Derived.Test.YtecmiphmefbpnaaEdC
namespace Go.Proofs.Ytecmiphmefbpnaa.E
open Go.Proofs.Ytecmiphmefbpnaa Go.RowKit Go.By Go.Shelf
set_option linter.unusedVariables false
set_option linter.unusedSimpArgs false

/-- What a walk over an edit's bytes makes of a text: what is out, and where it stands. -/
structure As where
  out : List UInt8
  pos : Nat
def astep (s : List UInt8) (x : As) : Tok → As
  | .K => ⟨x.out ++ (s.drop x.pos).take 1, x.pos + 1⟩
  | .A b => ⟨x.out ++ [b], x.pos⟩
  | .D => ⟨x.out, x.pos + 1⟩
def as0 : As := ⟨[], 0⟩
def ascan (s : List UInt8) (ts : List Tok) : As := ts.foldl (astep s) as0
def applT (s : List UInt8) (ts : List Tok) : List UInt8 := (ascan s ts).out

theorem ascan_append (s : List UInt8) (ts us : List Tok) : ascan s (ts ++ us) = us.foldl (astep s) (ascan s ts) := by simp [ascan]

theorem af_K (s : List UInt8) (n : Nat) : ∀ x : As, (List.replicate n Tok.K).foldl (astep s) x = ⟨x.out ++ (s.drop x.pos).take n, x.pos + n⟩ := by
  induction n with
  | zero => intro x; simp
  | succ n ih =>
    intro x
    rw [List.replicate_succ, List.foldl_cons, ih]
    simp only [astep]
    rw [List.append_assoc]
    congr 1
    · congr 1
      rw [← List.drop_drop, ← List.take_add, Nat.add_comm 1 n]
    · omega
theorem af_A (s : List UInt8) (l : List UInt8) : ∀ x : As, (l.map Tok.A).foldl (astep s) x = ⟨x.out ++ l, x.pos⟩ := by
  induction l with
  | nil => intro x; simp
  | cons b l ih => intro x; rw [List.map_cons, List.foldl_cons, ih]; simp [astep]
theorem af_D (s : List UInt8) (n : Nat) : ∀ x : As, (List.replicate n Tok.D).foldl (astep s) x = ⟨x.out, x.pos + n⟩ := by
  induction n with
  | zero => intro x; simp
  | succ n ih => intro x; rw [List.replicate_succ, List.foldl_cons, ih]; simp only [astep]; congr 1; omega

theorem af_pos (s : List UInt8) (ts : List Tok) : ∀ x : As, (ts.foldl (astep s) x).pos = x.pos + tIn ts := by
  induction ts with
  | nil => intro x; rfl
  | cons t ts ih => intro x; rw [List.foldl_cons, ih]; cases t <;> simp only [astep, tIn] <;> omega
theorem ascan_pos (s : List UInt8) (ts : List Tok) : (ascan s ts).pos = tIn ts := by rw [ascan, af_pos]; simp [as0]
theorem af_len (s : List UInt8) (ts : List Tok) : ∀ x : As, x.pos + tIn ts ≤ s.length → (ts.foldl (astep s) x).out.length = x.out.length + tOut ts := by
  induction ts with
  | nil => intro x _; rfl
  | cons t ts ih =>
    intro x h
    rw [List.foldl_cons]
    cases t with
    | K =>
      simp only [tIn] at h
      rw [ih _ (by simp only [astep]; omega)]
      simp only [astep, tOut, List.length_append, List.length_take, List.length_drop]; omega
    | A b => rw [ih _ (by simpa [astep, tIn] using h)]; simp only [astep, tOut, List.length_append, List.length_cons, List.length_nil]; omega
    | D => simp only [tIn] at h; rw [ih _ (by simp only [astep]; omega)]; simp only [astep, tOut]
theorem applT_len {s : List UInt8} {ts : List Tok} (h : tIn ts ≤ s.length) : (applT s ts).length = tOut ts := by
  rw [applT, ascan, af_len _ _ _ (by simpa [as0] using h)]; simp [as0]

theorem ascan_nend (s : List UInt8) (st : Ns) : ascan s (expand (nend st)) = (List.replicate st.d Tok.D).foldl (astep s) ((st.a.map .A).foldl (astep s) ((List.replicate st.k Tok.K).foldl (astep s) (ascan s (expand st.op)))) := by
  rw [nend, expand_append, expand_flush, ascan_append, List.foldl_append, List.foldl_append]
theorem ascan_step (s : List UInt8) (st : Ns) (t : Tok) : ascan s (expand (nend (tstep st t))) = astep s (ascan s (expand (nend st))) t := by
  cases t with
  | K =>
    by_cases h : st.a = [] ∧ st.d = 0
    · rw [tstep_K0 h, ascan_nend, ascan_nend, h.1, h.2]
      simp only [af_K, List.map_nil, List.foldl_nil, List.replicate_zero, astep]
      rw [List.append_assoc, ← List.drop_drop, ← List.take_add]; congr 1
    · rw [tstep_K1 h, ascan_nend]
      show (List.replicate 0 Tok.D).foldl (astep s) ((List.map .A []).foldl (astep s) ((List.replicate 1 Tok.K).foldl (astep s) (ascan s (expand (nend st))))) = _
      rfl
  | A b =>
    rw [ascan_nend, ascan_nend]
    simp only [tstep, af_A, af_D, af_K, astep, List.append_assoc]
  | D =>
    rw [ascan_nend, ascan_nend]
    simp only [tstep, af_A, af_D, af_K, astep, Nat.add_assoc]
theorem ascan_normT (s : List UInt8) (ts : List Tok) : ascan s (expand (normT ts)) = ascan s ts := by
  have key : ∀ (ts : List Tok) (st : Ns), ascan s (expand (nend (ts.foldl tstep st))) = ts.foldl (astep s) (ascan s (expand (nend st))) := by
    intro ts
    induction ts with
    | nil => intro st; rfl
    | cons t ts ih => intro st; rw [List.foldl_cons, List.foldl_cons, ih, ascan_step]
  exact key ts ns0

/-- What undoes an edit, byte by byte. -/
def bT (s : List UInt8) : List Tok → Nat → List Tok
  | [], _ => []
  | .K :: ts, i => .K :: bT s ts (i + 1)
  | .A _ :: ts, i => .D :: bT s ts i
  | .D :: ts, i => ((s.drop i).take 1).map .A ++ bT s ts (i + 1)
theorem bT_append (s : List UInt8) (ts us : List Tok) : ∀ i, bT s (ts ++ us) i = bT s ts i ++ bT s us (i + tIn ts) := by
  induction ts with
  | nil => intro i; rfl
  | cons t ts ih => intro i; cases t <;> simp only [List.cons_append, bT, ih, tIn, List.append_assoc, Nat.add_assoc, Nat.add_comm 1]
theorem bT_K (s : List UInt8) (n : Nat) : ∀ i, bT s (List.replicate n .K) i = List.replicate n .K := by
  induction n with
  | zero => intro i; rfl
  | succ n ih => intro i; simp only [List.replicate_succ, bT, ih]
theorem bT_A (s : List UInt8) (l : List UInt8) : ∀ i, bT s (l.map .A) i = List.replicate l.length .D := by
  induction l with
  | nil => intro i; rfl
  | cons b l ih => intro i; simp only [List.map_cons, bT, ih, List.length_cons, List.replicate_succ]
theorem bT_D (s : List UInt8) (n : Nat) : ∀ i, bT s (List.replicate n .D) i = ((s.drop i).take n).map .A := by
  induction n with
  | zero => intro i; simp [bT]
  | succ n ih =>
    intro i
    simp only [List.replicate_succ, bT, ih]
    rw [← List.map_append, ← List.drop_drop, ← List.take_add, Nat.add_comm 1 n]
theorem bT_sums (s : List UInt8) (ts : List Tok) : ∀ i, i + tIn ts ≤ s.length → tIn (bT s ts i) = tOut ts ∧ tOut (bT s ts i) = tIn ts := by
  induction ts with
  | nil => intro i _; exact ⟨rfl, rfl⟩
  | cons t ts ih =>
    intro i h
    cases t with
    | K => simp only [tIn] at h; have := ih (i + 1) (by omega); simp only [bT, tIn, tOut]; omega
    | A b => simp only [tIn] at h; have := ih i (by omega); simp only [bT, tIn, tOut]; omega
    | D =>
      simp only [tIn] at h
      have := ih (i + 1) (by omega)
      simp only [bT, tIn_append, tOut_append, tIn_A, tOut_A, List.length_take, List.length_drop, tIn, tOut]; omega

theorem af_prefix (s : List UInt8) (ts : List Tok) : ∀ x : As, x.out <+: (ts.foldl (astep s) x).out := by
  induction ts with
  | nil => intro x; exact List.prefix_refl _
  | cons t ts ih =>
    intro x
    refine List.IsPrefix.trans ?_ (ih _)
    cases t
    · exact List.prefix_append _ _
    · exact List.prefix_append _ _
    · exact List.prefix_refl _

theorem drop_of_prefix {o l t : List UInt8} (h : o ++ l <+: t) : (t.drop o.length).take l.length = l := by
  obtain ⟨r, rfl⟩ := h
  rw [List.append_assoc, List.drop_left, List.take_left]

theorem undo (s : List UInt8) (ts : List Tok) : ∀ x : As, x.pos + tIn ts = s.length → ∀ t, (ts.foldl (astep s) x).out = t →
    (bT s ts x.pos).foldl (astep t) ⟨s.take x.pos, x.out.length⟩ = ⟨s, t.length⟩ := by
  induction ts with
  | nil =>
    intro x h t ht
    have ht' : x.out = t := ht
    subst ht'
    simp only [tIn, Nat.add_zero] at h
    rw [bT, List.foldl_nil, h, List.take_length]
  | cons k ts ih =>
    intro x h t ht
    rw [List.foldl_cons] at ht
    cases k with
    | K =>
      simp only [tIn] at h
      have hp := af_prefix s ts (astep s x .K)
      rw [ht] at hp
      have hl : ((s.drop x.pos).take 1).length = 1 := by rw [List.length_take, List.length_drop]; omega
      have hd := drop_of_prefix (o := x.out) (l := (s.drop x.pos).take 1) hp
      rw [hl] at hd
      have := ih (astep s x .K) (by simp only [astep]; omega) t ht
      simp only [bT, List.foldl_cons]
      refine Eq.trans ?_ this
      congr 1
      simp only [astep]
      rw [hd, List.length_append, hl, ← List.take_add]
    | A b =>
      simp only [tIn] at h
      have := ih (astep s x (.A b)) (by simp only [astep]; omega) t ht
      simp only [bT, List.foldl_cons]
      refine Eq.trans ?_ this
      congr 1
      simp only [astep, List.length_append, List.length_cons, List.length_nil]
    | D =>
      simp only [tIn] at h
      have := ih (astep s x .D) (by simp only [astep]; omega) t ht
      simp only [bT, List.foldl_append]
      refine Eq.trans ?_ this
      rw [af_A]
      congr 1
      simp only [astep]
      rw [← List.take_add]

theorem undone {s : List UInt8} {ts : List Tok} (h : tIn ts = s.length) : applT (applT s ts) (bT s ts 0) = s := by
  have := undo s ts as0 (by simpa [as0] using h) (applT s ts) rfl
  have e : ascan (applT s ts) (bT s ts 0) = ⟨s, (applT s ts).length⟩ := by simpa [as0, ascan] using this
  rw [applT, e]

/-- How many, from 0 on, side by side, hold; of n at most. -/
def cntF (p : Nat → Bool) : Nat → Nat → Nat
  | 0, i => i
  | f + 1, i => if p i = true then cntF p f (i + 1) else i
def cnt (n : Nat) (p : Nat → Bool) : Nat := cntF p n 0
def IsCnt (n : Nat) (p : Nat → Bool) (k : Nat) : Prop := k ≤ n ∧ (∀ i, i < k → p i = true) ∧ (k = n ∨ p k = false)
theorem IsCnt.unique {n k k' : Nat} {p : Nat → Bool} (h : IsCnt n p k) (h' : IsCnt n p k') : k = k' := by
  obtain ⟨a1, a2, a3⟩ := h
  obtain ⟨b1, b2, b3⟩ := h'
  rcases Nat.lt_trichotomy k k' with hl | he | hg
  · rcases a3 with e | e
    · omega
    · rw [b2 k hl] at e; cases e
  · exact he
  · rcases b3 with e | e
    · omega
    · rw [a2 k' hg] at e; cases e
theorem cntF_is (p : Nat → Bool) : ∀ f i, (∀ j, j < i → p j = true) → IsCnt (i + f) p (cntF p f i) := by
  intro f
  induction f with
  | zero => intro i h; exact ⟨Nat.le_refl _, h, .inl rfl⟩
  | succ f ih =>
    intro i h
    rw [cntF]
    by_cases hp : p i = true
    · rw [if_pos hp]
      have := ih (i + 1) (fun j hj => by
        rcases Nat.lt_or_ge j i with h1 | h1
        · exact h j h1
        · obtain rfl : j = i := by omega
          exact hp)
      rwa [show i + 1 + f = i + (f + 1) by omega] at this
    · rw [if_neg hp]
      exact ⟨by omega, h, .inr (by simpa using hp)⟩
theorem cnt_is (n : Nat) (p : Nat → Bool) : IsCnt n p (cnt n p) := by
  have := cntF_is p n 0 (fun j hj => by omega)
  rwa [Nat.zero_add] at this
theorem cnt_eq {n k : Nat} {p : Nat → Bool} (h : IsCnt n p k) : k = cnt n p := h.unique (cnt_is n p)

/-- How many bytes two texts begin with that are the same. -/
def headN (a b : List UInt8) : Nat := cnt (min a.length b.length) fun i => a.getD i 0 == b.getD i 0
/-- And how many they end with, behind those. -/
def tailN (a b : List UInt8) : Nat := cnt (min a.length b.length - headN a b) fun i => a.getD (a.length - 1 - i) 0 == b.getD (b.length - 1 - i) 0
def betL (a b : List UInt8) : List Rn :=
  [⟨headN a b, ⟨#[]⟩, 0⟩, ⟨0, ⟨((b.drop (headN a b)).take (b.length - tailN a b - headN a b)).toArray⟩, 0⟩, ⟨0, ⟨#[]⟩, ((a.length - tailN a b - headN a b : Nat) : Int)⟩, ⟨tailN a b, ⟨#[]⟩, 0⟩]

theorem bet_bounds (a b : List UInt8) : headN a b + tailN a b ≤ a.length ∧ headN a b + tailN a b ≤ b.length := by
  have h1 := (cnt_is (min a.length b.length) fun i => a.getD i 0 == b.getD i 0).1
  have h2 := (cnt_is (min a.length b.length - headN a b) fun i => a.getD (a.length - 1 - i) 0 == b.getD (b.length - 1 - i) 0).1
  have e1 : headN a b ≤ min a.length b.length := h1
  have e2 : tailN a b ≤ min a.length b.length - headN a b := h2
  omega

theorem bet_head (a b : List UInt8) : a.take (headN a b) = b.take (headN a b) := by
  have hb := bet_bounds a b
  have h1 := (cnt_is (min a.length b.length) fun i => a.getD i 0 == b.getD i 0).2.1
  apply List.ext_getElem
  · simp only [List.length_take]; omega
  · intro i hi hj
    have hi' : i < headN a b := by simp only [List.length_take] at hi; omega
    have := h1 i hi'
    rw [List.getElem_take, List.getElem_take]
    simpa [List.getD, show i < a.length by omega, show i < b.length by omega] using this
theorem bet_tail (a b : List UInt8) : a.drop (a.length - tailN a b) = b.drop (b.length - tailN a b) := by
  have hb := bet_bounds a b
  have h1 := (cnt_is (min a.length b.length - headN a b) fun i => a.getD (a.length - 1 - i) 0 == b.getD (b.length - 1 - i) 0).2.1
  apply List.ext_getElem
  · simp only [List.length_drop]; omega
  · intro i hi hj
    have hi' : i < tailN a b := by simp only [List.length_drop] at hi; omega
    have := h1 (tailN a b - 1 - i) (by show _ < tailN a b; omega)
    dsimp only at this
    rw [List.getElem_drop, List.getElem_drop]
    rw [show a.length - 1 - (tailN a b - 1 - i) = a.length - tailN a b + i by omega, show b.length - 1 - (tailN a b - 1 - i) = b.length - tailN a b + i by omega] at this
    simpa [List.getD, show a.length - tailN a b + i < a.length by omega, show b.length - tailN a b + i < b.length by omega] using this

theorem expand_one (r : Rn) : expand [r] = toks r := by simp [expand]
theorem toks_keep (n : Int) : toks ⟨n, ⟨#[]⟩, 0⟩ = List.replicate n.toNat .K := by
  by_cases h : 0 < n
  · have : (⟨n, ⟨#[]⟩, 0⟩ : Rn) = rK n.toNat := by rw [rK, Int.toNat_of_nonneg (by omega)]
    rw [this, toks_rK (by omega)]
  · rw [toks_right _ (kind_zero (fun e => h e.1) (fun e => e.2.1 nil_toList) (fun e => absurd e.2.2 (by omega))), show n.toNat = 0 by omega]; rfl
theorem toks_drop (n : Int) : toks ⟨0, ⟨#[]⟩, n⟩ = List.replicate n.toNat .D := by
  by_cases h : 0 < n
  · have : (⟨0, ⟨#[]⟩, n⟩ : Rn) = rD n.toNat := by rw [rD, Int.toNat_of_nonneg (by omega)]
    rw [this, toks_rD (by omega)]
  · rw [toks_right _ (kind_zero (fun e => absurd e.1 (by omega)) (fun e => e.2.1 nil_toList) (fun e => h e.2.2)), show n.toNat = 0 by omega]; rfl
theorem toks_add (s : ByteArray) : toks ⟨0, s, 0⟩ = s.data.toList.map .A := by
  by_cases h : s.data.toList = []
  · rw [toks_right _ (kind_zero (fun e => absurd e.1 (by omega)) (fun e => e.2.1 (by rw [toList_data]; exact h)) (fun e => absurd e.2.2 (by omega))), h]; rfl
  · have : (⟨0, s, 0⟩ : Rn) = rA s.data.toList := by rw [rA]
    rw [this, toks_rA h]

end Go.Proofs.Ytecmiphmefbpnaa.E
