/- Runs, byte by byte: the edit of some runs is told by what they do with each byte. -/
import Derived.Test.YtecmiphmefbpnaaP1
namespace Go.Proofs.Ytecmiphmefbpnaa.E
open Go.Proofs.Ytecmiphmefbpnaa Go.RowKit Go.By Go.Shelf
set_option linter.unusedVariables false

/-- What an edit does, byte by byte. -/
inductive Tok
  | K
  | A (b : UInt8)
  | D

/-- Where one stands: the runs, and behind them what is kept, added and dropped. -/
structure Ns where
  op : List Rn
  k : Nat
  a : List UInt8
  d : Nat

def rK (n : Nat) : Rn := ⟨(n : Int), ⟨#[]⟩, 0⟩
def rA (a : List UInt8) : Rn := ⟨0, ⟨a.toArray⟩, 0⟩
def rD (n : Nat) : Rn := ⟨0, ⟨#[]⟩, (n : Int)⟩
def flush (k : Nat) (a : List UInt8) (d : Nat) : List Rn := (if k = 0 then [] else [rK k]) ++ ((if a = [] then [] else [rA a]) ++ (if d = 0 then [] else [rD d]))
def tstep (s : Ns) : Tok → Ns
  | .K => if s.a = [] ∧ s.d = 0 then ⟨s.op, s.k + 1, [], 0⟩ else ⟨s.op ++ flush s.k s.a s.d, 1, [], 0⟩
  | .A b => ⟨s.op, s.k, s.a ++ [b], s.d⟩
  | .D => ⟨s.op, s.k, s.a, s.d + 1⟩
def toks (r : Rn) : List Tok := if kind r = 0 then [] else List.replicate r.keep.toNat .K ++ (r.add.data.toList.map .A ++ List.replicate r.drop.toNat .D)
def expand (rs : List Rn) : List Tok := rs.flatMap toks
def ns0 : Ns := ⟨[], 0, [], 0⟩
def nscan (ts : List Tok) : Ns := ts.foldl tstep ns0
def nend (s : Ns) : List Rn := s.op ++ flush s.k s.a s.d
def normT (ts : List Tok) : List Rn := nend (nscan ts)

theorem nil_toList : (⟨#[]⟩ : ByteArray).toList = [] := by rw [toList_data]
theorem kind_rK {n : Nat} (h : n ≠ 0) : kind (rK n) = 1 := kind_one (by omega) nil_toList rfl
theorem kind_rA {a : List UInt8} (h : a ≠ []) : kind (rA a) = 2 := kind_two rfl (by rw [toList_data]; simpa using h) rfl
theorem kind_rD {n : Nat} (h : n ≠ 0) : kind (rD n) = 3 := kind_three rfl nil_toList (by omega)

theorem kind_cases {r : Rn} (h : kind r ≠ 0) : (∃ n, n ≠ 0 ∧ r = rK n) ∨ (∃ a, a ≠ [] ∧ r = rA a) ∨ (∃ n, n ≠ 0 ∧ r = rD n) := by
  have nil_of : ∀ b : ByteArray, b.toList = [] → b = ⟨#[]⟩ := fun b hb => by
    rw [toList_data] at hb
    obtain ⟨⟨l⟩⟩ := b
    simp at hb; rw [hb]
  obtain ⟨k, a, d⟩ := r
  unfold kind at h
  dsimp only at h
  split at h
  · rename_i hh
    refine .inl ⟨k.toNat, by omega, ?_⟩
    rw [rK, nil_of _ hh.2.1, hh.2.2, Int.toNat_of_nonneg (by omega)]
  · split at h
    · rename_i hh
      refine .inr (.inl ⟨a.data.toList, by rw [← toList_data]; exact hh.2.1, ?_⟩)
      rw [rA, hh.1, hh.2.2]
    · split at h
      · rename_i hh
        refine .inr (.inr ⟨d.toNat, by omega, ?_⟩)
        rw [rD, nil_of _ hh.2.1, hh.1, Int.toNat_of_nonneg (by omega)]
      · exact absurd rfl h

theorem toks_rK {n : Nat} (h : n ≠ 0) : toks (rK n) = List.replicate n .K := by rw [toks, kind_rK h, if_neg (by omega)]; simp [rK]
theorem toks_rA {a : List UInt8} (h : a ≠ []) : toks (rA a) = a.map .A := by rw [toks, kind_rA h, if_neg (by omega)]; simp [rA]
theorem toks_rD {n : Nat} (h : n ≠ 0) : toks (rD n) = List.replicate n .D := by rw [toks, kind_rD h, if_neg (by omega)]; simp [rD]

theorem expand_append (a b : List Rn) : expand (a ++ b) = expand a ++ expand b := by simp [expand]
theorem expand_flush (k : Nat) (a : List UInt8) (d : Nat) : expand (flush k a d) = List.replicate k .K ++ (a.map .A ++ List.replicate d .D) := by
  simp only [flush, expand_append]
  have h1 : expand (if k = 0 then [] else [rK k]) = List.replicate k .K := by
    split
    · rename_i h; subst h; rfl
    · rename_i h; simp [expand, toks_rK h]
  have h2 : expand (if a = [] then [] else [rA a]) = a.map .A := by
    split
    · rename_i h; subst h; rfl
    · rename_i h; simp [expand, toks_rA h]
  have h3 : expand (if d = 0 then [] else [rD d]) = List.replicate d .D := by
    split
    · rename_i h; subst h; rfl
    · rename_i h; simp [expand, toks_rD h]
  rw [h1, h2, h3]

theorem foldl_A (s : Ns) (l : List UInt8) : (l.map Tok.A).foldl tstep s = ⟨s.op, s.k, s.a ++ l, s.d⟩ := by
  induction l generalizing s with
  | nil => simp
  | cons b l ih => rw [List.map_cons, List.foldl_cons, ih]; simp [tstep]
theorem foldl_D (s : Ns) (n : Nat) : (List.replicate n Tok.D).foldl tstep s = ⟨s.op, s.k, s.a, s.d + n⟩ := by
  induction n generalizing s with
  | zero => rfl
  | succ n ih => rw [List.replicate_succ, List.foldl_cons, ih]; simp [tstep]; omega
theorem foldl_K0 (op : List Rn) (k n : Nat) : (List.replicate n Tok.K).foldl tstep ⟨op, k, [], 0⟩ = ⟨op, k + n, [], 0⟩ := by
  induction n generalizing k with
  | zero => rfl
  | succ n ih => rw [List.replicate_succ, List.foldl_cons, show tstep ⟨op, k, [], 0⟩ .K = ⟨op, k + 1, [], 0⟩ by simp [tstep], ih]; congr 1; omega
theorem foldl_K1 (s : Ns) (n : Nat) (hn : n ≠ 0) (hs : ¬ (s.a = [] ∧ s.d = 0)) : (List.replicate n Tok.K).foldl tstep s = ⟨s.op ++ flush s.k s.a s.d, n, [], 0⟩ := by
  obtain ⟨n, rfl⟩ : ∃ m, n = m + 1 := ⟨n - 1, by omega⟩
  rw [List.replicate_succ, List.foldl_cons, show tstep s .K = ⟨s.op ++ flush s.k s.a s.d, 1, [], 0⟩ by simp only [tstep]; rw [if_neg hs], foldl_K0]; congr 1; omega

theorem tstep_K0 {s : Ns} (hs : s.a = [] ∧ s.d = 0) : tstep s .K = ⟨s.op, s.k + 1, [], 0⟩ := by simp only [tstep]; rw [if_pos hs]
theorem tstep_K1 {s : Ns} (hs : ¬ (s.a = [] ∧ s.d = 0)) : tstep s .K = ⟨s.op ++ flush s.k s.a s.d, 1, [], 0⟩ := by simp only [tstep]; rw [if_neg hs]

/-- What is reached comes again. -/
def Back (s : Ns) : Prop := nscan (expand s.op ++ List.replicate s.k .K) = ⟨s.op, s.k, [], 0⟩

theorem back_all (s : Ns) (h : Back s) : nscan (expand (nend s)) = s := by
  rw [nend, expand_append, expand_flush, ← List.append_assoc, ← List.append_assoc, nscan, List.foldl_append, List.foldl_append]
  have := h
  rw [Back, nscan] at this
  rw [this, foldl_A, foldl_D]
  simp

theorem back_step (s : Ns) (t : Tok) (h : Back s) : Back (tstep s t) := by
  cases t with
  | A b => exact h
  | D => exact h
  | K =>
    by_cases hs : s.a = [] ∧ s.d = 0
    · rw [tstep_K0 hs]
      have := h
      rw [Back, nscan] at this
      rw [Back, List.replicate_succ', ← List.append_assoc, nscan, List.foldl_append, this]
      simp [tstep]
    · rw [tstep_K1 hs]
      have e := back_all s h
      rw [nscan] at e
      show nscan (expand (nend s) ++ List.replicate 1 Tok.K) = _
      rw [nscan, List.foldl_append, e, foldl_K1 _ _ (by omega) hs]

theorem back_foldl (ts : List Tok) (s : Ns) (h : Back s) : Back (ts.foldl tstep s) := by
  induction ts generalizing s with
  | nil => exact h
  | cons t ts ih => exact ih _ (back_step s t h)
theorem back_nscan (ts : List Tok) : Back (nscan ts) := back_foldl ts ns0 rfl

/-- The edit of an edit is it. -/
theorem normT_again (ts : List Tok) : normT (expand (normT ts)) = normT ts := by
  show nend (nscan (expand (nend (nscan ts)))) = _
  rw [back_all _ (back_nscan ts)]; rfl

/-- Its kinds are in order. -/
def Kinds (s : Ns) : Prop := (s.op = [] ∨ s.k ≠ 0) ∧ ∃ h, kscan s.op = some h ∧ h ≠ 1 ∧ (s.k = 0 → h = 0)

theorem kstep_ok {h : Nat} {x : Rn} (hb : ¬ kbad h x) : kstep (some h) x = some (kind x) := by simp [kstep, hb]

theorem kinds_end {s : Ns} (h : Kinds s) : ∃ j, kscan (nend s) = some j ∧ (s.a ≠ [] ∨ s.d ≠ 0 → 1 < j) := by
  obtain ⟨h0, j, hj, h1, hk⟩ := h
  rw [nend, kscan, List.foldl_append, ← kscan, hj, flush, List.foldl_append, List.foldl_append]
  have e1 : ∃ j1, List.foldl kstep (some j) (if s.k = 0 then [] else [rK s.k]) = some j1 ∧ j1 ≤ 1 := by
    split
    · rename_i hz; exact ⟨j, rfl, by rw [hk hz]; omega⟩
    · rename_i hz
      refine ⟨1, ?_, Nat.le_refl _⟩
      rw [List.foldl_cons, List.foldl_nil, kstep_ok (by unfold kbad; rw [kind_rK hz]; omega), kind_rK hz]
  obtain ⟨j1, e1, l1⟩ := e1
  rw [e1]
  have e2 : ∃ j2, List.foldl kstep (some j1) (if s.a = [] then [] else [rA s.a]) = some j2 ∧ j2 ≤ 2 ∧ (s.a ≠ [] → 1 < j2) := by
    split
    · rename_i hz; exact ⟨j1, rfl, by omega, fun h => absurd hz h⟩
    · rename_i hz
      refine ⟨2, ?_, Nat.le_refl _, fun _ => by omega⟩
      rw [List.foldl_cons, List.foldl_nil, kstep_ok (by unfold kbad; rw [kind_rA hz]; omega), kind_rA hz]
  obtain ⟨j2, e2, l2, g2⟩ := e2
  rw [e2]
  split
  · rename_i hz; exact ⟨j2, rfl, fun h => h.elim g2 (fun h => absurd hz h)⟩
  · rename_i hz
    refine ⟨3, ?_, fun _ => by omega⟩
    rw [List.foldl_cons, List.foldl_nil, kstep_ok (by unfold kbad; rw [kind_rD hz]; omega), kind_rD hz]

theorem kinds_step {s : Ns} (t : Tok) (h : Kinds s) : Kinds (tstep s t) := by
  cases t with
  | A b => exact h
  | D => exact h
  | K =>
    by_cases hs : s.a = [] ∧ s.d = 0
    · rw [tstep_K0 hs]
      obtain ⟨h0, j, hj, h1, hk⟩ := h
      exact ⟨.inr (by show s.k + 1 ≠ 0; omega), j, hj, h1, fun h => absurd h (by show s.k + 1 ≠ 0; omega)⟩
    · rw [tstep_K1 hs]
      obtain ⟨j, hj, hl⟩ := kinds_end h
      have : s.a ≠ [] ∨ s.d ≠ 0 := by
        by_cases ha : s.a = []
        · exact .inr (fun hd => hs ⟨ha, hd⟩)
        · exact .inl ha
      have := hl this
      exact ⟨.inr (by show (1 : Nat) ≠ 0; omega), j, hj, by omega, fun h => absurd h (by show (1 : Nat) ≠ 0; omega)⟩

theorem kinds_foldl (ts : List Tok) (s : Ns) (h : Kinds s) : Kinds (ts.foldl tstep s) := by
  induction ts generalizing s with
  | nil => exact h
  | cons t ts ih => exact ih _ (kinds_step t h)
theorem kscan_normT (ts : List Tok) : ∃ j, kscan (normT ts) = some j :=
  have ⟨j, h, _⟩ := kinds_end (kinds_foldl ts ns0 ⟨.inl rfl, 0, rfl, by omega, fun _ => rfl⟩)
  ⟨j, h⟩

/-- How many bytes ahead and behind. -/
def tIn : List Tok → Nat
  | [] => 0
  | .K :: ts => tIn ts + 1
  | .A _ :: ts => tIn ts
  | .D :: ts => tIn ts + 1
def tOut : List Tok → Nat
  | [] => 0
  | .K :: ts => tOut ts + 1
  | .A _ :: ts => tOut ts + 1
  | .D :: ts => tOut ts

theorem tIn_append (a b : List Tok) : tIn (a ++ b) = tIn a + tIn b := by
  induction a with
  | nil => simp [tIn]
  | cons t a ih => cases t <;> simp [tIn, ih] <;> omega
theorem tOut_append (a b : List Tok) : tOut (a ++ b) = tOut a + tOut b := by
  induction a with
  | nil => simp [tOut]
  | cons t a ih => cases t <;> simp [tOut, ih] <;> omega
theorem tIn_K (n : Nat) : tIn (List.replicate n .K) = n := by induction n with
  | zero => rfl
  | succ n ih => simp [List.replicate_succ, tIn, ih]
theorem tIn_D (n : Nat) : tIn (List.replicate n .D) = n := by induction n with
  | zero => rfl
  | succ n ih => simp [List.replicate_succ, tIn, ih]
theorem tIn_A (l : List UInt8) : tIn (l.map .A) = 0 := by induction l with
  | nil => rfl
  | cons b l ih => simp [tIn, ih]
theorem tOut_K (n : Nat) : tOut (List.replicate n .K) = n := by induction n with
  | zero => rfl
  | succ n ih => simp [List.replicate_succ, tOut, ih]
theorem tOut_D (n : Nat) : tOut (List.replicate n .D) = 0 := by induction n with
  | zero => rfl
  | succ n ih => simp [List.replicate_succ, tOut, ih]
theorem tOut_A (l : List UInt8) : tOut (l.map .A) = l.length := by induction l with
  | nil => rfl
  | cons b l ih => simp [tOut, ih]

def sIn (s : Ns) : Nat := tIn (expand (nend s))
def sOut (s : Ns) : Nat := tOut (expand (nend s))

theorem sIn_eq (s : Ns) : sIn s = tIn (expand s.op) + (s.k + s.d) := by
  rw [sIn, nend, expand_append, expand_flush, tIn_append, tIn_append, tIn_append, tIn_K, tIn_A, tIn_D]; omega
theorem sOut_eq (s : Ns) : sOut s = tOut (expand s.op) + (s.k + s.a.length) := by
  rw [sOut, nend, expand_append, expand_flush, tOut_append, tOut_append, tOut_append, tOut_K, tOut_A, tOut_D]; omega

theorem sums_step (s : Ns) (t : Tok) : sIn (tstep s t) = sIn s + tIn [t] ∧ sOut (tstep s t) = sOut s + tOut [t] := by
  cases t with
  | A b => rw [sIn_eq, sIn_eq, sOut_eq, sOut_eq]; simp [tstep, tIn, tOut]; omega
  | D => rw [sIn_eq, sIn_eq, sOut_eq, sOut_eq]; simp [tstep, tIn, tOut]; omega
  | K =>
    by_cases hs : s.a = [] ∧ s.d = 0
    · rw [tstep_K0 hs, sIn_eq, sIn_eq, sOut_eq, sOut_eq]; simp [tIn, tOut, hs]; omega
    · rw [tstep_K1 hs]
      constructor
      · rw [sIn_eq]; show sIn s + _ = _; simp [tIn]
      · rw [sOut_eq]; show sOut s + _ = _; simp [tOut]

theorem sums_foldl (ts : List Tok) (s : Ns) : sIn (ts.foldl tstep s) = sIn s + tIn ts ∧ sOut (ts.foldl tstep s) = sOut s + tOut ts := by
  induction ts generalizing s with
  | nil => simp [tIn, tOut]
  | cons t ts ih =>
    have h1 := sums_step s t
    have h2 := ih (tstep s t)
    have e : t :: ts = [t] ++ ts := rfl
    rw [List.foldl_cons, h2.1, h2.2, h1.1, h1.2, e, tIn_append, tOut_append]
    omega

theorem tIn_normT (ts : List Tok) : tIn (expand (normT ts)) = tIn ts := by have := (sums_foldl ts ns0).1; rw [show sIn ns0 = 0 from rfl, Nat.zero_add] at this; exact this
theorem tOut_normT (ts : List Tok) : tOut (expand (normT ts)) = tOut ts := by have := (sums_foldl ts ns0).2; rw [show sOut ns0 = 0 from rfl, Nat.zero_add] at this; exact this

/-- A right run's bytes. -/
theorem tIn_toks {r : Rn} (h : kind r ≠ 0) : (tIn (toks r) : Int) = r.keep + r.drop := by
  rcases kind_cases h with ⟨n, hn, rfl⟩ | ⟨a, ha, rfl⟩ | ⟨n, hn, rfl⟩
  · rw [toks_rK hn, tIn_K]; simp [rK]
  · rw [toks_rA ha, tIn_A]; simp [rA]
  · rw [toks_rD hn, tIn_D]; simp [rD]
theorem tOut_toks {r : Rn} (h : kind r ≠ 0) : (tOut (toks r) : Int) = r.keep + (r.add.size : Int) := by
  rcases kind_cases h with ⟨n, hn, rfl⟩ | ⟨a, ha, rfl⟩ | ⟨n, hn, rfl⟩
  · rw [toks_rK hn, tOut_K]; simp [rK, ByteArray.size]
  · rw [toks_rA ha, tOut_A]; simp [rA, ByteArray.size]
  · rw [toks_rD hn, tOut_D]; simp [rD, ByteArray.size]

/-- The sums of right runs. -/
theorem sscan_from (rs : List Rn) (hK : ∀ x ∈ rs, kind x ≠ 0) : ∀ (i o : Nat), i ≤ 16777216 → o ≤ 16777216 →
    rs.foldl sstep (some ((i : Int), (o : Int))) = if i + tIn (expand rs) ≤ 16777216 ∧ o + tOut (expand rs) ≤ 16777216 then some (((i + tIn (expand rs) : Nat) : Int), ((o + tOut (expand rs) : Nat) : Int)) else none := by
  induction rs with
  | nil => intro i o hi ho; simp [expand, tIn, tOut, hi, ho]
  | cons r rs ih =>
    intro i o hi ho
    have hr := hK r (List.mem_cons_self)
    have h1 := tIn_toks hr
    have h2 := tOut_toks hr
    obtain ⟨k1, k2, k3, k4⟩ := kind_facts hr
    have e : expand (r :: rs) = toks r ++ expand rs := by simp [expand]
    rw [List.foldl_cons, e, tIn_append, tOut_append]
    by_cases hb : sbad ((i : Int), (o : Int)) r
    · rw [show sstep (some ((i : Int), (o : Int))) r = none by simp [sstep, hb], foldl_sstep_none, if_neg]
      intro hh
      apply hb
      dsimp only
      rw [k3, k4]
      omega
    · have hg : max r.keep r.drop ≤ 16777216 - (i : Int) ∧ max r.keep (r.add.size : Int) ≤ 16777216 - (o : Int) := Decidable.not_not.1 hb
      rw [k3, k4] at hg
      rw [show sstep (some ((i : Int), (o : Int))) r = some (((i + tIn (toks r) : Nat) : Int), ((o + tOut (toks r) : Nat) : Int)) by
        simp only [sstep, Option.bind_some, if_neg hb, snext]
        rw [← h1, ← h2]; simp]
      rw [ih (fun x hx => hK x (List.mem_cons_of_mem _ hx)) _ _ (by omega) (by omega), Nat.add_assoc, Nat.add_assoc]

theorem sscan_right {rs : List Rn} (hK : ∀ x ∈ rs, kind x ≠ 0) : sscan rs = if tIn (expand rs) ≤ 16777216 ∧ tOut (expand rs) ≤ 16777216 then some ((tIn (expand rs) : Int), (tOut (expand rs) : Int)) else none := by
  have := sscan_from rs hK 0 0 (by omega) (by omega)
  simpa [sscan] using this
/-- The edit of some runs. -/
def normR (rs : List Rn) : List Rn :=
  if tIn (expand rs) ≤ 16777216 ∧ tOut (expand rs) ≤ 16777216 ∧ (normT (expand rs)).length ≤ 65536 then normT (expand rs) else []

theorem toks_right (r : Rn) (h : kind r = 0) : toks r = [] := by rw [toks, if_pos h]
def rightR (rs : List Rn) : List Rn := rs.filter (fun r => decide (kind r ≠ 0))
theorem expand_right (rs : List Rn) : expand (rightR rs) = expand rs := by
  induction rs with
  | nil => rfl
  | cons r rs ih =>
    by_cases h : kind r = 0
    · rw [rightR, List.filter_cons_of_neg (by simp [h])]
      show expand (rightR rs) = toks r ++ expand rs
      rw [ih, toks_right r h, List.nil_append]
    · rw [rightR, List.filter_cons_of_pos (by simp [h])]
      show toks r ++ expand (rightR rs) = toks r ++ expand rs
      rw [ih]
theorem rightR_all (rs : List Rn) : ∀ x ∈ rightR rs, kind x ≠ 0 := fun x hx => by simpa using (List.mem_filter.1 hx).2

theorem expand_snoc (pre : List Rn) (x : Rn) : expand (pre ++ [x]) = expand pre ++ toks x := by simp [expand]
theorem nscan_snoc (pre : List Rn) (x : Rn) : nscan (expand (pre ++ [x])) = (toks x).foldl tstep (nscan (expand pre)) := by rw [expand_snoc, nscan, List.foldl_append]; rfl

/-- One run more. -/
theorem nstep_zero {s : Ns} {r : Rn} (h : kind r = 0) : (toks r).foldl tstep s = s := by rw [toks_right r h]; rfl
theorem nstep_keep0 {s : Ns} {n : Nat} (hn : n ≠ 0) (hs : s.a = [] ∧ s.d = 0) : (toks (rK n)).foldl tstep s = ⟨s.op, s.k + n, [], 0⟩ := by
  rw [toks_rK hn]
  obtain ⟨op, k, a, d⟩ := s
  obtain ⟨rfl, rfl⟩ := hs
  exact foldl_K0 op k n
theorem nstep_keep1 {s : Ns} {n : Nat} (hn : n ≠ 0) (hs : ¬ (s.a = [] ∧ s.d = 0)) : (toks (rK n)).foldl tstep s = ⟨s.op ++ flush s.k s.a s.d, n, [], 0⟩ := by rw [toks_rK hn, foldl_K1 s n hn hs]
theorem nstep_add {s : Ns} {a : List UInt8} (ha : a ≠ []) : (toks (rA a)).foldl tstep s = ⟨s.op, s.k, s.a ++ a, s.d⟩ := by rw [toks_rA ha, foldl_A]
theorem nstep_drop {s : Ns} {n : Nat} (hn : n ≠ 0) : (toks (rD n)).foldl tstep s = ⟨s.op, s.k, s.a, s.d + n⟩ := by rw [toks_rD hn, foldl_D]

/-- An edit's size. -/
theorem meas_normT {ts : List Tok} (h1 : tIn ts ≤ 16777216) (h2 : tOut ts ≤ 16777216) (h3 : (normT ts).length ≤ 65536) : ∃ j, meas (normT ts) = some ((tIn ts : Int), (tOut ts : Int), j) := by
  obtain ⟨j, hj⟩ := kscan_normT ts
  refine ⟨j, ?_⟩
  rw [meas, if_pos h3, mscan_join, hj, sscan_right (kscan_all hj), tIn_normT, tOut_normT, if_pos ⟨h1, h2⟩]
  rfl
theorem isG_normT {ts : List Tok} (h1 : tIn ts ≤ 16777216) (h2 : tOut ts ≤ 16777216) : isG (normT ts) = decide ((normT ts).length ≤ 65536) := by
  by_cases h3 : (normT ts).length ≤ 65536
  · obtain ⟨j, hj⟩ := meas_normT h1 h2 h3
    rw [isG, hj, decide_eq_true h3]; rfl
  · rw [isG, meas, if_neg h3, decide_eq_false h3]; rfl
theorem sscan_rightR (rs : List Rn) : (sscan (rightR rs)).isSome = decide (tIn (expand rs) ≤ 16777216 ∧ tOut (expand rs) ≤ 16777216) := by
  rw [sscan_right (rightR_all rs), expand_right]
  split
  · rename_i h; rw [decide_eq_true h]; rfl
  · rename_i h; rw [decide_eq_false h]; rfl

/-- What the edit of some runs is. -/
theorem normR_or (rs : List Rn) : ∃ ts, normR rs = normT ts ∧ tIn ts ≤ 16777216 ∧ tOut ts ≤ 16777216 ∧ (normT ts).length ≤ 65536 := by
  unfold normR
  split
  · rename_i h; exact ⟨_, rfl, h⟩
  · exact ⟨[], rfl, by decide, by decide, by decide⟩

theorem isG_normR (rs : List Rn) : isG (normR rs) = true := by
  obtain ⟨ts, e, h1, h2, h3⟩ := normR_or rs
  rw [e, isG_normT h1 h2, decide_eq_true h3]
theorem normR_again (rs rs' : List Rn) (h : expand rs' = expand (normR rs)) : normR rs' = normR rs := by
  obtain ⟨ts, e, h1, h2, h3⟩ := normR_or rs
  rw [normR, h, e, tIn_normT, tOut_normT, normT_again, if_pos ⟨h1, h2, h3⟩]
theorem meas_normR (rs : List Rn) : ∃ j, meas (normR rs) = some ((tIn (expand (normR rs)) : Int), (tOut (expand (normR rs)) : Int), j) := by
  obtain ⟨ts, e, h1, h2, h3⟩ := normR_or rs
  rw [e, tIn_normT, tOut_normT]
  exact meas_normT h1 h2 h3
theorem normR_bounds (rs : List Rn) : tIn (expand (normR rs)) ≤ 16777216 ∧ tOut (expand (normR rs)) ≤ 16777216 ∧ (normR rs).length ≤ 65536 := by
  obtain ⟨ts, e, h1, h2, h3⟩ := normR_or rs
  rw [e, tIn_normT, tOut_normT]
  exact ⟨h1, h2, h3⟩

theorem kscan_le {rs : List Rn} {h : Nat} (e : kscan rs = some h) : h ≤ 3 := by
  rcases rs.eq_nil_or_concat with rfl | ⟨pre, x, rfl⟩
  · simp [kscan] at e; omega
  · rw [List.concat_eq_append, kscan, List.foldl_append, ← kscan] at e
    cases hp : kscan pre with
    | none => rw [hp] at e; simp [kstep] at e
    | some g =>
      rw [hp, List.foldl_cons, List.foldl_nil] at e
      by_cases hb : kbad g x
      · simp [kstep, hb] at e
      · rw [kstep_ok hb] at e
        have := kind_le x
        have e' : kind x = h := by simpa using e
        omega

/-- An edit is its own edit: kinds in order make the same again. -/
theorem nscan_good (rs : List Rn) : ∀ h, kscan rs = some h → nend (nscan (expand rs)) = rs ∧ ((nscan (expand rs)).a = [] ∧ (nscan (expand rs)).d = 0 ↔ h ≤ 1) ∧ ((nscan (expand rs)).d = 0 ↔ h ≤ 2) ∧ ((nscan (expand rs)).k = 0 → (nscan (expand rs)).op = []) ∧ (h = 0 → rs = []) := by
  suffices ∀ n (rs : List Rn), rs.length = n → ∀ h, kscan rs = some h → nend (nscan (expand rs)) = rs ∧ ((nscan (expand rs)).a = [] ∧ (nscan (expand rs)).d = 0 ↔ h ≤ 1) ∧ ((nscan (expand rs)).d = 0 ↔ h ≤ 2) ∧ ((nscan (expand rs)).k = 0 → (nscan (expand rs)).op = []) ∧ (h = 0 → rs = []) from this _ rs rfl
  intro n
  induction n with
  | zero =>
    intro rs hl h hk
    obtain rfl := List.eq_nil_of_length_eq_zero hl
    simp [kscan] at hk
    subst hk
    refine ⟨rfl, ?_, ?_, fun _ => rfl, fun _ => rfl⟩ <;> simp [expand, nscan, ns0]
  | succ n ih =>
    intro rs hl h hk
    obtain ⟨pre, x, rfl⟩ : ∃ pre x, rs = pre ++ [x] := ⟨rs.dropLast, rs.getLast (by intro e; simp [e] at hl), (List.dropLast_concat_getLast _).symm⟩
    have hl' : pre.length = n := by simp at hl; exact hl
    rw [kscan, List.foldl_append, ← kscan] at hk
    cases hp : kscan pre with
    | none => rw [hp] at hk; simp [kstep] at hk
    | some g =>
      rw [hp, List.foldl_cons, List.foldl_nil] at hk
      by_cases hb : kbad g x
      · simp [kstep, hb] at hk
      rw [kstep_ok hb] at hk
      obtain rfl : kind x = h := by simpa using hk
      obtain ⟨i1, i2, i3, i4, i5⟩ := ih pre hl' g hp
      have hx0 : kind x ≠ 0 := fun h => hb (.inl h)
      have hxg : kind x ≠ g := fun h => hb (.inr (.inl h))
      have hx2 : ¬ (kind x = 2 ∧ g = 3) := fun h => hb (.inr (.inr h))
      rw [nscan_snoc]
      generalize nscan (expand pre) = s at i1 i2 i3 i4
      obtain ⟨op, k, a, d⟩ := s
      dsimp only at i2 i3 i4
      rcases kind_cases hx0 with ⟨m, hm, rfl⟩ | ⟨b, hb', rfl⟩ | ⟨m, hm, rfl⟩
      · rw [kind_rK hm] at hxg ⊢
        by_cases hg : g ≤ 1
        · obtain rfl : g = 0 := by omega
          obtain rfl := i5 rfl
          obtain ⟨rfl, rfl⟩ := i2.2 (by omega)
          have : op = [] ∧ k = 0 := by
            have e := i1
            simp only [nend, flush] at e
            simp at e
            obtain ⟨e1, e2⟩ := e
            refine ⟨e1, ?_⟩
            exact Decidable.byContradiction fun h => by simp [h] at e2
          obtain ⟨rfl, rfl⟩ := this
          rw [nstep_keep0 hm ⟨rfl, rfl⟩]
          refine ⟨?_, by simp, by simp, fun h => ?_, by omega⟩
          · simp [nend, flush, hm]
          · dsimp only at h; omega
        · have hs : ¬ (a = [] ∧ d = 0) := fun h => hg (i2.1 h)
          rw [nstep_keep1 hm hs]
          refine ⟨?_, by simp, by simp, fun h => ?_, by omega⟩
          · rw [← i1]; simp [nend, flush, hm]
          · dsimp only at h; exact absurd h hm
      · rw [kind_rA hb'] at hxg hx2 ⊢
        have hg : g ≤ 1 := by
          have : g ≠ 3 := fun h => hx2 ⟨rfl, h⟩
          have h4 := kscan_le hp
          omega
        obtain ⟨rfl, rfl⟩ := i2.2 hg
        rw [nstep_add hb']
        refine ⟨?_, by simp [hb'], by simp, i4, by omega⟩
        rw [← i1]; simp [nend, flush, hb']
      · rw [kind_rD hm] at hxg ⊢
        have hg : g ≤ 2 := by
          have h4 := kscan_le hp
          omega
        obtain rfl := i3.2 hg
        rw [nstep_drop hm]
        refine ⟨?_, by simp; omega, by simp; omega, i4, by omega⟩
        rw [← i1]; simp [nend, flush, hm]

/-- An edit is its own edit. -/
theorem normT_good {rs : List Rn} (h : isG rs = true) : normT (expand rs) = rs := by
  rw [isG, meas] at h
  split at h
  · rw [mscan_join] at h
    cases hk : kscan rs with
    | none => rw [hk] at h; simp [join] at h
    | some j => exact (nscan_good rs j hk).1
  · simp at h
theorem good_facts {rs : List Rn} (h : isG rs = true) : ∃ j, meas rs = some ((tIn (expand rs) : Int), (tOut (expand rs) : Int), j) ∧ tIn (expand rs) ≤ 16777216 ∧ tOut (expand rs) ≤ 16777216 ∧ rs.length ≤ 65536 := by
  obtain ⟨s, hm, hs, hK⟩ := isG_some h
  rw [sscan_right hK] at hs
  split at hs
  · rename_i hb
    have hl : rs.length ≤ 65536 := by
      rw [meas] at hm
      split at hm
      · assumption
      · cases hm
    obtain ⟨i, o, j⟩ := s
    simp only [Option.some.injEq, Prod.mk.injEq] at hs
    exact ⟨j, by rw [hm, hs.1, hs.2], hb.1, hb.2, hl⟩
  · cases hs
theorem normR_good {rs : List Rn} (h : isG rs = true) : normR rs = rs := by
  obtain ⟨j, hm, h1, h2, h3⟩ := good_facts h
  rw [normR, normT_good h, if_pos ⟨h1, h2, h3⟩]

end Go.Proofs.Ytecmiphmefbpnaa.E
