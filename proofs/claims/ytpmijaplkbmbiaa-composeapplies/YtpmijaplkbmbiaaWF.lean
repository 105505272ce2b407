/- An edit of so many tokens has no more runs; what of two edits is composed, normed. -/
import Derived.Test.YtpmijaplkbmbiaaWE
namespace Go.Proofs.Ytpmijaplkbmbiaa.E
open Go.Proofs.Ytpmijaplkbmbiaa Go.RowKit Go.By Go.Shelf
set_option linter.unusedVariables false
set_option linter.unusedSimpArgs false

theorem flush_few (k : Nat) (a : List UInt8) (d : Nat) : (flush k a d).length ≤ k + a.length + d := by
  have h1 : ∀ n, n ≠ 0 → 1 ≤ n := fun n h => by omega
  unfold flush
  cases a <;> by_cases h1 : k = 0 <;> by_cases h2 : d = 0 <;> simp [h1, h2] <;> omega
theorem len_tstep (s : Ns) (t : Tok) : (tstep s t).op.length + (tstep s t).k + (tstep s t).a.length + (tstep s t).d ≤ s.op.length + s.k + s.a.length + s.d + 1 := by
  have hf := flush_few s.k s.a s.d
  cases t with
  | K =>
    by_cases h : s.a = [] ∧ s.d = 0
    · rw [tstep_K0 h]; simp only [h.1, h.2]; omega
    · rw [tstep_K1 h]; simp only [List.length_append, List.length_nil]; omega
  | A b => simp only [tstep, List.length_append, List.length_cons, List.length_nil]; omega
  | D => simp only [tstep]; omega
theorem len_nscan (ts : List Tok) : ∀ s : Ns, (ts.foldl tstep s).op.length + (ts.foldl tstep s).k + (ts.foldl tstep s).a.length + (ts.foldl tstep s).d ≤ s.op.length + s.k + s.a.length + s.d + ts.length := by
  induction ts with
  | nil => intro s; exact Nat.le_refl _
  | cons t ts ih => intro s; rw [List.foldl_cons]; have := ih (tstep s t); have := len_tstep s t; simp only [List.length_cons]; omega
theorem len_normW (ts : List Tok) : (normT ts).length ≤ ts.length := by
  have h := len_nscan ts ns0
  have hf := flush_few (nscan ts).k (nscan ts).a (nscan ts).d
  rw [normT, nend, List.length_append]
  have e : (ns0.op.length + ns0.k + ns0.a.length + ns0.d) = 0 := rfl
  have h' : (nscan ts).op.length + (nscan ts).k + (nscan ts).a.length + (nscan ts).d ≤ 0 + ts.length := by rw [← e]; exact h
  omega

end Go.Proofs.Ytpmijaplkbmbiaa.E
