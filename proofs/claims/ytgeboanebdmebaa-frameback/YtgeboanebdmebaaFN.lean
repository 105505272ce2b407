/- frame: the document's parse, whatever comes, and its Get. -/
import Derived.Test.YtgeboanebdmebaaFM
namespace Go.Proofs.Ytgeboanebdmebaa.F
open Go.Proofs.Ytgeboanebdmebaa Go.RowKit Go.By
set_option linter.unusedVariables false
set_option linter.unusedSimpArgs false
set_option maxRecDepth 20000
attribute [local go_sem ↓] Go.wp_at_zero Go.wp_at_succ

theorem refN_some {l : List Nat} {p : Nat × Nat} (h : Vary.num l = some p) : Vary.refN l = p := by unfold Vary.refN; rw [h]
theorem refN_none {l : List Nat} (h : Vary.num l = none) : Vary.refN l = (0, 0) := by unfold Vary.refN; rw [h]
theorem refT_some {l : List Nat} {p : List Nat × Nat} (h : Vary.txt l = some p) : Vary.refT l = p := by unfold Vary.refT; rw [h]
theorem refT_none {l : List Nat} (h : Vary.txt l = none) : Vary.refT l = ([], 0) := by unfold Vary.refT; rw [h]

theorem parse_any (a : Option Addr) (l : List Nat) (n cap : Nat) (w : World) (hn : l.length = n) (hL : Came w.heap.size w a l) (hm : n ≤ 5000) (hcap : n ≤ cap) :
    Calls Try.prog 79 #[.slice a n cap] w fun e W' => e = .returned (.tuple #[.agg #[.int .i64 (parseP l).1.1, .int .i64 (parseP l).1.2.1, .int .i64 (parseP l).1.2.2.1, .string (parseP l).1.2.2.2], .bool (parseP l).2]) ∧ Below w.heap.size w W' := by
  have hd : ∀ q, ∀ c ∈ l.drop q, c < 256 := fun q c hc => hL.1 c (List.mem_of_mem_drop hc)
  have H := parseH_of a l n cap w hn hL (by omega) hcap
  cases h1 : Vary.num l with
  | none =>
    exact parse_v1 a l n cap w _ _ _ _ _ _ _ _ (parseP l) (by rw [refN_none h1]) H (by unfold parseP parse4; rw [h1])
  | some p1 =>
    obtain ⟨e, i⟩ := p1
    have r1 := refN_some h1
    have z1 := (Vary.num_back hL.1 h1).2.2.1
    simp only [r1] at H
    cases h2 : Vary.num (l.drop i) with
    | none =>
      exact parse_v2 a l n cap w _ _ _ _ _ _ _ _ (parseP l) (by omega) (by rw [refN_none h2]) H (by unfold parseP parse4; rw [h1]; simp only [h2])
    | some p2 =>
      obtain ⟨s, j⟩ := p2
      have r2 := refN_some h2
      have z2 := (Vary.num_back (hd i) h2).2.2.1
      simp only [r2] at H
      cases h3 : Vary.num (l.drop (i + j)) with
      | none =>
        exact parse_v3 a l n cap w _ _ _ _ _ _ _ _ (parseP l) (by omega) (by omega) (by rw [refN_none h3]) H (by unfold parseP parse4; rw [h1]; simp only [h2, h3])
      | some p3 =>
        obtain ⟨c, k⟩ := p3
        have r3 := refN_some h3
        have z3 := (Vary.num_back (hd (i + j)) h3).2.2.1
        simp only [r3] at H
        cases h4 : Vary.txt (l.drop (i + j + k)) with
        | none =>
          exact parse_v4 a l n cap w _ _ _ _ _ _ _ _ (parseP l) (by omega) (by omega) (by omega) (by rw [refT_none h4]) H (by unfold parseP parse4; rw [h1]; simp only [h2, h3, h4])
        | some p4 =>
          obtain ⟨d, q⟩ := p4
          have r4 := refT_some h4
          obtain ⟨t1, z4, t3, t4, t5⟩ := Vary.txt_back (hd (i + j + k)) h4
          simp only [r4] at H
          have hp : parse4 l = if i + j + k + q = l.length then some (e, s, c, d) else none := by unfold parse4; rw [h1]; simp only [h2, h3, h4]
          have hiff := body_iff hL.1 h1 h2 h3 h4
          have hsd : (str d).size ≤ 5000 := by rw [str_size]; rw [List.length_drop] at t3; omega
          cases hg : goodP e s c (str d) with
          | false =>
            refine parse_v5 a l n cap w _ _ _ _ _ _ _ _ (parseP l) (by omega) (by omega) (by omega) (by omega) hg H ?_
            unfold parseP
            rw [hp]
            by_cases hx : i + j + k + q = l.length
            · rw [if_pos hx]; simp only [hg]; rfl
            · rw [if_neg hx]
          | true =>
            by_cases hx : i + j + k + q = l.length
            · refine parse_v7 a l n cap w _ _ _ _ _ _ _ _ (parseP l) (by omega) (by omega) (by omega) (by omega) hg hsd (hiff.2 hx) H ?_
              unfold parseP
              rw [hp, if_pos hx]
              simp only [hg]
              rfl
            · refine parse_v6 a l n cap w _ _ _ _ _ _ _ _ (parseP l) (by omega) (by omega) (by omega) (by omega) hg hsd ?_ H ?_
              · refine C.str_ne ?_ hL.1 (fun e => hx (hiff.1 e))
                rw [(body_back hL.1 h1 h2 h3 h4).1]
                exact fun c hc => hL.1 c (List.mem_of_mem_take hc)
              · unfold parseP
                rw [hp, if_neg hx]
end Go.Proofs.Ytgeboanebdmebaa.F
