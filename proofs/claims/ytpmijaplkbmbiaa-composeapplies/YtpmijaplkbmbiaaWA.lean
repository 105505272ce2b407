/- Two edits as one, byte by byte. -/
import Derived.Test.YtpmijaplkbmbiaaUB
namespace Go.Proofs.Ytpmijaplkbmbiaa.E
open Go.Proofs.Ytpmijaplkbmbiaa Go.RowKit Go.By Go.Shelf
set_option linter.unusedVariables false
set_option linter.unusedSimpArgs false

/-- What two edits make as one. -/
def cT : List Tok → List Tok → List Tok
  | .D :: xs, ys => .D :: cT xs ys
  | [], .A b :: ys => .A b :: cT [] ys
  | .K :: xs, .A b :: ys => .A b :: cT (.K :: xs) ys
  | .A c :: xs, .A b :: ys => .A b :: cT (.A c :: xs) ys
  | .K :: xs, .K :: ys => .K :: cT xs ys
  | .A b :: xs, .K :: ys => .A b :: cT xs ys
  | .K :: xs, .D :: ys => .D :: cT xs ys
  | .A _ :: xs, .D :: ys => cT xs ys
  | _, _ => []
termination_by xs ys => xs.length + ys.length

theorem cT_sums (xs ys : List Tok) : tOut xs = tIn ys → tIn (cT xs ys) = tIn xs ∧ tOut (cT xs ys) = tOut ys := by
  induction xs, ys using cT.induct with
  | case1 xs ys ih => intro h; rw [cT]; simp only [tIn, tOut] at h ⊢; have := ih h; omega
  | case2 b ys ih => intro h; rw [cT]; simp only [tIn, tOut] at h ⊢; have := ih (by simpa [tOut] using h); simp only [tIn] at this; omega
  | case3 xs b ys ih => intro h; rw [cT]; simp only [tIn, tOut] at h ⊢; have := ih (by simpa [tOut] using h); simp only [tIn] at this; omega
  | case4 c xs b ys ih => intro h; rw [cT]; simp only [tIn, tOut] at h ⊢; have := ih (by simpa [tOut] using h); simp only [tIn] at this; omega
  | case5 xs ys ih => intro h; rw [cT]; simp only [tIn, tOut] at h ⊢; have := ih (by omega); omega
  | case6 b xs ys ih => intro h; rw [cT]; simp only [tIn, tOut] at h ⊢; have := ih (by omega); omega
  | case7 xs ys ih => intro h; rw [cT]; simp only [tIn, tOut] at h ⊢; have := ih (by omega); omega
  | case8 b xs ys ih => intro h; rw [cT]; simp only [tIn, tOut] at h ⊢; have := ih (by omega); omega
  | case9 xs ys h1 h2 h3 h4 h5 h6 h7 h8 =>
    intro h
    rcases xs with _ | ⟨x, xs⟩
    · rcases ys with _ | ⟨y, ys⟩
      · simp [cT, tIn, tOut]
      · cases y with
        | K => simp [tIn, tOut] at h
        | A b => exact absurd rfl (h2 b ys rfl)
        | D => simp [tIn, tOut] at h
    · cases x with
      | D => exact absurd rfl (h1 xs)
      | K => rcases ys with _ | ⟨y, ys⟩
             · simp [tIn, tOut] at h
             · cases y with
               | K => exact absurd rfl (h5 xs ys rfl)
               | A b => exact absurd rfl (h3 xs b ys rfl)
               | D => exact absurd rfl (h7 xs ys rfl)
      | A c => rcases ys with _ | ⟨y, ys⟩
               · simp [tIn, tOut] at h
               · cases y with
                 | K => exact absurd rfl (h6 c xs ys rfl)
                 | A b => exact absurd rfl (h4 c xs b ys rfl)
                 | D => exact absurd rfl (h8 c xs ys rfl)

/-- What an edit makes of a text, from its head on. -/
def ap : List UInt8 → List Tok → List UInt8
  | s, .A b :: ts => b :: ap s ts
  | c :: s, .K :: ts => c :: ap s ts
  | _ :: s, .D :: ts => ap s ts
  | _, _ => []
theorem af_ap (s : List UInt8) (ts : List Tok) : ∀ x : As, x.pos + tIn ts ≤ s.length → (ts.foldl (astep s) x).out = x.out ++ ap (s.drop x.pos) ts := by
  induction ts with
  | nil => intro x _; cases h : s.drop x.pos <;> simp [ap]
  | cons t ts ih =>
    intro x h
    rw [List.foldl_cons]
    cases t with
    | A b => rw [ih _ (by simpa [astep, tIn] using h)]; simp [astep, ap]
    | K =>
      simp only [tIn] at h
      rw [ih _ (by simp only [astep]; omega)]
      have hd : s.drop x.pos = s[x.pos]'(by omega) :: s.drop (x.pos + 1) := List.drop_eq_getElem_cons (by omega)
      simp only [astep, ap, List.append_assoc]
      rw [hd]
      rfl
    | D =>
      simp only [tIn] at h
      rw [ih _ (by simp only [astep]; omega)]
      have hd : s.drop x.pos = s[x.pos]'(by omega) :: s.drop (x.pos + 1) := List.drop_eq_getElem_cons (by omega)
      simp only [astep]
      rw [hd]
      simp [ap]
theorem applT_ap {s : List UInt8} {ts : List Tok} (h : tIn ts ≤ s.length) : applT s ts = ap s ts := by
  rw [applT, ascan, af_ap _ _ _ (by simpa [as0] using h)]; simp [as0]
theorem ap_len (ts : List Tok) : ∀ s : List UInt8, tIn ts ≤ s.length → (ap s ts).length = tOut ts := fun s h => by rw [← applT_ap h, applT_len h]

/-- What is composed makes what both make. -/
theorem cT_ap (xs ys : List Tok) : ∀ s : List UInt8, tOut xs = tIn ys → tIn xs ≤ s.length → ap s (cT xs ys) = ap (ap s xs) ys := by
  induction xs, ys using cT.induct with
  | case1 xs ys ih =>
    intro s h hl
    rcases s with _ | ⟨c, s⟩
    · simp [tIn] at hl
    · rw [cT]; simp only [ap, tIn, tOut, List.length_cons] at h hl ⊢; exact ih s h (by omega)
  | case2 b ys ih =>
    intro s h hl
    rw [cT]; simp only [ap]; rw [ih s (by simpa [tIn, tOut] using h) (by simp [tIn])]
    have e : ap s [] = [] := by cases s <;> simp [ap]
    simp only [e, ap]
  | case3 xs b ys ih =>
    intro s h hl
    rw [cT]; simp only [ap]; rw [ih s (by simpa [tIn, tOut] using h) (by simpa [tIn] using hl)]
  | case4 c xs b ys ih =>
    intro s h hl
    rw [cT]; simp only [ap]; rw [ih s (by simpa [tIn, tOut] using h) (by simpa [tIn] using hl)]; simp only [ap]
  | case5 xs ys ih =>
    intro s h hl
    rcases s with _ | ⟨c, s⟩
    · simp [tIn] at hl
    · rw [cT]; simp only [ap, tIn, tOut, List.length_cons] at h hl ⊢; rw [ih s (by omega) (by omega)]
  | case6 b xs ys ih =>
    intro s h hl
    rw [cT]; simp only [ap, tIn, tOut] at h hl ⊢; rw [ih s (by omega) (by omega)]
  | case7 xs ys ih =>
    intro s h hl
    rcases s with _ | ⟨c, s⟩
    · simp [tIn] at hl
    · rw [cT]; simp only [ap, tIn, tOut, List.length_cons] at h hl ⊢; rw [ih s (by omega) (by omega)]
  | case8 b xs ys ih =>
    intro s h hl
    rw [cT]; simp only [ap, tIn, tOut] at h hl ⊢; rw [ih s (by omega) (by omega)]
  | case9 xs ys h1 h2 h3 h4 h5 h6 h7 h8 =>
    intro s h hl
    rcases xs with _ | ⟨x, xs⟩
    · rcases ys with _ | ⟨y, ys⟩
      · simp [cT, ap]
      · cases y with
        | K => simp [tIn, tOut] at h
        | A b => exact absurd rfl (h2 b ys rfl)
        | D => simp [tIn, tOut] at h
    · cases x with
      | D => exact absurd rfl (h1 xs)
      | K => rcases ys with _ | ⟨y, ys⟩
             · simp [tIn, tOut] at h
             · cases y with
               | K => exact absurd rfl (h5 xs ys rfl)
               | A b => exact absurd rfl (h3 xs b ys rfl)
               | D => exact absurd rfl (h7 xs ys rfl)
      | A c => rcases ys with _ | ⟨y, ys⟩
               · simp [tIn, tOut] at h
               · cases y with
                 | K => exact absurd rfl (h6 c xs ys rfl)
                 | A b => exact absurd rfl (h4 c xs b ys rfl)
                 | D => exact absurd rfl (h8 c xs ys rfl)

/-- With one that changes nothing an edit composes to itself. -/
theorem cT_idle_left (ys : List Tok) : cT (List.replicate (tIn ys) .K) ys = ys := by
  induction ys with
  | nil => simp [tIn, cT]
  | cons y ys ih =>
    cases y with
    | K => rw [tIn, List.replicate_succ, cT, ih]
    | D => rw [tIn, List.replicate_succ, cT, ih]
    | A b =>
      rw [tIn]
      cases h : tIn ys with
      | zero => rw [h] at ih; rw [List.replicate_zero, cT, ← List.replicate_zero (a := Tok.K), ih]
      | succ n => rw [h] at ih; rw [List.replicate_succ, cT, ← List.replicate_succ, ih]
theorem cT_idle_right (xs : List Tok) : cT xs (List.replicate (tOut xs) .K) = xs := by
  induction xs with
  | nil => simp [tOut, cT]
  | cons x xs ih =>
    cases x with
    | K => rw [tOut, List.replicate_succ, cT, ih]
    | D => rw [tOut, cT, ih]
    | A b => rw [tOut, List.replicate_succ, cT, ih]

theorem cT_len (xs ys : List Tok) : (cT xs ys).length ≤ xs.length + ys.length := by
  induction xs, ys using cT.induct with
  | case1 xs ys ih => rw [cT]; simp only [List.length_cons]; omega
  | case2 b ys ih => rw [cT]; simp only [List.length_cons, List.length_nil] at ih ⊢; omega
  | case3 xs b ys ih => rw [cT]; simp only [List.length_cons] at ih ⊢; omega
  | case4 c xs b ys ih => rw [cT]; simp only [List.length_cons] at ih ⊢; omega
  | case5 xs ys ih => rw [cT]; simp only [List.length_cons]; omega
  | case6 b xs ys ih => rw [cT]; simp only [List.length_cons]; omega
  | case7 xs ys ih => rw [cT]; simp only [List.length_cons]; omega
  | case8 b xs ys ih => rw [cT]; simp only [List.length_cons]; omega
  | case9 xs ys h1 h2 h3 h4 h5 h6 h7 h8 => rw [cT] <;> first | exact Nat.zero_le _ | assumption

end Go.Proofs.Ytpmijaplkbmbiaa.E
