/- compose: two edits as one: what comes of the pairs. -/
import Derived.Test.YtpmijaplkbmbiaaWL
namespace Go.Proofs.Ytpmijaplkbmbiaa.E
open Go.Proofs.Ytpmijaplkbmbiaa Go.RowKit Go.By Go.Shelf
set_option linter.unusedVariables false
set_option linter.unusedSimpArgs false

/-- What comes of pairs, but for what is nothing. -/
def outL (l : List (Rn × Rn)) : List Rn := (l.map fun z => bothR z.1 z.2).filter fun r => decide (kind r ≠ 0)
theorem outL_snoc (l : List (Rn × Rn)) (z : Rn × Rn) : outL (l ++ [z]) = outL l ++ (if kind (bothR z.1 z.2) ≠ 0 then [bothR z.1 z.2] else []) := by
  unfold outL
  rw [List.map_append, List.filter_append]
  congr 1
  by_cases h : kind (bothR z.1 z.2) = 0 <;> simp [h]
theorem expand_outL (l : List (Rn × Rn)) : expand (outL l) = expand (l.map fun z => bothR z.1 z.2) := by
  induction l with
  | nil => rfl
  | cons z l ih =>
    rw [List.map_cons, expand_cons, ← ih]
    unfold outL
    rw [List.map_cons]
    by_cases h : kind (bothR z.1 z.2) = 0
    · rw [List.filter_cons_of_neg (by simp [h]), toks_zero h, List.nil_append]
    · rw [List.filter_cons_of_pos (by simp [h]), expand_cons]
theorem outL_kinds (l : List (Rn × Rn)) : ∀ x ∈ outL l, kind x ≠ 0 := fun x hx => by simpa using (List.mem_filter.1 hx).2
theorem len_kinds {L : List Rn} (h : ∀ x ∈ L, kind x ≠ 0) : L.length ≤ (expand L).length := by
  induction L with
  | nil => exact Nat.le_refl _
  | cons x xs ih =>
    rw [len_cons (h x List.mem_cons_self), List.length_cons]
    have := lenR_pos (h x List.mem_cons_self)
    have := ih fun y hy => h y (List.mem_cons_of_mem _ hy)
    omega
theorem nil_kinds {L : List Rn} (h : ∀ x ∈ L, kind x ≠ 0) : L = [] ↔ expand L = [] := by
  constructor
  · rintro rfl; rfl
  · intro e
    have := len_kinds h
    rw [e] at this
    exact List.eq_nil_of_length_eq_zero (by simpa using this)

theorem kr_rn0 : KR rn0 := .inr rfl
theorem kr_pc0 {x : Rn} (h : KR x) {m : Nat} (hm : m ≤ lenR x) : KR (pcR x 0 m) := by
  by_cases h0 : m = 0
  · subst h0; rw [pcR_same]; exact kr_rn0
  rcases h with h | rfl
  · rcases kind_cases h with ⟨n, hn, rfl⟩ | ⟨l, hl, rfl⟩ | ⟨n, hn, rfl⟩
    · rw [lenR_rK] at hm
      rw [pcR_rK hn (Nat.zero_le _)]
      exact .inl (by rw [kind_rK (by omega)]; decide)
    · rw [lenR_rA] at hm
      rw [pcR_rA, List.drop_zero]
      exact .inl (by rw [kind_rA (by intro e; rw [Nat.sub_zero] at e; have := congrArg List.length e; rw [List.length_take, List.length_nil] at this; have := List.length_pos_iff.2 hl; omega)]; decide)
    · rw [lenR_rD] at hm
      rw [pcR_rD hn (Nat.zero_le _)]
      exact .inl (by rw [kind_rD (by omega)]; decide)
  · rw [lenR_rn0] at hm; omega
theorem kr_both {x y : Rn} (hx : KR x) (hy : KR y) : KR (bothR x y) := by
  unfold bothR
  split
  · rcases hx with hx | rfl
    · rcases kind_cases hx with ⟨n, hn, rfl⟩ | ⟨l, hl, rfl⟩ | ⟨n, hn, rfl⟩
      · exact .inl (show kind (rD n) ≠ 0 by rw [kind_rD hn]; decide)
      · exact .inr rfl
      · exact .inr rfl
    · exact .inr rfl
  · split
    · exact hy
    · exact hx
theorem prs_kr (k : Nat) : ∀ (a b : List Rn), (∀ x ∈ a, kind x ≠ 0) → (∀ x ∈ b, kind x ≠ 0) → ∀ z ∈ prs k a b, KR z.1 ∧ KR z.2 := by
  induction k with
  | zero => intro a b _ _ z hz; cases hz
  | succ k ih =>
    intro a b ha hb z hz
    by_cases hs : (stepM (a.headD rn0) (b.headD rn0)).1 = 0 ∧ (stepM (a.headD rn0) (b.headD rn0)).2 = 0
    · rw [prs_none ha hb hs] at hz; cases hz
    · have hle := stepM_le (a.headD rn0) (b.headD rn0)
      rw [prs_some ha hb rfl hs] at hz
      rcases List.mem_cons.1 hz with rfl | hz
      · exact ⟨kr_pc0 (rem_head ha).kr hle.1, kr_pc0 (rem_head hb).kr hle.2⟩
      · exact ih _ _ (rst_kinds ha hle.1) (rst_kinds hb hle.2) z hz

/-- The edit of some tokens. -/
def normK (ts : List Tok) : List Rn := if tIn ts ≤ 16777216 ∧ tOut ts ≤ 16777216 ∧ (normT ts).length ≤ 65536 then normT ts else []
theorem normR_K (rs : List Rn) : normR rs = normK (expand rs) := rfl
def twoT (a b : List Rn) : List Tok := cT (expand a) (expand b)
/-- Does one edit fit behind the other? -/
def fit2 (a b : List Rn) : Bool := (isG a && isG b) && decide (mOut (meas a) = mIn (meas b))
def twoO (a b : List Rn) : List Rn := if fit2 a b then normK (twoT a b) else []
def twoE (a b : List Rn) : Int := if fit2 a b then (if normK (twoT a b) = [] ∧ twoT a b ≠ [] then 31 else 0) else 60
theorem fit2_facts {a b : List Rn} (h : fit2 a b = true) : isG a = true ∧ isG b = true ∧ (∀ x ∈ a, kind x ≠ 0) ∧ (∀ x ∈ b, kind x ≠ 0) ∧ tOut (expand a) = tIn (expand b) ∧ a.length ≤ 65536 ∧ b.length ≤ 65536 := by
  unfold fit2 at h
  rw [Bool.and_eq_true, Bool.and_eq_true, decide_eq_true_eq] at h
  obtain ⟨⟨h1, h2⟩, h3⟩ := h
  obtain ⟨j, e1, _, _, l1⟩ := good_facts h1
  obtain ⟨j', e2, _, _, l2⟩ := good_facts h2
  refine ⟨h1, h2, good_kinds h1, good_kinds h2, ?_, l1, l2⟩
  rw [e1, e2] at h3
  have : ((tOut (expand a) : Nat) : Int) = ((tIn (expand b) : Nat) : Int) := h3
  omega
/-- What comes of all pairs. -/
theorem outL_two {a b : List Rn} (h : fit2 a b = true) {K : Nat} (hK : (expand a).length + (expand b).length ≤ K) : expand (outL (prs K a b)) = twoT a b := by
  obtain ⟨_, _, h1, h2, h3, _⟩ := fit2_facts h
  rw [expand_outL, prs_cT K a b h1 h2 h3 hK]; rfl

theorem pairs_stops (n : Nat) (hn : 1 ≤ n) (Ba Bb n₀ N cap cap' Kt : Nat) (a b : Option Addr) (rs ss : List Rn) (w : World) (hr : ∀ x ∈ rs, kind x ≠ 0) (hs : ∀ x ∈ ss, kind x ≠ 0) (hKt : (expand rs).length + (expand ss).length ≤ Kt) (hKb : Kt ≤ 100000000)
    (hn₀ : n₀ ≤ w.heap.size) (ha : w.heap[Ba]? = some (.cells #[.slice a rs.length cap] 77 (0, 0))) (hb : w.heap[Bb]? = some (.cells #[.slice b ss.length cap'] 77 (0, 0))) (hS : CameR n₀ w a rs) (hS' : CameR n₀ w b ss) (hc : rs.length ≤ cap) (hc' : ss.length ≤ cap') :
    SeqIn 4 N Fence.wide n Try.prog 140 #[.pointer (some ⟨Ba, 0, none⟩), .pointer (some ⟨Bb, 0, none⟩)] encQ (KeepQ n₀ N) (fun zs => zs = prs Kt rs ss) (fun pre => pre <+: prs Kt rs ss) (fun pre x => pre ++ [x] <+: prs Kt rs ss) w := fun l J Jx W hW hN hJ hJx hY h0 =>
  pairs1 n hn l Ba Bb n₀ N cap cap' Kt a b rs ss J Jx W hN (by rw [← hN]; exact hJ) hr hs hKt hKb hY (by rw [← hN]; exact Nat.le_trans hn₀ hW.size) ((hW.block _ (lt_of_heap ha)).trans ha) ((hW.block _ (lt_of_heap hb)).trans hb) (hS.below (hW.mono hn₀)) (hS'.below (hW.mono hn₀)) hc hc' h0

end Go.Proofs.Ytpmijaplkbmbiaa.E
