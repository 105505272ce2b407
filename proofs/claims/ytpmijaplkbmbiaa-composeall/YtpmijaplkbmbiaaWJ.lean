/- compose: two edits side by side, step by step as two readers go over them. -/
import Derived.Test.YtpmijaplkbmbiaaWI
namespace Go.Proofs.Ytpmijaplkbmbiaa.E
open Go.Proofs.Ytpmijaplkbmbiaa Go.RowKit Go.By Go.Shelf
set_option linter.unusedVariables false
set_option linter.unusedSimpArgs false

/-- A right run, or a plain one. -/
def KR (x : Rn) : Prop := kind x ≠ 0 ∨ x = rn0
theorem lenR_rn0 : lenR rn0 = 0 := rfl
theorem pcR_same (x : Rn) (m : Nat) : pcR x m m = rn0 := by
  have h0 : (m : Int) - (m : Int) = 0 := by omega
  have he : x.add.extract m m = ⟨#[]⟩ := ba_eq (by rw [ext_list, Nat.sub_self, List.take_zero])
  unfold pcR
  rw [h0, he]
  split
  · rfl
  · split <;> rfl
theorem lenR_pos {x : Rn} (h : kind x ≠ 0) : 0 < lenR x := by
  rcases kind_cases h with ⟨n, hn, rfl⟩ | ⟨l, hl, rfl⟩ | ⟨n, hn, rfl⟩
  · rw [lenR_rK]; omega
  · rw [lenR_rA]; exact List.length_pos_iff.2 hl
  · rw [lenR_rD]; omega
theorem pcR_full {x : Rn} (h : KR x) : pcR x 0 (lenR x) = x := by
  rcases h with h | rfl
  · rcases kind_cases h with ⟨n, hn, rfl⟩ | ⟨l, hl, rfl⟩ | ⟨n, hn, rfl⟩
    · rw [lenR_rK, pcR_rK hn (Nat.zero_le _), Nat.sub_zero]
    · rw [lenR_rA, pcR_rA, List.drop_zero, Nat.sub_zero, List.take_length]
    · rw [lenR_rD, pcR_rD hn (Nat.zero_le _), Nat.sub_zero]
  · exact pcR_same rn0 0
theorem pcR_more {x : Rn} (h : kind x ≠ 0) {m : Nat} (hm : m < lenR x) : kind (pcR x m (lenR x)) ≠ 0 ∧ lenR (pcR x m (lenR x)) = lenR x - m := by
  rcases kind_cases h with ⟨n, hn, rfl⟩ | ⟨l, hl, rfl⟩ | ⟨n, hn, rfl⟩
  · rw [lenR_rK] at hm ⊢
    rw [pcR_rK hn (by omega), kind_rK (by omega), lenR_rK]
    exact ⟨by decide, rfl⟩
  · rw [lenR_rA] at hm ⊢
    have he : (l.drop m).take (l.length - m) = l.drop m := List.take_of_length_le (by simp)
    have hne : l.drop m ≠ [] := by
      intro e; have := congrArg List.length e; simp at this; omega
    rw [pcR_rA, he, kind_rA hne, lenR_rA, List.length_drop]
    exact ⟨by decide, rfl⟩
  · rw [lenR_rD] at hm ⊢
    rw [pcR_rD hn (by omega), kind_rD (by omega), lenR_rD]
    exact ⟨by decide, rfl⟩
theorem pcR_zero3 {x : Rn} (h : KR x) {m : Nat} (hm : m ≤ lenR x) (h1 : (pcR x m (lenR x)).keep = 0) (h2 : (pcR x m (lenR x)).add.toList = []) (h3 : (pcR x m (lenR x)).drop = 0) : m = lenR x := by
  rcases h with h | rfl
  · rcases Nat.lt_or_ge m (lenR x) with hlt | hge
    · exfalso
      refine (pcR_more h hlt).1 ?_
      generalize pcR x m (lenR x) = z at *
      obtain ⟨a, b, c⟩ := z
      exact kind_zero (fun hh => by have := hh.1; simp only at h1; omega) (fun hh => hh.2.1 h2) (fun hh => by have := hh.2.2; simp only at h3; omega)
    · omega
  · rw [lenR_rn0] at hm ⊢; omega

/-- What a reader is at, and what lies behind, when it left m bytes. -/
def readA (x : Rn) (m : Nat) (ops : List Rn) : Rn × List Rn := if m = lenR x then (ops.headD rn0, ops.tail) else (pcR x m (lenR x), ops)
/-- So much is left. -/
def Rem (x : Rn) (ops L : List Rn) : Prop := (kind x ≠ 0 ∧ L = x :: ops) ∨ (x = rn0 ∧ L = ops)
theorem Rem.kr {x : Rn} {ops L : List Rn} (h : Rem x ops L) : KR x := h.elim (fun h => .inl h.1) fun h => .inr h.1
theorem rem_start {x : Rn} {ops L : List Rn} (h : Rem x ops L) : readA x 0 ops = (L.headD rn0, L.tail) := by
  rcases h with ⟨h, rfl⟩ | ⟨rfl, rfl⟩
  · rw [readA, if_neg (by have := lenR_pos h; omega), pcR_full (.inl h)]; rfl
  · show (if 0 = lenR rn0 then _ else _) = _
    rw [if_pos lenR_rn0.symm]
/-- What is left behind m bytes. -/
def rst : List Rn → Nat → List Rn
  | [], _ => []
  | x :: xs, m => restR x m xs
theorem rem_head {L : List Rn} (h : ∀ x ∈ L, kind x ≠ 0) : Rem (L.headD rn0) L.tail L := by
  cases L with
  | nil => exact .inr ⟨rfl, rfl⟩
  | cons x xs => exact .inl ⟨h x List.mem_cons_self, rfl⟩
theorem rem_go {L : List Rn} (h : ∀ x ∈ L, kind x ≠ 0) {m : Nat} (hm : m ≤ lenR (L.headD rn0)) : Rem (readA (L.headD rn0) m L.tail).1 (readA (L.headD rn0) m L.tail).2 (rst L m) := by
  cases L with
  | nil =>
    have : m = 0 := by have : m ≤ 0 := hm; omega
    subst this
    exact .inr ⟨rfl, rfl⟩
  | cons x xs =>
    show Rem (readA x m xs).1 (readA x m xs).2 (restR x m xs)
    unfold readA restR
    by_cases hl : m = lenR x
    · rw [if_pos hl, if_pos hl]; exact rem_head fun y hy => h y (List.mem_cons_of_mem _ hy)
    · rw [if_neg hl, if_neg hl]; exact .inl ⟨(pcR_more (h x List.mem_cons_self) (by have : m ≤ lenR x := hm; omega)).1, rfl⟩
theorem rst_kinds {L : List Rn} (h : ∀ x ∈ L, kind x ≠ 0) {m : Nat} (hm : m ≤ lenR (L.headD rn0)) : ∀ x ∈ rst L m, kind x ≠ 0 := by
  cases L with
  | nil => intro x hx; cases hx
  | cons x xs =>
    show ∀ y ∈ restR x m xs, kind y ≠ 0
    unfold restR
    have ht : ∀ y ∈ xs, kind y ≠ 0 := fun y hy => h y (List.mem_cons_of_mem _ hy)
    by_cases hl : m = lenR x
    · rw [if_pos hl]; exact ht
    · rw [if_neg hl]
      intro y hy
      rcases List.mem_cons.1 hy with rfl | hy
      · exact (pcR_more (h x List.mem_cons_self) (by have : m ≤ lenR x := hm; omega)).1
      · exact ht y hy
theorem len_cons {x : Rn} (h : kind x ≠ 0) (xs : List Rn) : (expand (x :: xs)).length = lenR x + (expand xs).length := by rw [expand_cons, List.length_append, length_toks h]
theorem rst_len {L : List Rn} (h : ∀ x ∈ L, kind x ≠ 0) {m : Nat} (hm : m ≤ lenR (L.headD rn0)) : (expand (rst L m)).length + m = (expand L).length := by
  cases L with
  | nil =>
    have : m ≤ 0 := hm
    show 0 + m = 0
    omega
  | cons x xs =>
    have hx := h x List.mem_cons_self
    replace hm : m ≤ lenR x := hm
    show (expand (restR x m xs)).length + m = _
    unfold restR
    rw [len_cons hx]
    by_cases hl : m = lenR x
    · rw [if_pos hl]; omega
    · have h2 := pcR_more hx (m := m) (by omega)
      rw [if_neg hl, len_cons h2.1, h2.2]; omega
theorem head_len {L : List Rn} (h : ∀ x ∈ L, kind x ≠ 0) : lenR (L.headD rn0) ≤ (expand L).length := by
  cases L with
  | nil => exact Nat.le_refl _
  | cons x xs => rw [len_cons (h x List.mem_cons_self)]; exact Nat.le_add_right _ _

/-- So many bytes of each go side by side. -/
def stepM (x y : Rn) : Nat × Nat := if 0 < x.drop then (lenR x, 0) else if y.add.toList.isEmpty = false then (0, lenR y) else (min (lenR x) (lenR y), min (lenR x) (lenR y))
theorem stepM_le (x y : Rn) : (stepM x y).1 ≤ lenR x ∧ (stepM x y).2 ≤ lenR y := by
  unfold stepM
  split
  · exact ⟨Nat.le_refl _, Nat.zero_le _⟩
  · split
    · exact ⟨Nat.zero_le _, Nat.le_refl _⟩
    · exact ⟨Nat.min_le_left _ _, Nat.min_le_right _ _⟩
theorem rst_zero {L : List Rn} (h : ∀ x ∈ L, kind x ≠ 0) : rst L 0 = L := by
  cases L with
  | nil => rfl
  | cons x xs =>
    have hx := h x List.mem_cons_self
    show restR x 0 xs = _
    rw [restR, if_neg (by have := lenR_pos hx; omega), pcR_full (.inl hx)]
theorem rst_all (x : Rn) (xs : List Rn) : rst (x :: xs) (lenR x) = xs := by
  show restR x (lenR x) xs = xs
  rw [restR, if_pos rfl]
theorem prs_none {L1 L2 : List Rn} (h1 : ∀ x ∈ L1, kind x ≠ 0) (h2 : ∀ x ∈ L2, kind x ≠ 0) (hs : (stepM (L1.headD rn0) (L2.headD rn0)).1 = 0 ∧ (stepM (L1.headD rn0) (L2.headD rn0)).2 = 0) (k : Nat) : prs k L1 L2 = [] := by
  cases k with
  | zero => rfl
  | succ k =>
    rcases L1 with _ | ⟨x, xs⟩ <;> rcases L2 with _ | ⟨y, ys⟩
    · rfl
    · have hy := lenR_pos (h2 y List.mem_cons_self)
      rw [prs]
      by_cases he : y.add.toList.isEmpty = false
      · exfalso
        have : (stepM rn0 y).2 = 0 := hs.2
        rw [stepM, if_neg (by decide), if_pos he] at this
        omega
      · rw [if_neg he]
    · have hx := lenR_pos (h1 x List.mem_cons_self)
      rw [prs]
      by_cases hd : 0 < x.drop
      · exfalso
        have : (stepM x rn0).1 = 0 := hs.1
        rw [stepM, if_pos hd] at this
        have : lenR x = 0 := this
        omega
      · rw [if_neg hd]
    · exfalso
      have hx := lenR_pos (h1 x List.mem_cons_self)
      have hy := lenR_pos (h2 y List.mem_cons_self)
      replace hs : (stepM x y).1 = 0 ∧ (stepM x y).2 = 0 := hs
      unfold stepM at hs
      split at hs
      · have := hs.1; simp only at this; omega
      · split at hs
        · have := hs.2; simp only at this; omega
        · have := hs.1; simp only at this; omega
theorem prs_some {L1 L2 : List Rn} (h1 : ∀ x ∈ L1, kind x ≠ 0) (h2 : ∀ x ∈ L2, kind x ≠ 0) {m n : Nat} (hmn : stepM (L1.headD rn0) (L2.headD rn0) = (m, n)) (hs : ¬ (m = 0 ∧ n = 0)) (k : Nat) :
    prs (k + 1) L1 L2 = (pcR (L1.headD rn0) 0 m, pcR (L2.headD rn0) 0 n) :: prs k (rst L1 m) (rst L2 n) := by
  have e1 := congrArg Prod.fst hmn
  have e2 := congrArg Prod.snd hmn
  simp only at e1 e2
  subst e1 e2
  rcases L1 with _ | ⟨x, xs⟩ <;> rcases L2 with _ | ⟨y, ys⟩
  · exfalso
    have e : stepM rn0 rn0 = (0, 0) := by rw [stepM, if_neg (by decide), if_neg (by rw [empty_rn0]; simp)]; rfl
    replace hs : ¬ ((stepM rn0 rn0).1 = 0 ∧ (stepM rn0 rn0).2 = 0) := hs
    rw [e] at hs
    exact hs ⟨rfl, rfl⟩
  · have hy := h2 y List.mem_cons_self
    show prs (k + 1) [] (y :: ys) = (pcR rn0 0 (stepM rn0 y).1, pcR y 0 (stepM rn0 y).2) :: prs k [] (rst (y :: ys) (stepM rn0 y).2)
    replace hs : ¬ ((stepM rn0 y).1 = 0 ∧ (stepM rn0 y).2 = 0) := hs
    rw [prs]
    by_cases he : y.add.toList.isEmpty = false
    · have e : stepM rn0 y = (0, lenR y) := by rw [stepM, if_neg (by decide), if_pos he]
      rw [if_pos he, e, pcR_full (.inl hy), pcR_same, rst_all]
    · exfalso
      have e : stepM rn0 y = (0, 0) := by rw [stepM, if_neg (by decide), if_neg he, lenR_rn0, Nat.zero_min]
      rw [e] at hs
      exact hs ⟨rfl, rfl⟩
  · have hx := h1 x List.mem_cons_self
    show prs (k + 1) (x :: xs) [] = (pcR x 0 (stepM x rn0).1, pcR rn0 0 (stepM x rn0).2) :: prs k (rst (x :: xs) (stepM x rn0).1) []
    replace hs : ¬ ((stepM x rn0).1 = 0 ∧ (stepM x rn0).2 = 0) := hs
    rw [prs]
    by_cases hd : 0 < x.drop
    · have e : stepM x rn0 = (lenR x, 0) := by rw [stepM, if_pos hd]
      rw [if_pos hd, e, pcR_full (.inl hx), pcR_same, rst_all]
    · exfalso
      have e : stepM x rn0 = (0, 0) := by rw [stepM, if_neg hd, if_neg (by rw [empty_rn0]; simp), lenR_rn0, Nat.min_zero]
      rw [e] at hs
      exact hs ⟨rfl, rfl⟩
  · have hx := h1 x List.mem_cons_self
    have hy := h2 y List.mem_cons_self
    show prs (k + 1) (x :: xs) (y :: ys) = (pcR x 0 (stepM x y).1, pcR y 0 (stepM x y).2) :: prs k (rst (x :: xs) (stepM x y).1) (rst (y :: ys) (stepM x y).2)
    rw [prs]
    by_cases hd : 0 < x.drop
    · have e : stepM x y = (lenR x, 0) := by rw [stepM, if_pos hd]
      rw [if_pos hd, e, pcR_full (.inl hx), pcR_same, rst_all, rst_zero h2]
    · by_cases he : y.add.toList.isEmpty = false
      · have e : stepM x y = (0, lenR y) := by rw [stepM, if_neg hd, if_pos he]
        rw [if_neg hd, if_pos he, e, pcR_full (.inl hy), pcR_same, rst_all, rst_zero h1]
      · have e : stepM x y = (min (lenR x) (lenR y), min (lenR x) (lenR y)) := by rw [stepM, if_neg hd, if_neg he]
        rw [if_neg hd, if_neg he, e]
        rfl

/-- A reader, as it lies there. -/
def RdSt (B g1 g2 : Nat) (x : Rn) (ops : List Rn) (W : World) : Prop :=
  W.heap[g1]? = some (.cells #[.int .i64 x.keep, .string x.add, .int .i64 x.drop] 91 (0, 0)) ∧ ∃ pa cap, W.heap[g2]? = some (.cells #[.slice pa ops.length cap] 77 (0, 0)) ∧ CameR B W pa ops ∧ ops.length ≤ cap

theorem size_kr {x : Rn} (h : KR x) (hl : lenR x ≤ 100000000) (X : World) :
    Calls Try.prog 142 #[.agg #[.int .i64 x.keep, .string x.add, .int .i64 x.drop]] X fun e W' => e = .returned (.int .i64 (lenR x : Int)) ∧ Below X.heap.size X W' := by
  have hk : 0 ≤ x.keep ∧ 0 ≤ x.drop := by
    rcases h with h | rfl
    · exact ⟨(kind_facts h).1, (kind_facts h).2.1⟩
    · exact ⟨Int.le_refl _, Int.le_refl _⟩
  refine (size_any x X).mono ?_
  rintro e W' ⟨rfl, hb⟩
  refine ⟨?_, hb⟩
  have e1 : wrap64 (wrap64 (x.keep + (x.add.size : Int)) + x.drop) = (lenR x : Int) := by
    unfold lenR at hl ⊢
    unfold wrap64
    omega
  rw [e1]
theorem part_kr {x : Rn} (h : KR x) {m t : Nat} (hmt : m ≤ t) (ht : t ≤ lenR x) (hl : lenR x ≤ 100000000) (X : World) :
    Calls Try.prog 143 #[.agg #[.int .i64 x.keep, .string x.add, .int .i64 x.drop], .int .i64 (m : Int), .int .i64 (t : Int)] X fun e W' =>
      e = .returned (.agg #[.int .i64 (pcR x m t).keep, .string (pcR x m t).add, .int .i64 (pcR x m t).drop]) ∧ Below X.heap.size X W' := by
  refine part_any x m t X hmt (by omega) fun h1 h2 => ?_
  unfold lenR at ht
  omega

theorem reader1_any (B g1 g2 m : Nat) (x : Rn) (ops : List Rn) (W : World) (h : RdSt B g1 g2 x ops W) (hB1 : B ≤ g1) (hB2 : B ≤ g2) (h12 : g2 ≠ g1) (hx : KR x) (hm : m ≤ lenR x) (hl : lenR x ≤ 100000000) :
    Calls Try.prog 159 #[.int .i64 (m : Int), .pointer (some ⟨g1, 0, none⟩), .pointer (some ⟨g2, 0, none⟩)] W fun e W' => e = .returned (readA x m ops).1.val ∧ RdSt B g1 g2 (readA x m ops).1 (readA x m ops).2 W' ∧ Only (fun x => x = g1 ∨ x = g2) W W' := by
  obtain ⟨h1, pa, cap, h2, hS, hc⟩ := h
  have hsz := size_kr hx hl
  have hpt := part_kr hx hm (Nat.le_refl _) hl
  have hup : ∀ W', Only (fun x => x = g1 ∨ x = g2) W W' → ∀ a rs, CameR B W a rs → CameR B W' a rs := fun W' ho a rs hh =>
    hh.below (ho.below (Nat.le_trans hB1 (Nat.le_of_lt (lt_of_heap h1))) fun i hi => by rcases hi with rfl | rfl <;> assumption)
  have plain : (ops = [] ∨ m ≠ lenR x) → Calls Try.prog 159 #[.int .i64 (m : Int), .pointer (some ⟨g1, 0, none⟩), .pointer (some ⟨g2, 0, none⟩)] W fun e W' => e = .returned (readA x m ops).1.val ∧ RdSt B g1 g2 (readA x m ops).1 (readA x m ops).2 W' ∧ Only (fun x => x = g1 ∨ x = g2) W W' := fun hh => by
    have e : readA x m ops = (pcR x m (lenR x), ops) := by
      unfold readA
      by_cases hl : m = lenR x
      · rcases hh with rfl | hh
        · rw [if_pos hl, ← hl, pcR_same]; rfl
        · exact absurd hl hh
      · rw [if_neg hl]
    rw [e]
    refine (reader1_gen g1 g2 m (lenR x) ops.length cap x.keep x.drop (pcR x m (lenR x)).keep (pcR x m (lenR x)).drop x.add (pcR x m (lenR x)).add pa W h1 h2 h12 hsz hpt fun z1 z2 z3 => ?_).mono ?_
    · rcases hh with rfl | hh
      · exact Nat.lt_irrefl 0
      · exact absurd (pcR_zero3 hx hm z1 z2 z3) hh
    · rintro e W' ⟨rfl, q1, q2, ho⟩
      exact ⟨rfl, ⟨q1, pa, cap, q2, hup W' ho _ _ hS, hc⟩, ho⟩
  by_cases hl : m = lenR x
  · rcases ops with _ | ⟨y, ys⟩
    · exact plain (.inl rfl)
    · have e : readA x m (y :: ys) = (y, ys) := by rw [readA, if_pos hl]; rfl
      have ez : pcR x m (lenR x) = rn0 := by rw [← hl, pcR_same]
      rw [e]
      rcases hS with hh | ⟨b, off, rfl, hbB, hcell⟩
      · cases hh
      obtain ⟨y0, y1, y2⟩ := hcell 0 (Nat.succ_pos _)
      have hbw : b < W.heap.size := Nat.lt_of_lt_of_le hbB (Nat.le_trans hB1 (Nat.le_of_lt (lt_of_heap h1)))
      refine (reader1_next g1 g2 m (lenR x) ys.length cap b off x.keep x.drop (pcR x m (lenR x)).keep (pcR x m (lenR x)).drop y.keep y.drop x.add (pcR x m (lenR x)).add y.add W h1 h2 h12 hsz hpt (by rw [ez]; rfl) (by rw [ez]; simp [rn0, toList_data]) (by rw [ez]; rfl) hbw (by omega) (by omega) hc _ rfl (by simpa using y0) (by simpa using y1) (by simpa using y2)).mono ?_
      rintro e W' ⟨rfl, q1, q2, ho⟩
      refine ⟨rfl, ⟨q1, _, _, q2, ?_, by show ys.length ≤ cap - 1; simp only [List.length_cons] at hc; omega⟩, ho⟩
      refine hup W' ho _ _ ?_
      rcases ys with _ | ⟨z, zs⟩
      · exact .inl rfl
      · have hc1 : ¬ cap = 1 := by simp only [List.length_cons] at hc; omega
        rw [if_neg hc1]
        refine .inr ⟨b, off + 3, rfl, hbB, fun i hi => ?_⟩
        have hci := hcell (i + 1) (by simp only [List.length_cons] at hi ⊢; omega)
        have e3 : off + (i + 1) * 3 = off + 3 + i * 3 := by omega
        rw [e3] at hci
        simpa using hci
  · exact plain (.inr hl)

end Go.Proofs.Ytpmijaplkbmbiaa.E
