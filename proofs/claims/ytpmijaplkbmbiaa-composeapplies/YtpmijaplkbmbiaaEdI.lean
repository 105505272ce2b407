/- Norm: what a round does, as numbers and boxes. -/
import Derived.Test.YtpmijaplkbmbiaaEdH
namespace Go.Proofs.Ytpmijaplkbmbiaa.E
open Go.Proofs.Ytpmijaplkbmbiaa Go.RowKit Go.By Go.Shelf
set_option linter.unusedVariables false
set_option linter.unusedSimpArgs false

theorem keepsFrom_only {B : Nat} {S : Nat → Prop} {W W' : World} (h : Only S W W') (hS : ∀ k, S k → ∃ cs t fr, W.heap[k]? = some (Obj.cells cs t fr)) : KeepsFrom B W W' :=
  ⟨h.size, fun k o _ hk hc => (h.block k (lt_of_heap hk) (fun e => by
    obtain ⟨cs, t, fr, e2⟩ := hS k e
    rw [hk] at e2; cases e2; cases hc)).trans hk⟩

theorem size_snoc {pre : List Rn} {x : Rn} (h : kind x ≠ 0) : ((tIn (expand (pre ++ [x])) : Nat) : Int) = (tIn (expand pre) : Int) + (x.keep + x.drop) ∧ ((tOut (expand (pre ++ [x])) : Nat) : Int) = (tOut (expand pre) : Int) + (x.keep + (x.add.size : Int)) := by
  rw [expand_snoc, tIn_append, tOut_append, Int.natCast_add, Int.natCast_add, tIn_toks h, tOut_toks h]; exact ⟨rfl, rfl⟩

theorem fits_iff {pre : List Rn} {x : Rn} (h : kind x ≠ 0) :
    (max x.keep x.drop ≤ 16777216 - (tIn (expand pre) : Int) ∧ max x.keep (x.add.size : Int) ≤ 16777216 - (tOut (expand pre) : Int)) ↔ (tIn (expand (pre ++ [x])) ≤ 16777216 ∧ tOut (expand (pre ++ [x])) ≤ 16777216) := by
  obtain ⟨e1, e2⟩ := size_snoc (pre := pre) h
  obtain ⟨_, _, m1, m2⟩ := kind_facts h
  rw [m1, m2]; omega

theorem took_step {pre : List Rn} {x : Rn} (h : kind x ≠ 0) (hk : kind x = 1 → (nscan (expand pre)).a = [] ∧ (nscan (expand pre)).d = 0) :
    nscan (expand (pre ++ [x])) = ⟨(nscan (expand pre)).op, (nscan (expand pre)).k + x.keep.toNat, (nscan (expand pre)).a ++ x.add.data.toList, (nscan (expand pre)).d + x.drop.toNat⟩ := by
  rw [nscan_snoc]
  rcases kind_cases h with ⟨n, hn, rfl⟩ | ⟨a, ha, rfl⟩ | ⟨n, hn, rfl⟩
  · have hs := hk (kind_rK hn)
    rw [nstep_keep0 hn hs, hs.1, hs.2]; simp [rK]
  · rw [nstep_add ha]; simp [rA]
  · rw [nstep_drop hn]; simp [rD]

theorem flush_step {pre : List Rn} {x : Rn} (h : kind x = 1) (hs : ¬ ((nscan (expand pre)).a = [] ∧ (nscan (expand pre)).d = 0)) :
    nscan (expand (pre ++ [x])) = ⟨(nscan (expand pre)).op ++ flush (nscan (expand pre)).k (nscan (expand pre)).a (nscan (expand pre)).d, 0 + x.keep.toNat, [] ++ x.add.data.toList, 0 + x.drop.toNat⟩ := by
  rw [nscan_snoc]
  rcases kind_cases (r := x) (by omega) with ⟨n, hn, rfl⟩ | ⟨a, ha, rfl⟩ | ⟨n, hn, rfl⟩
  · rw [nstep_keep1 hn hs]; simp [rK]
  · rw [kind_rA ha] at h; omega
  · rw [kind_rD hn] at h; omega

theorem scan_bounds (ts : List Tok) : (nscan ts).k ≤ tIn ts ∧ (nscan ts).d ≤ tIn ts ∧ (nscan ts).a.length ≤ tOut ts := by
  obtain ⟨h1, h2⟩ := sums_foldl ts ns0
  rw [show sIn ns0 = 0 from rfl, Nat.zero_add] at h1
  rw [show sOut ns0 = 0 from rfl, Nat.zero_add] at h2
  rw [show ts.foldl tstep ns0 = nscan ts from rfl, sIn_eq] at h1
  rw [show ts.foldl tstep ns0 = nscan ts from rfl, sOut_eq] at h2
  omega

theorem len_flush (k : Nat) (a : List UInt8) (d : Nat) : (flush k a d).length = (if k = 0 then 0 else 1) + ((if a = [] then 0 else 1) + (if d = 0 then 0 else 1)) := by
  unfold flush
  rw [List.length_append, List.length_append]
  congr 1
  · split <;> rfl
  congr 1
  · split <;> rfl
  · split <;> rfl

theorem cnt_step (s : Ns) (t : Tok) : (nend (tstep s t)).length ≤ (nend s).length + 1 := by
  cases t with
  | A b =>
    simp only [tstep, nend, List.length_append, len_flush]
    have : ¬ (s.a ++ [b] = []) := by simp
    rw [if_neg this]
    split <;> split <;> split <;> omega
  | D =>
    simp only [tstep, nend, List.length_append, len_flush]
    rw [if_neg (by omega : ¬ s.d + 1 = 0)]
    split <;> split <;> split <;> omega
  | K =>
    by_cases hs : s.a = [] ∧ s.d = 0
    · rw [tstep_K0 hs]
      simp only [nend, List.length_append, len_flush, hs.1, hs.2, if_true]
      rw [if_neg (by omega : ¬ s.k + 1 = 0)]
      split <;> omega
    · rw [tstep_K1 hs]
      simp only [nend, List.length_append, len_flush]
      simp
theorem cnt_foldl (ts : List Tok) (s : Ns) : (nend (ts.foldl tstep s)).length ≤ (nend s).length + ts.length := by
  induction ts generalizing s with
  | nil => simp
  | cons t ts ih =>
    have h1 := cnt_step s t
    have h2 := ih (tstep s t)
    rw [List.foldl_cons, List.length_cons]; omega
theorem toks_len (ts : List Tok) : ts.length ≤ tIn ts + tOut ts := by
  induction ts with
  | nil => simp [tIn, tOut]
  | cons t ts ih => cases t <;> simp [tIn, tOut] <;> omega
theorem op_len (ts : List Tok) : (nscan ts).op.length ≤ tIn ts + tOut ts := by
  have h1 := cnt_foldl ts ns0
  have h2 := toks_len ts
  rw [show (nend ns0).length = 0 from rfl, Nat.zero_add, show ts.foldl tstep ns0 = nscan ts from rfl, nend, List.length_append] at h1
  omega

theorem cells_ty {c c' : Array Value} {t t' : TypeId} {fr fr' : Nat × Nat} (h : some (Obj.cells c t fr) = some (Obj.cells c' t' fr')) : t = t' := by
  injection h with h; injection h

/-- Within a round: what holds behind a call of it. -/
structure Mid (B0 H q i o : Nat) (x : Rn) (W : World) (S : Ns) (vop : Value) (a : Option Addr) (n cap : Nat) (A : List ByteArray) (W1 : World) : Prop where
  nb : NB W1 H i o S vop a n cap A
  run : W1.heap[q]? = some (.cells #[.int .i64 x.keep, .string x.add, .int .i64 x.drop] 91 (0, 0))
  kf : KeepsFrom B0 W W1
  bl : Below H W W1

theorem NB.cellsT {W : World} {H i o : Nat} {S : Ns} {vop : Value} {a : Option Addr} {n cap : Nat} {A : List ByteArray} (h : NB W H i o S vop a n cap A) (k : Nat)
    (hk : k = H ∨ k = H + 1 ∨ k = H + 1 + 1 ∨ k = H + 1 + 1 + 1 ∨ some k = vop.ownBlock ∨ some k = (Value.slice a n cap).ownBlock) : ∃ cs t fr, W.heap[k]? = some (Obj.cells cs t fr) := by
  rcases hk with rfl | rfl | rfl | rfl | hk | hk
  · exact ⟨_, _, _, h.res⟩
  · exact ⟨_, _, _, h.opb⟩
  · exact ⟨_, _, _, h.siz⟩
  · exact ⟨_, _, _, h.grp⟩
  · obtain ⟨cur, e⟩ := h.op.typ hk.symm; exact ⟨_, _, _, e⟩
  · obtain ⟨cur, e⟩ := row_typ h.ad hk.symm; exact ⟨_, _, _, e⟩

theorem NB.base {W : World} {H i o : Nat} {S : Ns} {vop : Value} {a : Option Addr} {n cap : Nat} {A : List ByteArray} (h : NB W H i o S vop a n cap A) (k : Nat)
    (hk : k = H ∨ k = H + 1 ∨ k = H + 1 + 1 ∨ k = H + 1 + 1 + 1 ∨ some k = vop.ownBlock ∨ some k = (Value.slice a n cap).ownBlock) : H ≤ k := by
  rcases hk with rfl | rfl | rfl | rfl | hk | hk
  · omega
  · omega
  · omega
  · omega
  · exact (h.op.lt hk.symm).1
  · rcases h.ad.2 with ⟨e, _⟩ | ⟨g, c, cur, e, hb, _⟩
    · cases e; cases hk
    · cases e; cases hk; exact hb

theorem mid_grew {B0 H q i o i' o' : Nat} {x : Rn} {W W1 : World} {S : Ns} {vop : Value} {a : Option Addr} {n cap : Nat} {A : List ByteArray} (h : NB W H i o S vop a n cap A)
    (hq : W.heap[q]? = some (.cells #[.int .i64 x.keep, .string x.add, .int .i64 x.drop] 91 (0, 0))) (hH : H ≤ W.heap.size) (hG : Grew (H + 1 + 1) (i' : Int) (o' : Int) W W1) :
    Mid B0 H q i' o' x W S vop a n cap A W1 := by
  refine ⟨h.grew hG, ?_, keepsFrom_only hG.2 fun k hk => h.cellsT k (by subst hk; simp), hG.2.below hH fun k hk => by omega⟩
  rw [hG.2.block q (lt_of_heap hq) (fun e => ?_)]
  · exact hq
  · subst e; rw [h.siz] at hq; exact absurd (cells_ty hq) (by decide)

theorem mid_flushed {B0 H q i o : Nat} {x : Rn} {W W1 W2 : World} {S : Ns} {vop v' : Value} {a : Option Addr} {n cap : Nat} {A : List ByteArray} (h : Mid B0 H q i o x W S vop a n cap A W1) (hH : H ≤ W.heap.size) (hvq : vop.ownBlock ≠ some q)
    (h1 : OwnR W2 H v' (S.op ++ flush S.k (text A) S.d)) (h2 : Only (fun i => some i = vop.ownBlock) W1 W2) :
    Mid B0 H q i o x W ⟨S.op ++ flush S.k S.a S.d, 0, [], 0⟩ v' none 0 0 [] ((((W2.setCell ⟨H + 1, 0, none⟩ v').setCell ⟨H + 1 + 1 + 1, 0, none⟩ (.int .i64 0)).setCell ⟨H + 1 + 1 + 1, 1, none⟩ (.slice none 0 0)).setCell ⟨H + 1 + 1 + 1, 2, none⟩ (.int .i64 0)) ∧
    (W2.frozen? ⟨H + 1, 0, none⟩ = false ∧ W2.cell? ⟨H + 1, 0, none⟩ = some vop) ∧ Grp W2 (H + 1 + 1 + 1) (S.k : Int) (.slice a n cap) (S.d : Int) ∧ W2.heap[q]? = some (.cells #[.int .i64 x.keep, .string x.add, .int .i64 x.drop] 91 (0, 0)) ∧ q ≠ H + 1 ∧ q ≠ H + 1 + 1 + 1 := by
  have hs : W.heap.size ≤ W1.heap.size := h.kf.size
  have key : ∀ (k : Nat) (c : Array Value) (t : TypeId), W1.heap[k]? = some (Obj.cells c t (0, 0)) → t ≠ 91 → W2.heap[k]? = some (Obj.cells c t (0, 0)) := fun k c t e ht => by
    rw [h2.block k (lt_of_heap e) (fun hq => ?_), e]
    obtain ⟨cur, e2⟩ := h.nb.op.typ hq.symm
    rw [e2] at e; cases e; exact ht rfl
  have hq2 : W2.heap[q]? = some (.cells #[.int .i64 x.keep, .string x.add, .int .i64 x.drop] 91 (0, 0)) := by
    rw [h2.block q (lt_of_heap h.run) (fun e => hvq e.symm)]; exact h.run
  have n1 : q ≠ H + 1 := fun e => by
    have := h.run; rw [e, show W1.heap[H + 1]? = _ from h.nb.opb] at this; exact absurd (cells_ty this) (by decide)
  have n3 : q ≠ H + 1 + 1 + 1 := fun e => by
    have := h.run; rw [e, show W1.heap[H + 1 + 1 + 1]? = _ from h.nb.grp] at this; exact absurd (cells_ty this) (by decide)
  have b1 : Boxed W2 (H + 1) 77 vop := key _ _ _ h.nb.opb (by decide)
  have b3 : Grp W2 (H + 1 + 1 + 1) (S.k : Int) (.slice a n cap) (S.d : Int) := key _ _ _ h.nb.grp (by decide)
  refine ⟨⟨h.nb.flushed h1 h2, ?_, ?_, ?_⟩, ⟨b1.frozen, b1.cell⟩, b3, hq2, n1, n3⟩
  · rw [heap_setCell_ne _ n3, heap_setCell_ne _ n3, heap_setCell_ne _ n3, heap_setCell_ne _ n1]; exact hq2
  · refine h.kf.trans ((keepsFrom_only h2 fun k hk => h.nb.cellsT k (by simp [hk])).trans ?_)
    exact ((((KeepsOthers.setCell _ _ _).trans (KeepsOthers.setCell _ _ _)).trans (KeepsOthers.setCell _ _ _)).trans (KeepsOthers.setCell _ _ _)).from _
  · refine h.bl.trans ?_
    have hb : Below H W1 W2 := h2.below (Nat.le_trans hH hs) fun k hk => h.nb.base k (by simp [hk])
    exact (((hb.setCell (p := ⟨H + 1, 0, none⟩) (by show H ≤ H + 1; omega) _).setCell (p := ⟨H + 1 + 1 + 1, 0, none⟩) (by show H ≤ H + 1 + 1 + 1; omega) _).setCell (p := ⟨H + 1 + 1 + 1, 1, none⟩) (by show H ≤ H + 1 + 1 + 1; omega) _).setCell (p := ⟨H + 1 + 1 + 1, 2, none⟩) (by show H ≤ H + 1 + 1 + 1; omega) _

/-- What holds behind some runs. -/
def NJ (H : Nat) (pre : List Rn) (W : World) : Prop := tIn (expand pre) ≤ 16777216 ∧ tOut (expand pre) ≤ 16777216 ∧ ∃ vop a n cap A, NB W H (tIn (expand pre)) (tOut (expand pre)) (nscan (expand pre)) vop a n cap A ∧ A.length ≤ pre.length

theorem mid_took {B0 H q : Nat} {pre : List Rn} {x : Rn} {W W1 W' : World} {S : Ns} {vop : Value} {a : Option Addr} {n cap : Nat} {A : List ByteArray} (h : Mid B0 H q (tIn (expand (pre ++ [x]))) (tOut (expand (pre ++ [x]))) x W S vop a n cap A W1) (hH : H ≤ W.heap.size)
    (hx : 0 ≤ x.keep ∧ 0 ≤ x.drop) (hT : Took W1 H (H + 1 + 1 + 1) ((S.k : Int) + x.keep) (.slice a n cap) ((S.d : Int) + x.drop) (A ++ addl x.add) W')
    (hS : nscan (expand (pre ++ [x])) = ⟨S.op, S.k + x.keep.toNat, S.a ++ x.add.data.toList, S.d + x.drop.toNat⟩) (h1 : tIn (expand (pre ++ [x])) ≤ 16777216) (h2 : tOut (expand (pre ++ [x])) ≤ 16777216) (hA : A.length ≤ pre.length) :
    KeepsFrom B0 W W' ∧ Below H W W' ∧ NJ H (pre ++ [x]) W' := by
  have hs : W.heap.size ≤ W1.heap.size := h.kf.size
  have hT2 : Took W1 H (H + 1 + 1 + 1) ((S.k + x.keep.toNat : Nat) : Int) (.slice a n cap) ((S.d + x.drop.toNat : Nat) : Int) (A ++ addl x.add) W' := by
    rw [Int.natCast_add, Int.natCast_add, Int.toNat_of_nonneg hx.1, Int.toNat_of_nonneg hx.2]; exact hT
  obtain ⟨a', n', cap', hnb⟩ := h.nb.took hT2
  obtain ⟨_, _, _, _, _, h3⟩ := hT
  refine ⟨h.kf.trans (keepsFrom_only h3 fun k hk => h.nb.cellsT k ?_), h.bl.trans (h3.below (Nat.le_trans hH hs) fun k hk => h.nb.base k ?_), h1, h2, vop, a', n', cap', A ++ addl x.add, by rw [hS]; exact hnb, ?_⟩
  · rcases hk with hk | hk
    · simp [hk]
    · simp [hk]
  · rcases hk with hk | hk
    · simp [hk]
    · simp [hk]
  · rw [List.length_append, List.length_append]
    have : (addl x.add).length ≤ 1 := by unfold addl; split <;> simp
    simp; omega

theorem nj_own (H : Nat) : Own (fun pre W => NJ H pre W) := fun pre X Y row h hg hrow => by
  obtain ⟨h1, h2, vop, a, n, cap, A, h, hA⟩ := h
  exact ⟨h1, h2, vop, a, n, cap, A, h.keep fun q c t fr e => cells_keep e hg hrow, hA⟩

end Go.Proofs.Ytpmijaplkbmbiaa.E
