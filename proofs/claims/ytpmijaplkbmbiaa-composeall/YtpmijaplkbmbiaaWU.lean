/- The document's runs of units. -/
import Derived.Test.YtpmijaplkbmbiaaWT
namespace Go.Proofs.Ytpmijaplkbmbiaa.E
open Go.Proofs.Ytpmijaplkbmbiaa Go.RowKit Go.By Go.Shelf
set_option linter.unusedVariables false
set_option linter.unusedSimpArgs false

/-- Units that lie there. -/
def CameU (n₀ : Nat) (W : World) (a : Option Addr) (ts : List Tok) : Prop := ∀ i t, ts[i]? = some t → ∃ b off, a = some ⟨b, off, none⟩ ∧ b < n₀ ∧ W.cell? ⟨b, off + i * 2, none⟩ = some (.int .i64 (kindT t)) ∧ W.cell? ⟨b, off + i * 2 + 1, none⟩ = some (.string (addT t))
theorem CameU.below {n₀ : Nat} {W W' : World} {a : Option Addr} {ts : List Tok} (h : CameU n₀ W a ts) (hb : Below n₀ W W') : CameU n₀ W' a ts := fun i t hi => by
  obtain ⟨b, off, e, hl, h1, h2⟩ := h i t hi
  exact ⟨b, off, e, hl, (hb.cell (p := ⟨b, off + i * 2, none⟩) hl).trans h1, (hb.cell (p := ⟨b, off + i * 2 + 1, none⟩) hl).trans h2⟩
theorem CameU.mono {n₀ n₁ : Nat} {W : World} {a : Option Addr} {ts : List Tok} (h : CameU n₀ W a ts) (hn : n₀ ≤ n₁) : CameU n₁ W a ts := fun i t hi => by
  obtain ⟨b, off, e, hl, h1, h2⟩ := h i t hi
  exact ⟨b, off, e, Nat.lt_of_lt_of_le hl hn, h1, h2⟩
theorem cellsU_at (ts : List Tok) : ∀ (i : Nat) (t : Tok), ts[i]? = some t → (cellsU ts)[i * 2]? = some (.int .i64 (kindT t)) ∧ (cellsU ts)[i * 2 + 1]? = some (.string (addT t)) := by
  induction ts with
  | nil => intro i t h; simp at h
  | cons x ts ih =>
    intro i t h
    rw [show cellsU (x :: ts) = .int .i64 (kindT x) :: .string (addT x) :: cellsU ts from rfl]
    cases i with
    | zero => simp at h; subst h; exact ⟨rfl, rfl⟩
    | succ i =>
      have := ih i t (by simpa using h)
      rw [show (i + 1) * 2 = i * 2 + 1 + 1 by omega]
      exact ⟨by simpa using this.1, by simpa using this.2⟩
theorem OwnU.came {W : World} {B : Nat} {a : Option Addr} {n cap : Nat} {ts : List Tok} (h : OwnU W B (.slice a n cap) ts) : CameU W.heap.size W a ts := fun i t hi => by
  have hlt : i < ts.length := (List.getElem?_eq_some_iff.1 hi).1
  obtain ⟨c1, c2⟩ := cellsU_at ts i t hi
  rcases h.2 with ⟨_, h0⟩ | ⟨g, cap', cur, hv, hb, hg, h1, h2, h3, h4⟩
  · omega
  · cases hv
    have hget : ∀ j v, (cellsU ts)[j]? = some v → W.cell? ⟨g, j, none⟩ = some v := fun j v hj => by
      rw [Joins.cell_of_block hg, ← Array.getElem?_toList]
      rw [← h4] at hj
      rw [List.getElem?_take] at hj
      split at hj
      · exact hj
      · cases hj
    exact ⟨g, 0, rfl, lt_of_heap hg, by rw [Nat.zero_add]; exact hget _ _ c1, by rw [Nat.zero_add]; exact hget _ _ c2⟩

/-- A unit as a run. -/
def unitR : Tok → Rn
  | .K => ⟨1, ⟨#[]⟩, 0⟩
  | .A b => ⟨0, ⟨#[b]⟩, 0⟩
  | .D => ⟨0, ⟨#[]⟩, 1⟩
def runsT (ts : List Tok) : List Rn := ts.map unitR
theorem expand_runsT (ts : List Tok) : expand (runsT ts) = ts := by
  induction ts with
  | nil => rfl
  | cons t ts ih =>
    show expand (unitR t :: runsT ts) = _
    rw [show expand (unitR t :: runsT ts) = toks (unitR t) ++ expand (runsT ts) by simp [expand], ih]
    cases t with
    | K => show toks (rK 1) ++ ts = _; rw [toks_rK (by decide)]; rfl
    | A b => show toks (rA [b]) ++ ts = _; rw [toks_rA (by simp)]; rfl
    | D => show toks (rD 1) ++ ts = _; rw [toks_rD (by decide)]; rfl
theorem cells_run (X : World) (r : Rn) (j : Nat) (u : Value) (h : (cellsR [r])[j]? = some u) : (X.alloc (.cells #[.int .i64 r.keep, .string r.add, .int .i64 r.drop] 91)).cell? ((⟨X.heap.size, 0, none⟩ : Addr).add j) = some u :=
  World.news_of_block (cs := #[.int .i64 r.keep, .string r.add, .int .i64 r.drop]) (World.alloc_heap_new X _) j u h
theorem run_next {w X w3 : World} {B : Nat} {v v1 : Value} {L : List Rn} {r : Rn} (hB : B ≤ w.heap.size) (hbw : Below B w X) (hvo : OwnR X B v L)
    (hg : (X.alloc (.cells #[.int .i64 r.keep, .string r.add, .int .i64 r.drop] 91)).grownBy w3 v.ownBlock) (hr : w3.ownsRow B 91 3 v1 (L.length + 1) (cellsR L ++ cellsR [r])) :
    OwnR w3 B v1 (L ++ [r]) ∧ Below B w w3 := by
  have hal : Below X.heap.size X (X.alloc (.cells #[.int .i64 r.keep, .string r.add, .int .i64 r.drop] 91)) := Joins.below_alloc1 _ _
  have hX : B ≤ X.heap.size := Nat.le_trans hB hbw.size
  have ho : Only (fun k => v.ownBlock = some k) X (X.alloc (.cells #[.int .i64 r.keep, .string r.add, .int .i64 r.drop] 91)) := ⟨hal.os, hal.tape, hal.output, hal.size, fun k hk _ => hal.block k hk⟩
  refine ⟨?_, hbw.trans ((ho.trans (Only.grown (S := fun k => v.ownBlock = some k) hg fun k hk => hk)).below hX fun k hk => (hvo.lt hk).1)⟩
  unfold OwnR
  rw [cellsR_append, List.length_append]
  exact hr

set_option maxRecDepth 100000 in
set_option maxHeartbeats 2000000 in
theorem runs_any (a : Option Addr) (cap : Nat) (ts : List Tok) (w : World) (hS : CameU w.heap.size w a ts) (hl : ts.length ≤ 100000) :
    Calls Try.prog 120 #[.slice a ts.length cap] w fun e W' => ∃ v, e = .returned v ∧ OwnR W' w.heap.size v (runsT ts) ∧ Below w.heap.size w W' := by
  obtain ⟨i0, hi, hz0, hz1, hz2⟩ := info_parts (show (Try.prog.info? 91).map (fun i => (i.zero, i.size, i.bytes)) = some (some (.agg #[.int .i64 0, .string ⟨#[]⟩, .int .i64 0]), 3, 32) by kernel_rfl)
  have HS := hide hS
  have HL := hide hl
  clear hS hl
  go_enter Try.func120, Try.ntmps120
  go_wp2_with fail
  go_loopw [3, 4] (fun u i wr => ∃ k : Nat, i = .int .i64 (k : Int) ∧ k ≤ ts.length ∧ Hid (OwnR wr w.heap.size u (runsT (ts.take k)) ∧ Below w.heap.size w wr)) (fun _ i _ => ts.length - (intOf i).toNat)
  case atStart => exact ⟨0, rfl, by omega, hide ⟨OwnR.nil _ _, Below.refl _ _⟩⟩
  case round =>
    obtain ⟨k, rfl, hk, HI⟩ := hrel
    obtain ⟨ua, uc, rfl⟩ := HI.out.1.form
    by_cases hlt : k < ts.length
    · have hlt' : (k : Int) < (ts.length : Int) := by omega
      obtain ⟨t, ht⟩ : ∃ t, ts[k]? = some t := ⟨ts[k], List.getElem?_eq_getElem hlt⟩
      obtain ⟨b, off, rfl, hbl, s0, s1⟩ := (HS.out.below HI.out.2) k t ht
      have hsn : ts.take (k + 1) = ts.take k ++ [t] := by rw [List.take_succ_eq_append_getElem hlt]; rw [List.getElem?_eq_getElem hlt] at ht; cases ht; rfl
      have HSN : Hid (runsT (ts.take (k + 1)) = runsT (ts.take k) ++ [unitR t]) := hide (by rw [hsn, runsT, List.map_append]; rfl)
      have HLT := hide hlt
      have HM : Hid ((runsT (ts.take k)).length ≤ 100000) := hide (by rw [runsT, List.length_map, List.length_take]; have := HL.out; omega)
      have w6 : IntKind.i64.wrap ((k : Int) + 1) = (k : Int) + 1 := by rw [IntKind.wrap_i64]; have := HL.out; omega
      have HSZ := hide HI.out.2.size
      have HOW := hide (World.ownsRow.alloc HI.out.1 (.cells #[.int .i64 (unitR t).keep, .string (unitR t).add, .int .i64 (unitR t).drop] 91))
      have HNEW := hide (cells_run wr (unitR t))
      have HNX : Hid (∀ w3 v1, (wr.alloc (.cells #[.int .i64 (unitR t).keep, .string (unitR t).add, .int .i64 (unitR t).drop] 91)).grownBy w3 (Value.slice ua (runsT (ts.take k)).length uc).ownBlock → w3.ownsRow w.heap.size 91 3 v1 ((runsT (ts.take k)).length + 1) (cellsR (runsT (ts.take k)) ++ cellsR [unitR t]) → OwnR w3 w.heap.size v1 (runsT (ts.take (k + 1))) ∧ Below w.heap.size w w3) := hide fun w3 v1 hg hr => by
        rw [HSN.out]
        exact run_next (Nat.le_refl _) HI.out.2 HI.out.1 hg hr
      clear hsn ht HSN HI
      generalize runsT (ts.take k) = L1 at *
      cases t
      all_goals
        dsimp only [kindT, addT, unitR] at s0 s1 HOW HNEW HNX
        go_wp2_with (at_builtin; refine wpList_append_own _ rfl _ _ 77 rfl w.heap.size 91 i0 (.agg #[.int .i64 0, .string ⟨#[]⟩, .int .i64 0]) 3 32 Try.underlying77 hi hz0 hz1 hz2 rfl (by decide) _ _ _ rfl HOW.out ⟨_, 0, none⟩ 1 1 _ rfl rfl HNEW.out (oneCellR _) (by have := HM.out; unfold maxLen; omega) (by have := HM.out; omega) (by have := HSZ.out; simp; omega) ?_; intro v1 w3 hr hg hx; have HN := hide (HNX.out w3 v1 hg hr); clear hr hg hx)
        go_roundw
        case rel => exact ⟨k + 1, by go_num, by have := HLT.out; omega, HN⟩
        case measure => simp [intOf]; have := HLT.out; omega
    · obtain rfl : k = ts.length := by omega
      rw [List.take_length] at HI
      go_wp2
      go_ret
      exact ⟨_, rfl, by rw [List.take_length] at *; exact HI.out.1, HI.out.2⟩

end Go.Proofs.Ytpmijaplkbmbiaa.E
