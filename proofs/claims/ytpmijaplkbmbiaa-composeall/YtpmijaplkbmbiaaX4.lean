/- The runs of a group, behind others. And more of the same. -/
import Derived.Test.YtpmijaplkbmbiaaX3
import Derived.Test.YtpmijaplkbmbiaaEdJ
import Derived.Test.YtpmijaplkbmbiaaEdC
/- The runs of a group, behind others. -/
namespace Go.Proofs.Ytpmijaplkbmbiaa.E
open Go.Proofs.Ytpmijaplkbmbiaa Go.RowKit Go.By Go.Shelf
set_option linter.unusedVariables false
set_option linter.unusedSimpArgs false

/-- Runs, cell by cell. -/
def cells1 (r : Rn) : List Value := [.int .i64 r.keep, .string r.add, .int .i64 r.drop]
def cellsR (rs : List Rn) : List Value := rs.flatMap cells1
theorem cellsR_append (a b : List Rn) : cellsR (a ++ b) = cellsR a ++ cellsR b := by simp [cellsR]
theorem cellsR_one (r : Rn) : cellsR [r] = cells1 r := by simp [cellsR]
theorem length_cellsR (rs : List Rn) : (cellsR rs).length = rs.length * 3 := by
  induction rs with
  | nil => rfl
  | cons r rs ih =>
    have : cellsR (r :: rs) = cells1 r ++ cellsR rs := by simp [cellsR]
    rw [this, List.length_append, ih, List.length_cons]; simp [cells1]; omega
theorem cellsR_at (rs : List Rn) : ∀ (k j : Nat) (u : Value), k < rs.length → (cells1 (rs.getD k rn0))[j]? = some u → (cellsR rs)[k * 3 + j]? = some u := by
  induction rs with
  | nil => intro k j u hk; simp at hk
  | cons r rs ih =>
    intro k j u hk hu
    have e : cellsR (r :: rs) = cells1 r ++ cellsR rs := by simp [cellsR]
    have hj : j < 3 := by
      have := (List.getElem?_eq_some_iff.1 hu).1
      simpa [cells1] using this
    rw [e]
    cases k with
    | zero => rw [List.getElem?_append_left (by simp [cells1]; omega)]; simpa using hu
    | succ k =>
      rw [List.getElem?_append_right (by simp [cells1]; omega)]
      have := ih k j u (by simpa using hk) (by simpa using hu)
      rw [← this]; congr 1; simp [cells1]; omega

/-- Runs that a call owns. -/
def OwnR (W : World) (B : Nat) (v : Value) (rs : List Rn) : Prop := W.ownsRow B 91 3 v rs.length (cellsR rs)

theorem OwnR.nil (W : World) (B : Nat) : OwnR W B (.slice none 0 0) [] := ⟨rfl, .inl ⟨rfl, rfl⟩⟩
theorem OwnR.form {W : World} {B : Nat} {v : Value} {rs : List Rn} (h : OwnR W B v rs) : ∃ a cap, v = .slice a rs.length cap := by
  rcases h.2 with ⟨rfl, h0⟩ | ⟨g, cap, cur, rfl, _⟩
  · exact ⟨_, _, by rw [h0]⟩
  · exact ⟨_, _, rfl⟩
theorem OwnR.lt {W : World} {B : Nat} {v : Value} {rs : List Rn} (h : OwnR W B v rs) {q : Nat} (hq : v.ownBlock = some q) : B ≤ q ∧ q < W.heap.size := by
  rcases h.2 with ⟨rfl, _⟩ | ⟨g, cap, cur, rfl, hb, hg, _⟩
  · cases hq
  · obtain rfl : g = q := by simpa [Value.ownBlock] using hq
    exact ⟨hb, lt_of_heap hg⟩
theorem OwnR.kept {W W' : World} {B : Nat} {v : Value} {rs : List Rn} (h : OwnR W B v rs) (hk : ∀ q, v.ownBlock = some q → W'.heap[q]? = W.heap[q]?) : OwnR W' B v rs := by
  refine ⟨h.1, h.2.imp id ?_⟩
  rintro ⟨g, cap, cur, hv, hb, hg, r⟩
  exact ⟨g, cap, cur, hv, hb, (hk g (by rw [hv]; rfl)).trans hg, r⟩
theorem OwnR.came {W : World} {B : Nat} {a : Option Addr} {n cap : Nat} {rs : List Rn} (h : OwnR W B (.slice a n cap) rs) : CameR W.heap.size W a rs := by
  rcases h.2 with ⟨_, h0⟩ | ⟨g, cap', cur, hv, hb, hg, h1, h2, h3, h4⟩
  · exact .inl (List.eq_nil_of_length_eq_zero h0)
  · cases hv
    refine .inr ⟨g, 0, rfl, lt_of_heap hg, fun i hi => ?_⟩
    have key : ∀ j u, (cells1 (rs.getD i rn0))[j]? = some u → W.cell? ⟨g, 0 + i * 3 + j, none⟩ = some u := fun j u hu => by
      have e := cellsR_at rs i j u hi hu
      rw [← h4, List.getElem?_take] at e
      split at e
      · rw [Joins.cell_of_block hg, Nat.zero_add]; simpa using e
      · cases e
    exact ⟨by simpa using key 0 _ rfl, by simpa using key 1 _ rfl, by simpa using key 2 _ rfl⟩

/-- Is a run not plain? -/
def nzR (r : Rn) : Bool := !(decide (r.keep = 0) && (r.add.toList.isEmpty && decide (r.drop = 0)))

theorem flush_filter (k : Nat) (a : List UInt8) (d : Nat) : [rK k, rA a, rD d].filter nzR = flush k a d := by
  have h1 : nzR (rK k) = !decide (k = 0) := by simp [nzR, rK, toList_data]
  have h2 : nzR (rA a) = !decide (a = []) := by cases a <;> simp [nzR, rA, toList_data]
  have h3 : nzR (rD d) = !decide (d = 0) := by simp [nzR, rD, toList_data]
  simp only [List.filter_cons, h1, h2, h3, List.filter_nil, flush]
  by_cases e1 : k = 0 <;> by_cases e2 : a = [] <;> by_cases e3 : d = 0 <;> simp [e1, e2, e3]

theorem cameS_below {W Z : World} {a : Option Addr} {xs : List ByteArray} (h : CameS W.heap.size W a xs) (hb : Below W.heap.size W Z) : CameS Z.heap.size Z a xs := by
  rcases h with h | ⟨b, off, e, hl, hc⟩
  · exact .inl h
  · exact .inr ⟨b, off, e, Nat.lt_of_lt_of_le hl hb.size, fun i x hx => (hb.cell (p := ⟨b, off + i, none⟩) hl).trans (hc i x hx)⟩

/-- Where behind stands in a round. -/
structure BI (W : World) (B H : Nat) (vo : Value) (rs L : List Rn) (k : Nat) (v : Value) (wr : World) : Prop where
  row : OwnR wr B v (rs ++ (L.take k).filter nzR)
  lit : wr.heap[H]? = some (.cells (cellsR L).toArray 91 (0, 0))
  ne : some H ≠ v.ownBlock
  only : Only (fun i => some i = vo.ownBlock) W wr
  own : v.ownBlock = vo.ownBlock ∨ ∃ q, v.ownBlock = some q ∧ W.heap.size ≤ q
  hi : W.heap.size ≤ H

theorem BI.skip {W wr : World} {B H k : Nat} {vo v : Value} {rs L : List Rn} {x : Rn} (h : BI W B H vo rs L k v wr) (hx : L[k]? = some x) (hz : nzR x = false) (o : Obj) : BI W B H vo rs L (k + 1) v (wr.alloc o) := by
  have hk := (List.getElem?_eq_some_iff.1 hx).1
  have e : L.take (k + 1) = L.take k ++ [x] := by rw [List.take_succ_eq_append_getElem hk, (List.getElem?_eq_some_iff.1 hx).2]
  refine ⟨?_, (Below.heap_alloc wr o H (lt_of_heap h.lit)).trans h.lit, h.ne, h.only.trans (Only.alloc _ _ _), h.own, h.hi⟩
  rw [e, List.filter_append, show [x].filter nzR = [] by simp [hz], List.append_nil]
  exact h.row.kept fun q hq => Below.heap_alloc wr o q (h.row.lt hq).2

theorem BI.add {W wr Z WA : World} {B H k gg c1 : Nat} {vo v : Value} {rs L : List Rn} {x : Rn} (h : BI W B H vo rs L k v wr) (hx : L[k]? = some x) (hz : nzR x = true) (hZ : Only (fun _ => False) wr Z)
    (hr : WA.ownsRow B 91 3 (.slice (some ⟨gg, 0, none⟩) ((rs ++ (L.take k).filter nzR).length + 1) c1) ((rs ++ (L.take k).filter nzR).length + 1) (cellsR (rs ++ (L.take k).filter nzR) ++ cells1 x)) (hg : Z.grownBy WA v.ownBlock) (hat : v.ownBlock = some gg ∨ gg = Z.heap.size) :
    BI W B H vo rs L (k + 1) (.slice (some ⟨gg, 0, none⟩) ((rs ++ (L.take k).filter nzR).length + 1) c1) WA := by
  have hk := (List.getElem?_eq_some_iff.1 hx).1
  have e : L.take (k + 1) = L.take k ++ [x] := by rw [List.take_succ_eq_append_getElem hk, (List.getElem?_eq_some_iff.1 hx).2]
  have hHl := lt_of_heap h.lit
  have hZs := hZ.size
  refine ⟨?_, ?_, ?_, ?_, ?_, h.hi⟩
  · rw [e, List.filter_append, show [x].filter nzR = [x] by simp [hz], ← List.append_assoc]
    show WA.ownsRow _ _ _ _ _ _
    generalize rs ++ (L.take k).filter nzR = R at hr ⊢
    rw [cellsR_append, cellsR_one, show (R ++ [x]).length = R.length + 1 by simp]
    exact hr
  · rw [hg.block H (by omega) h.ne, hZ.block H hHl (fun h => h)]; exact h.lit
  · intro e'
    have e' : H = gg := by simpa [Value.ownBlock] using e'
    rcases hat with hat | hat
    · exact h.ne (by rw [hat, e'])
    · omega
  · have h1 := (h.only.trans (hZ.mono fun _ _ h => h.elim))
    refine ⟨hg.os.trans h1.os, hg.tape.trans h1.tape, hg.output.trans h1.output, Nat.le_trans h1.size hg.size, fun q hq hn => ?_⟩
    rw [hg.block q (Nat.lt_of_lt_of_le hq h1.size) ?_, h1.block q hq hn]
    rcases h.own with ho | ⟨q', ho, hl⟩
    · rw [ho]; exact hn
    · rw [ho]; intro e; cases e; omega
  · rcases hat with hat | hat
    · rcases h.own with ho | ⟨q', ho, hl⟩
      · exact .inl (by rw [← ho, hat]; rfl)
      · rw [hat] at ho; cases ho; exact .inr ⟨gg, rfl, hl⟩
    · exact .inr ⟨gg, rfl, by have := h.only.size; omega⟩

theorem bi_start {W w1 : World} {B : Nat} {vo : Value} {rs : List Rn} (L : List Rn) (hb : Below W.heap.size W w1) (ho : OwnR W B vo rs) : BI W B w1.heap.size vo rs L 0 vo (w1.alloc (.cells (cellsR L).toArray 91)) := by
  have hbs := hb.size
  refine ⟨?_, World.alloc_heap_new w1 _, ?_, ?_, .inl rfl, hb.size⟩
  · rw [List.take_zero, List.filter_nil, List.append_nil]
    refine ho.kept fun q hq => ?_
    have := (ho.lt hq).2
    rw [Below.heap_alloc w1 _ q (by omega), hb.block q this]
  · intro e
    have := (ho.lt e.symm).2
    omega
  · exact (Only.mk hb.os hb.tape hb.output hb.size (fun q hq _ => hb.block q hq)).trans (Only.alloc _ _ _)

theorem BI.drew {W wr : World} {B H k : Nat} {vo v : Value} {rs L : List Rn} (h : BI W B H vo rs L k v wr) : BI W B H vo rs L k v wr.drew := ⟨h.row, h.lit, h.ne, only_drw h.only, h.own, h.hi⟩
theorem BI.drewN {W wr : World} {B H k : Nat} {vo v : Value} {rs L : List Rn} (h : BI W B H vo rs L k v wr) (q : Nat) : BI W B H vo rs L k v (wr.drewN q) := ⟨h.row, h.lit, h.ne, only_drwN h.only q, h.own, h.hi⟩

end Go.Proofs.Ytpmijaplkbmbiaa.E

/- The runs of a group, behind others: walked. -/
namespace Go.Proofs.Ytpmijaplkbmbiaa.E
open Go.Proofs.Ytpmijaplkbmbiaa Go.RowKit Go.By Go.Shelf
set_option linter.unusedVariables false
set_option linter.unusedSimpArgs false

theorem heap_build {W : World} (o : Obj) : (W.alloc o).heap[W.heap.size]? = some o := World.alloc_heap_new W o

theorem oneCell3 (x : Rn) : ∀ u ∈ cells1 x, u.oneCell' = true := by
  intro u hu
  simp [cells1] at hu
  rcases hu with rfl | rfl | rfl <;> rfl

theorem add_prep {W wr : World} {B H j : Nat} {vo v : Value} {rs L : List Rn} (h : BI W B H vo rs L j v wr) (x : Rn) (hB : B ≤ W.heap.size) :
    ((wr.alloc (.cells (cells1 x).toArray 91)).alloc (.cells (cells1 x).toArray 91)).ownsRow B 91 3 v (rs ++ (L.take j).filter nzR).length (cellsR (rs ++ (L.take j).filter nzR)) ∧
    (∀ i u, (cells1 x)[i]? = some u → ((wr.alloc (.cells (cells1 x).toArray 91)).alloc (.cells (cells1 x).toArray 91)).cell? ((⟨wr.heap.size + 1, 0, none⟩ : Addr).add i) = some u) ∧
    B ≤ ((wr.alloc (.cells (cells1 x).toArray 91)).alloc (.cells (cells1 x).toArray 91)).heap.size ∧
    ((wr.alloc (.cells (cells1 x).toArray 91)).alloc (.cells (cells1 x).toArray 91)).heap.size = wr.heap.size + 1 + 1 ∧
    Only (fun _ => False) wr ((wr.alloc (.cells (cells1 x).toArray 91)).alloc (.cells (cells1 x).toArray 91)) := by
  have hs := h.only.size
  refine ⟨?_, ?_, by simp; omega, by simp, (Only.alloc _ _ _).trans (Only.alloc _ _ _)⟩
  · refine h.row.kept fun q hq => ?_
    have := (h.row.lt hq).2
    rw [Below.heap_alloc _ _ q (by simp; omega), Below.heap_alloc _ _ q this]
  · have hn := World.alloc_heap_new (wr.alloc (.cells (cells1 x).toArray 91)) (.cells (cells1 x).toArray 91)
    rw [World.size_alloc] at hn
    exact World.news_of_block (cs := (cells1 x).toArray) hn

theorem form3 {W : World} {B : Nat} {v : Value} {rs : List Rn} (h : OwnR W B v rs) : ∃ a m c, v = .slice a m c := by
  obtain ⟨a, c, e⟩ := h.form
  exact ⟨a, _, c, e⟩

set_option maxRecDepth 20000 in
set_option maxHeartbeats 8000000 in
theorem behind_any {W : World} {B B' g k d n cap : Nat} {a : Option Addr} {vo : Value} {A : List ByteArray} {rs : List Rn} (hg : Grp W g (k : Int) (.slice a n cap) (d : Int)) (hv : W.ownsRow B' 9 1 (.slice a n cap) A.length (strL A))
    (ho : OwnR W B vo rs) (hB : B ≤ W.heap.size) (hA : A.length ≤ 1000000) (ht : tot A ≤ 100000000) (hrs : rs.length ≤ 100000000) :
    Calls Try.prog 105 #[.pointer (some ⟨g, 0, none⟩), vo] W fun e W' => ∃ v', e = .returned v' ∧ OwnR W' B v' (rs ++ flush k (text A) d) ∧ Only (fun i => some i = vo.ownBlock) W W' ∧ (v'.ownBlock = vo.ownBlock ∨ ∃ q, v'.ownBlock = some q ∧ W.heap.size ≤ q) := by
  obtain ⟨i0, hi, hz0, hz1, hz2⟩ := info_parts (show (Try.prog.info? 91).map (fun i => (i.zero, i.size, i.bytes)) = some (some (.agg #[.int .i64 0, .string ⟨#[]⟩, .int .i64 0]), 3, 32) by kernel_rfl)
  obtain ⟨c0, c1, c2, _, _, _⟩ := hg.cells
  have hlt := lt_of_heap hg
  have hn : n = A.length ∧ A.length ≤ cap ∧ CameS W.heap.size W a A := by
    rcases hv.2 with ⟨e, h0⟩ | ⟨q, c, cur, e, hb, hq, h1, h2, h3, h4⟩
    · cases e; exact ⟨h0.symm, by omega, .inl (List.eq_nil_of_length_eq_zero h0)⟩
    · cases e
      refine ⟨rfl, h1, .inr ⟨q, 0, rfl, lt_of_heap hq, fun i x hx => ?_⟩⟩
      have e : (strL A)[i]? = some (.string x) := by simp [strL, hx]
      rw [← h4, List.getElem?_take] at e
      split at e
      · rw [Joins.cell_of_block hq, Nat.zero_add]; simpa using e
      · cases e
  obtain ⟨rfl, hcap, hS⟩ := hn
  have hJ : ∀ Z, Below W.heap.size W Z → Calls Try.prog 134 #[.slice a A.length cap, .string ⟨#[]⟩] Z fun e w' => e = .returned (.string ⟨(text A).toArray⟩) ∧ Below W.heap.size W w' := fun Z hZ =>
    (join_any a cap A Z (cameS_below hS hZ) hA hcap ht).mono fun e w' ⟨he, hb⟩ => ⟨he, hZ.trans (hb.mono hZ.size)⟩
  have HJ := hide hJ
  have HO := hide ho
  have HG := hide hg
  clear hJ ho hg hv hS
  go_enter Try.func105, Try.ntmps105
  go_wp2_with fail
  go_cut [23, 24, 25] from 5 to 37 (fun u x y wc => ∃ H, u = .slice (some ⟨H, 0, none⟩) 3 3 ∧ x = .int .i64 3 ∧ y = .int .i64 0 ∧ Hid (BI W B H vo rs [rK k, rA (text A), rD d] 0 vo wc))
  case first =>
    go_region_with ((go_at_call 134; refine (HJ.out _ (by first | exact Below.refl _ _ | exact below_drew1 (Below.refl _ _) | exact below_drewN (Below.refl _ _) _)).mono ?_; rintro e w1 ⟨rfl, hb⟩; have e0 := (hb.cell (p := ⟨g, 0, none⟩) hlt).trans c0; have e1 := (hb.cell (p := ⟨g, 1, none⟩) hlt).trans c1; have e2 := (hb.cell (p := ⟨g, 2, none⟩) hlt).trans c2; have HB := hide hb; clear hb))
    all_goals (go_wp2_with fail; go_meet)
    all_goals exact ⟨_, rfl, rfl, rfl, hide (bi_start [rK k, rA (text A), rD d] HB.out HO.out)⟩
  case rest =>
    obtain ⟨H, rfl, rfl, rfl, HI⟩ := hcut
    clear c0 c1 c2
    have HW : Hid (rs ++ flush k (text A) d = rs ++ ([rK k, rA (text A), rD d].take 3).filter nzR) := hide (by rw [← flush_filter]; rfl)
    have HL : Hid (∀ j (R : List Rn), R = rs ++ (([rK k, rA (text A), rD d] : List Rn).take j).filter nzR → R.length ≤ 100000003) := hide (fun j R hR => by
      have h1 := List.length_filter_le nzR (([rK k, rA (text A), rD d] : List Rn).take j)
      have h2 : (([rK k, rA (text A), rD d] : List Rn).take j).length ≤ 3 := by simp; omega
      rw [hR, List.length_append]; omega)
    go_wp2_with fail
    go_loopw [1, 25] (fun u i wr => ∃ j : Nat, i = .int .i64 (j : Int) ∧ j ≤ 3 ∧ Hid (BI W B H vo rs [rK k, rA (text A), rD d] j u wr)) (fun _ i _ => 3 - (intOf i).toNat)
    case atStart => exact ⟨0, rfl, by omega, HI⟩
    case round =>
      obtain ⟨j, rfl, hj, HJ2⟩ := hrel
      obtain ⟨ua, un, uc, rfl⟩ := form3 HJ2.out.row
      have hl := HJ2.out.lit
      obtain rfl | rfl | rfl | rfl : j = 0 ∨ j = 1 ∨ j = 2 ∨ j = 3 := by omega
      · have q0 : wr.cell? ⟨H, 0, none⟩ = some (.int .i64 (k : Int)) := by rw [Joins.cell_of_block hl]; rfl
        have q1 : wr.cell? ⟨H, 1, none⟩ = some (.string ⟨#[]⟩) := by rw [Joins.cell_of_block hl]; rfl
        have q2 : wr.cell? ⟨H, 2, none⟩ = some (.int .i64 0) := by rw [Joins.cell_of_block hl]; rfl
        clear hl
        by_cases hz : k = 0
        · have hz' : ((k : Int) == 0) = true := by simp [hz]
          have HZ : Hid (nzR (rK k) = false) := hide (by simp [nzR, rK, rA, rD, hz, toList_data])
          go_wp2
          exact ⟨⟨1, rfl, by omega, hide (HJ2.out.skip (x := rK k) rfl HZ.out _)⟩, by simp [intOf]⟩
        · have hz' : ((k : Int) == 0) = false := by simp [hz]
          have HNZ : Hid (nzR (rK k) = true) := hide (by simp [nzR, rK, rA, rD, hz, toList_data])
          have HP := hide (add_prep HJ2.out (rK k) hB)
          have HM := hide (HL.out 0 _ rfl)
          go_wp2_with (at_builtin; refine wpList_append_lies _ rfl (.tmp 32) (.tmp 34) 77 rfl B 91 i0 (.agg #[.int .i64 0, .string ⟨#[]⟩, .int .i64 0]) 3 32 Try.underlying77 hi hz0 hz1 hz2 rfl (by decide) (.slice ua un uc) (rs ++ (([rK k, rA (text A), rD d] : List Rn).take 0).filter nzR).length (cellsR (rs ++ (([rK k, rA (text A), rD d] : List Rn).take 0).filter nzR)) rfl HP.out.1 ⟨wr.heap.size + 1, 0, none⟩ 1 1 (cells1 (rK k)) rfl rfl HP.out.2.1 (oneCell3 _) (by decide) (by have := HM.out; unfold maxLen; omega) (by have := HM.out; omega) HP.out.2.2.1 (wr.heap.size + 1 + 1) HP.out.2.2.2.1 ?_; intro gg c1 WA hr hgr hat hltA; have HQ := hide (HJ2.out.add (x := rK k) rfl HNZ.out HP.out.2.2.2.2 hr hgr (hat.imp id fun h => h.trans HP.out.2.2.2.1.symm)); clear hr hgr hat hltA)
          exact ⟨⟨1, rfl, by omega, hide (by have h := HQ.out; simpa using h)⟩, by simp [intOf]⟩
      · have q0 : wr.cell? ⟨H, 3, none⟩ = some (.int .i64 0) := by rw [Joins.cell_of_block hl]; rfl
        have q1 : wr.cell? ⟨H, 4, none⟩ = some (.string ⟨(text A).toArray⟩) := by rw [Joins.cell_of_block hl]; rfl
        have q2 : wr.cell? ⟨H, 5, none⟩ = some (.int .i64 0) := by rw [Joins.cell_of_block hl]; rfl
        clear hl
        by_cases hz : text A = []
        · have hz' : (⟨(text A).toArray⟩ : ByteArray).toList.isEmpty = true := by rw [toList_data]; simp [hz]
          have hz2' : (⟨(text A).toArray⟩ : ByteArray).toList = [] := by rw [toList_data]; simp [hz]
          have HZ : Hid (nzR (rA (text A)) = false) := hide (by simp [nzR, rK, rA, rD, hz, toList_data])
          go_wp2
          exact ⟨⟨2, rfl, by omega, hide (HJ2.out.skip (x := rA (text A)) rfl HZ.out _)⟩, by simp [intOf]⟩
        · have hz' : (⟨(text A).toArray⟩ : ByteArray).toList.isEmpty = false := by rw [toList_data]; simpa using hz
          have hz2' : ¬ (⟨(text A).toArray⟩ : ByteArray).toList = [] := by rw [toList_data]; simpa using hz
          have HNZ : Hid (nzR (rA (text A)) = true) := hide (by simp [nzR, rK, rA, rD, hz, toList_data])
          have HP := hide (add_prep HJ2.out (rA (text A)) hB)
          have HM := hide (HL.out 1 _ rfl)
          go_wp2_with (at_builtin; refine wpList_append_lies _ rfl (.tmp 32) (.tmp 34) 77 rfl B 91 i0 (.agg #[.int .i64 0, .string ⟨#[]⟩, .int .i64 0]) 3 32 Try.underlying77 hi hz0 hz1 hz2 rfl (by decide) (.slice ua un uc) (rs ++ (([rK k, rA (text A), rD d] : List Rn).take 1).filter nzR).length (cellsR (rs ++ (([rK k, rA (text A), rD d] : List Rn).take 1).filter nzR)) rfl HP.out.1 ⟨wr.heap.size + 1, 0, none⟩ 1 1 (cells1 (rA (text A))) rfl rfl HP.out.2.1 (oneCell3 _) (by decide) (by have := HM.out; unfold maxLen; omega) (by have := HM.out; omega) HP.out.2.2.1 (wr.heap.size + 1 + 1) HP.out.2.2.2.1 ?_; intro gg c1 WA hr hgr hat hltA; have HQ := hide (HJ2.out.add (x := rA (text A)) rfl HNZ.out HP.out.2.2.2.2 hr hgr (hat.imp id fun h => h.trans HP.out.2.2.2.1.symm)); clear hr hgr hat hltA)
          exact ⟨⟨2, rfl, by omega, hide (by have h := HQ.out; simpa using h)⟩, by simp [intOf]⟩
      · have q0 : wr.cell? ⟨H, 6, none⟩ = some (.int .i64 0) := by rw [Joins.cell_of_block hl]; rfl
        have q1 : wr.cell? ⟨H, 7, none⟩ = some (.string ⟨#[]⟩) := by rw [Joins.cell_of_block hl]; rfl
        have q2 : wr.cell? ⟨H, 8, none⟩ = some (.int .i64 (d : Int)) := by rw [Joins.cell_of_block hl]; rfl
        clear hl
        by_cases hz : d = 0
        · have hz' : ((d : Int) == 0) = true := by simp [hz]
          have HZ : Hid (nzR (rD d) = false) := hide (by simp [nzR, rK, rA, rD, hz, toList_data])
          go_wp2
          exact ⟨⟨3, rfl, by omega, hide (HJ2.out.skip (x := rD d) rfl HZ.out _)⟩, by simp [intOf]⟩
        · have hz' : ((d : Int) == 0) = false := by simp [hz]
          have HNZ : Hid (nzR (rD d) = true) := hide (by simp [nzR, rK, rA, rD, hz, toList_data])
          have HP := hide (add_prep HJ2.out (rD d) hB)
          have HM := hide (HL.out 2 _ rfl)
          go_wp2_with (at_builtin; refine wpList_append_lies _ rfl (.tmp 32) (.tmp 34) 77 rfl B 91 i0 (.agg #[.int .i64 0, .string ⟨#[]⟩, .int .i64 0]) 3 32 Try.underlying77 hi hz0 hz1 hz2 rfl (by decide) (.slice ua un uc) (rs ++ (([rK k, rA (text A), rD d] : List Rn).take 2).filter nzR).length (cellsR (rs ++ (([rK k, rA (text A), rD d] : List Rn).take 2).filter nzR)) rfl HP.out.1 ⟨wr.heap.size + 1, 0, none⟩ 1 1 (cells1 (rD d)) rfl rfl HP.out.2.1 (oneCell3 _) (by decide) (by have := HM.out; unfold maxLen; omega) (by have := HM.out; omega) HP.out.2.2.1 (wr.heap.size + 1 + 1) HP.out.2.2.2.1 ?_; intro gg c1 WA hr hgr hat hltA; have HQ := hide (HJ2.out.add (x := rD d) rfl HNZ.out HP.out.2.2.2.2 hr hgr (hat.imp id fun h => h.trans HP.out.2.2.2.1.symm)); clear hr hgr hat hltA)
          exact ⟨⟨3, rfl, by omega, hide (by have h := HQ.out; simpa using h)⟩, by simp [intOf]⟩
      · clear hl
        go_wp2
        go_ret
        refine ⟨_, rfl, ?_, HJ2.out.only, HJ2.out.own⟩
        rw [HW.out]
        exact HJ2.out.row

end Go.Proofs.Ytpmijaplkbmbiaa.E

/- Norm: what lies in its boxes, round by round. -/
namespace Go.Proofs.Ytpmijaplkbmbiaa.E
open Go.Proofs.Ytpmijaplkbmbiaa Go.RowKit Go.By Go.Shelf
set_option linter.unusedVariables false
set_option linter.unusedSimpArgs false

/-- Norm's boxes: the result, the runs, the sizes, the group. -/
structure NB (W : World) (H i o : Nat) (S : Ns) (vop : Value) (a : Option Addr) (n cap : Nat) (A : List ByteArray) : Prop where
  res : Boxed W H 77 (.slice none 0 0)
  opb : Boxed W (H + 1) 77 vop
  siz : W.heap[H + 1 + 1]? = some (.cells #[.int .i64 (i : Int), .int .i64 (o : Int)] 125 (0, 0))
  grp : Grp W (H + 1 + 1 + 1) (S.k : Int) (.slice a n cap) (S.d : Int)
  op : OwnR W H vop S.op
  ad : W.ownsRow H 9 1 (.slice a n cap) A.length (strL A)
  tx : text A = S.a
  ne : ∀ x ∈ A, ¬ x.toList = []

theorem OwnR.typ {W : World} {B : Nat} {v : Value} {rs : List Rn} (h : OwnR W B v rs) {q : Nat} (hq : v.ownBlock = some q) : ∃ cur, W.heap[q]? = some (.cells cur 91 (0, 0)) := by
  rcases h.2 with ⟨rfl, _⟩ | ⟨g, cap, cur, rfl, hb, hg, _⟩
  · cases hq
  · obtain rfl : g = q := by simpa [Value.ownBlock] using hq
    exact ⟨cur, hg⟩
theorem row_typ {W : World} {B : Nat} {v : Value} {n : Nat} {l : List Value} (h : W.ownsRow B 9 1 v n l) {q : Nat} (hq : v.ownBlock = some q) : ∃ cur, W.heap[q]? = some (.cells cur 9 (0, 0)) := by
  rcases h.2 with ⟨rfl, _⟩ | ⟨g, cap, cur, rfl, hb, hg, _⟩
  · cases hq
  · obtain rfl : g = q := by simpa [Value.ownBlock] using hq
    exact ⟨cur, hg⟩
theorem row_kept {W W' : World} {B n : Nat} {v : Value} {l : List Value} (h : W.ownsRow B 9 1 v n l) (hk : ∀ q, v.ownBlock = some q → W'.heap[q]? = W.heap[q]?) : W'.ownsRow B 9 1 v n l := by
  refine ⟨h.1, h.2.imp id ?_⟩
  rintro ⟨g, cap, cur, hv, hb, hg, r⟩
  exact ⟨g, cap, cur, hv, hb, (hk g (by rw [hv]; rfl)).trans hg, r⟩

/-- Where all cells stay, so does this. -/
theorem NB.keep {W W' : World} {H i o : Nat} {S : Ns} {vop : Value} {a : Option Addr} {n cap : Nat} {A : List ByteArray} (h : NB W H i o S vop a n cap A)
    (hk : ∀ (q : Nat) (c : Array Value) (t : TypeId) (fr : Nat × Nat), W.heap[q]? = some (Obj.cells c t fr) → W'.heap[q]? = some (Obj.cells c t fr)) : NB W' H i o S vop a n cap A := by
  refine ⟨hk _ _ _ _ h.res, hk _ _ _ _ h.opb, hk _ _ _ _ h.siz, hk _ _ _ _ h.grp, h.op.kept fun q hq => ?_, row_kept h.ad fun q hq => ?_, h.tx, h.ne⟩
  · obtain ⟨cur, e⟩ := h.op.typ hq; rw [e]; exact hk _ _ _ _ e
  · obtain ⟨cur, e⟩ := row_typ h.ad hq; rw [e]; exact hk _ _ _ _ e

theorem NB.below {W W' : World} {H i o : Nat} {S : Ns} {vop : Value} {a : Option Addr} {n cap : Nat} {A : List ByteArray} (h : NB W H i o S vop a n cap A) (hb : Below W.heap.size W W') : NB W' H i o S vop a n cap A :=
  h.keep fun q c t fr e => (hb.block q (lt_of_heap e)).trans e

/-- The sizes grew. -/
theorem NB.grew {W W' : World} {H i o i' o' : Nat} {S : Ns} {vop : Value} {a : Option Addr} {n cap : Nat} {A : List ByteArray} (h : NB W H i o S vop a n cap A)
    (hG : Grew (H + 1 + 1) (i' : Int) (o' : Int) W W') : NB W' H i' o' S vop a n cap A := by
  have key : ∀ (q : Nat) (c : Array Value) (t : TypeId), W.heap[q]? = some (Obj.cells c t (0, 0)) → t ≠ 125 → W'.heap[q]? = some (Obj.cells c t (0, 0)) := fun q c t e ht => by
    rw [hG.2.block q (lt_of_heap e) (fun hq => ?_), e]
    subst hq; rw [h.siz] at e; cases e; exact ht rfl
  refine ⟨key _ _ _ h.res (by decide), key _ _ _ h.opb (by decide), hG.1, key _ _ _ h.grp (by decide), h.op.kept fun q hq => ?_, row_kept h.ad fun q hq => ?_, h.tx, h.ne⟩
  · obtain ⟨cur, e⟩ := h.op.typ hq; rw [e]; exact key _ _ _ e (by decide)
  · obtain ⟨cur, e⟩ := row_typ h.ad hq; rw [e]; exact key _ _ _ e (by decide)

/-- A run was taken. -/
theorem NB.took {W W' : World} {H i o k' d' : Nat} {S : Ns} {vop : Value} {a : Option Addr} {n cap : Nat} {A : List ByteArray} {x : ByteArray} (h : NB W H i o S vop a n cap A)
    (hT : Took W H (H + 1 + 1 + 1) (k' : Int) (.slice a n cap) (d' : Int) (A ++ addl x) W') : ∃ a' n' cap', NB W' H i o ⟨S.op, k', S.a ++ x.data.toList, d'⟩ vop a' n' cap' (A ++ addl x) := by
  obtain ⟨a', n', cap', h1, h2, h3⟩ := hT
  have key : ∀ (q : Nat) (c : Array Value) (t : TypeId), W.heap[q]? = some (Obj.cells c t (0, 0)) → t ≠ 131 → t ≠ 9 → W'.heap[q]? = some (Obj.cells c t (0, 0)) := fun q c t e ht ht2 => by
    rw [h3.block q (lt_of_heap e) (fun hq => ?_), e]
    rcases hq with hq | hq
    · subst hq; rw [show W.heap[_]? = _ from h.grp] at e; cases e; exact ht rfl
    · obtain ⟨cur, e2⟩ := row_typ h.ad hq.symm
      rw [e2] at e; cases e; exact ht2 rfl
  refine ⟨a', n', cap', key _ _ _ h.res (by decide) (by decide), key _ _ _ h.opb (by decide) (by decide), key _ _ _ h.siz (by decide) (by decide), h1, h.op.kept fun q hq => ?_, h2, ?_, ?_⟩
  · obtain ⟨cur, e⟩ := h.op.typ hq; rw [e]; exact key _ _ _ e (by decide) (by decide)
  · rw [text_append, h.tx]
    unfold addl
    split
    · rename_i hz; rw [toList_data] at hz; rw [hz]; simp [text]
    · simp [text]
  · intro y hy
    rcases List.mem_append.1 hy with hy | hy
    · exact h.ne y hy
    · unfold addl at hy
      split at hy
      · simp at hy
      · rename_i hz; rw [List.mem_singleton.1 hy]; exact hz

/-- The group's runs went behind the others, and another group begins. -/
theorem NB.flushed {W W' : World} {H i o : Nat} {S : Ns} {vop v' : Value} {a : Option Addr} {n cap : Nat} {A : List ByteArray} (h : NB W H i o S vop a n cap A)
    (h1 : OwnR W' H v' (S.op ++ flush S.k (text A) S.d)) (h2 : Only (fun i => some i = vop.ownBlock) W W') :
    NB ((((W'.setCell ⟨H + 1, 0, none⟩ v').setCell ⟨H + 1 + 1 + 1, 0, none⟩ (.int .i64 0)).setCell ⟨H + 1 + 1 + 1, 1, none⟩ (.slice none 0 0)).setCell ⟨H + 1 + 1 + 1, 2, none⟩ (.int .i64 0)) H i o ⟨S.op ++ flush S.k S.a S.d, 0, [], 0⟩ v' none 0 0 [] := by
  have key : ∀ (q : Nat) (c : Array Value) (t : TypeId), W.heap[q]? = some (Obj.cells c t (0, 0)) → t ≠ 91 → W'.heap[q]? = some (Obj.cells c t (0, 0)) := fun q c t e ht => by
    rw [h2.block q (lt_of_heap e) (fun hq => ?_), e]
    obtain ⟨cur, e2⟩ := h.op.typ hq.symm
    rw [e2] at e; cases e; exact ht rfl
  have k0 := key _ _ _ h.res (by decide)
  have k1 : Boxed W' (H + 1) 77 vop := key _ _ _ h.opb (by decide)
  have k2 := key _ _ _ h.siz (by decide)
  have k3 : Grp W' (H + 1 + 1 + 1) (S.k : Int) (.slice a n cap) (S.d : Int) := key _ _ _ h.grp (by decide)
  have s1 : Boxed (W'.setCell ⟨H + 1, 0, none⟩ v') (H + 1) 77 v' := k1.set v'
  have s3 : Grp (W'.setCell ⟨H + 1, 0, none⟩ v') (H + 1 + 1 + 1) (S.k : Int) (.slice a n cap) (S.d : Int) := (heap_setCell_ne _ (by omega)).trans k3
  have g3 : Grp ((((W'.setCell ⟨H + 1, 0, none⟩ v').setCell ⟨H + 1 + 1 + 1, 0, none⟩ (.int .i64 0)).setCell ⟨H + 1 + 1 + 1, 1, none⟩ (.slice none 0 0)).setCell ⟨H + 1 + 1 + 1, 2, none⟩ (.int .i64 0)) (H + 1 + 1 + 1) 0 (.slice none 0 0) 0 := (s3.put0.put1).put2
  have far : ∀ q, q ≠ H + 1 → q ≠ H + 1 + 1 + 1 → ((((W'.setCell ⟨H + 1, 0, none⟩ v').setCell ⟨H + 1 + 1 + 1, 0, none⟩ (.int .i64 0)).setCell ⟨H + 1 + 1 + 1, 1, none⟩ (.slice none 0 0)).setCell ⟨H + 1 + 1 + 1, 2, none⟩ (.int .i64 0)).heap[q]? = W'.heap[q]? := fun q a b => by
    rw [heap_setCell_ne _ b, heap_setCell_ne _ b, heap_setCell_ne _ b, heap_setCell_ne _ a]
  refine ⟨(far _ (by omega) (by omega)).trans k0, ?_, (far _ (by omega) (by omega)).trans k2, ?_, ?_, World.ownsRow_nil _ _ _ _, rfl, by simp⟩
  · show _ = _
    rw [heap_setCell_ne _ (by omega), heap_setCell_ne _ (by omega), heap_setCell_ne _ (by omega)]; exact s1
  · exact g3
  · rw [← h.tx]
    refine h1.kept fun q hq => ?_
    obtain ⟨cur, e⟩ := h1.typ hq
    refine far q (fun hq => ?_) (fun hq => ?_)
    · subst hq; rw [show W'.heap[_]? = _ from k1] at e; cases e
    · subst hq; rw [show W'.heap[_]? = _ from k3] at e; cases e

/-- Has the group an add? -/
theorem NB.adds {W : World} {H i o : Nat} {S : Ns} {vop : Value} {a : Option Addr} {n cap : Nat} {A : List ByteArray} (h : NB W H i o S vop a n cap A) : n = A.length ∧ (0 < n ↔ ¬ S.a = []) := by
  have hn : n = A.length := by
    rcases h.ad.2 with ⟨e, h0⟩ | ⟨q, c, cur, e, _⟩
    · cases e; exact h0.symm
    · cases e; rfl
  refine ⟨hn, ?_⟩
  rw [hn, ← h.tx]
  have hne := h.ne
  cases A with
  | nil => simp [text]
  | cons x A =>
    have := hne x List.mem_cons_self
    rw [toList_data] at this
    simp [text, this]

end Go.Proofs.Ytpmijaplkbmbiaa.E

/- Norm: what a round does, as numbers and boxes. -/
namespace Go.Proofs.Ytpmijaplkbmbiaa.E
open Go.Proofs.Ytpmijaplkbmbiaa Go.RowKit Go.By Go.Shelf
set_option linter.unusedVariables false
set_option linter.unusedSimpArgs false

theorem keepsFrom_only {B : Nat} {S : Nat → Prop} {W W' : World} (h : Only S W W') (hS : ∀ k, S k → ∃ cs t fr, W.heap[k]? = some (Obj.cells cs t fr)) : KeepsFrom B W W' :=
  ⟨h.size, fun k o _ hk hc => (h.block k (lt_of_heap hk) (fun e => by
    obtain ⟨cs, t, fr, e2⟩ := hS k e
    rw [hk] at e2; cases e2; cases hc)).trans hk⟩

theorem size_snoc {pre : List Rn} {x : Rn} (h : kind x ≠ 0) : ((tIn (expand (pre ++ [x])) : Nat) : Int) = (tIn (expand pre) : Int) + (x.keep + x.drop) ∧ ((tOut (expand (pre ++ [x])) : Nat) : Int) = (tOut (expand pre) : Int) + (x.keep + (x.add.size : Int)) := by
  rw [expand_snoc, tIn_append, tOut_append, Int.natCast_add, Int.natCast_add, tIn_toks h, tOut_toks h]; exact ⟨rfl, rfl⟩

theorem fits_iff {pre : List Rn} {x : Rn} (h : kind x ≠ 0) :
    (max x.keep x.drop ≤ 16777216 - (tIn (expand pre) : Int) ∧ max x.keep (x.add.size : Int) ≤ 16777216 - (tOut (expand pre) : Int)) ↔ (tIn (expand (pre ++ [x])) ≤ 16777216 ∧ tOut (expand (pre ++ [x])) ≤ 16777216) := by
  obtain ⟨e1, e2⟩ := size_snoc (pre := pre) h
  obtain ⟨_, _, m1, m2⟩ := kind_facts h
  rw [m1, m2]; omega

theorem took_step {pre : List Rn} {x : Rn} (h : kind x ≠ 0) (hk : kind x = 1 → (nscan (expand pre)).a = [] ∧ (nscan (expand pre)).d = 0) :
    nscan (expand (pre ++ [x])) = ⟨(nscan (expand pre)).op, (nscan (expand pre)).k + x.keep.toNat, (nscan (expand pre)).a ++ x.add.data.toList, (nscan (expand pre)).d + x.drop.toNat⟩ := by
  rw [nscan_snoc]
  rcases kind_cases h with ⟨n, hn, rfl⟩ | ⟨a, ha, rfl⟩ | ⟨n, hn, rfl⟩
  · have hs := hk (kind_rK hn)
    rw [nstep_keep0 hn hs, hs.1, hs.2]; simp [rK]
  · rw [nstep_add ha]; simp [rA]
  · rw [nstep_drop hn]; simp [rD]

theorem flush_step {pre : List Rn} {x : Rn} (h : kind x = 1) (hs : ¬ ((nscan (expand pre)).a = [] ∧ (nscan (expand pre)).d = 0)) :
    nscan (expand (pre ++ [x])) = ⟨(nscan (expand pre)).op ++ flush (nscan (expand pre)).k (nscan (expand pre)).a (nscan (expand pre)).d, 0 + x.keep.toNat, [] ++ x.add.data.toList, 0 + x.drop.toNat⟩ := by
  rw [nscan_snoc]
  rcases kind_cases (r := x) (by omega) with ⟨n, hn, rfl⟩ | ⟨a, ha, rfl⟩ | ⟨n, hn, rfl⟩
  · rw [nstep_keep1 hn hs]; simp [rK]
  · rw [kind_rA ha] at h; omega
  · rw [kind_rD hn] at h; omega

theorem scan_bounds (ts : List Tok) : (nscan ts).k ≤ tIn ts ∧ (nscan ts).d ≤ tIn ts ∧ (nscan ts).a.length ≤ tOut ts := by
  obtain ⟨h1, h2⟩ := sums_foldl ts ns0
  rw [show sIn ns0 = 0 from rfl, Nat.zero_add] at h1
  rw [show sOut ns0 = 0 from rfl, Nat.zero_add] at h2
  rw [show ts.foldl tstep ns0 = nscan ts from rfl, sIn_eq] at h1
  rw [show ts.foldl tstep ns0 = nscan ts from rfl, sOut_eq] at h2
  omega

theorem len_flush (k : Nat) (a : List UInt8) (d : Nat) : (flush k a d).length = (if k = 0 then 0 else 1) + ((if a = [] then 0 else 1) + (if d = 0 then 0 else 1)) := by
  unfold flush
  rw [List.length_append, List.length_append]
  congr 1
  · split <;> rfl
  congr 1
  · split <;> rfl
  · split <;> rfl

theorem cnt_step (s : Ns) (t : Tok) : (nend (tstep s t)).length ≤ (nend s).length + 1 := by
  cases t with
  | A b =>
    simp only [tstep, nend, List.length_append, len_flush]
    have : ¬ (s.a ++ [b] = []) := by simp
    rw [if_neg this]
    split <;> split <;> split <;> omega
  | D =>
    simp only [tstep, nend, List.length_append, len_flush]
    rw [if_neg (by omega : ¬ s.d + 1 = 0)]
    split <;> split <;> split <;> omega
  | K =>
    by_cases hs : s.a = [] ∧ s.d = 0
    · rw [tstep_K0 hs]
      simp only [nend, List.length_append, len_flush, hs.1, hs.2, if_true]
      rw [if_neg (by omega : ¬ s.k + 1 = 0)]
      split <;> omega
    · rw [tstep_K1 hs]
      simp only [nend, List.length_append, len_flush]
      simp
theorem cnt_foldl (ts : List Tok) (s : Ns) : (nend (ts.foldl tstep s)).length ≤ (nend s).length + ts.length := by
  induction ts generalizing s with
  | nil => simp
  | cons t ts ih =>
    have h1 := cnt_step s t
    have h2 := ih (tstep s t)
    rw [List.foldl_cons, List.length_cons]; omega
theorem toks_len (ts : List Tok) : ts.length ≤ tIn ts + tOut ts := by
  induction ts with
  | nil => simp [tIn, tOut]
  | cons t ts ih => cases t <;> simp [tIn, tOut] <;> omega
theorem op_len (ts : List Tok) : (nscan ts).op.length ≤ tIn ts + tOut ts := by
  have h1 := cnt_foldl ts ns0
  have h2 := toks_len ts
  rw [show (nend ns0).length = 0 from rfl, Nat.zero_add, show ts.foldl tstep ns0 = nscan ts from rfl, nend, List.length_append] at h1
  omega

theorem cells_ty {c c' : Array Value} {t t' : TypeId} {fr fr' : Nat × Nat} (h : some (Obj.cells c t fr) = some (Obj.cells c' t' fr')) : t = t' := by
  injection h with h; injection h

/-- Within a round: what holds behind a call of it. -/
structure Mid (B0 H q i o : Nat) (x : Rn) (W : World) (S : Ns) (vop : Value) (a : Option Addr) (n cap : Nat) (A : List ByteArray) (W1 : World) : Prop where
  nb : NB W1 H i o S vop a n cap A
  run : W1.heap[q]? = some (.cells #[.int .i64 x.keep, .string x.add, .int .i64 x.drop] 91 (0, 0))
  kf : KeepsFrom B0 W W1
  bl : Below H W W1

theorem NB.cellsT {W : World} {H i o : Nat} {S : Ns} {vop : Value} {a : Option Addr} {n cap : Nat} {A : List ByteArray} (h : NB W H i o S vop a n cap A) (k : Nat)
    (hk : k = H ∨ k = H + 1 ∨ k = H + 1 + 1 ∨ k = H + 1 + 1 + 1 ∨ some k = vop.ownBlock ∨ some k = (Value.slice a n cap).ownBlock) : ∃ cs t fr, W.heap[k]? = some (Obj.cells cs t fr) := by
  rcases hk with rfl | rfl | rfl | rfl | hk | hk
  · exact ⟨_, _, _, h.res⟩
  · exact ⟨_, _, _, h.opb⟩
  · exact ⟨_, _, _, h.siz⟩
  · exact ⟨_, _, _, h.grp⟩
  · obtain ⟨cur, e⟩ := h.op.typ hk.symm; exact ⟨_, _, _, e⟩
  · obtain ⟨cur, e⟩ := row_typ h.ad hk.symm; exact ⟨_, _, _, e⟩

theorem NB.base {W : World} {H i o : Nat} {S : Ns} {vop : Value} {a : Option Addr} {n cap : Nat} {A : List ByteArray} (h : NB W H i o S vop a n cap A) (k : Nat)
    (hk : k = H ∨ k = H + 1 ∨ k = H + 1 + 1 ∨ k = H + 1 + 1 + 1 ∨ some k = vop.ownBlock ∨ some k = (Value.slice a n cap).ownBlock) : H ≤ k := by
  rcases hk with rfl | rfl | rfl | rfl | hk | hk
  · omega
  · omega
  · omega
  · omega
  · exact (h.op.lt hk.symm).1
  · rcases h.ad.2 with ⟨e, _⟩ | ⟨g, c, cur, e, hb, _⟩
    · cases e; cases hk
    · cases e; cases hk; exact hb

theorem mid_grew {B0 H q i o i' o' : Nat} {x : Rn} {W W1 : World} {S : Ns} {vop : Value} {a : Option Addr} {n cap : Nat} {A : List ByteArray} (h : NB W H i o S vop a n cap A)
    (hq : W.heap[q]? = some (.cells #[.int .i64 x.keep, .string x.add, .int .i64 x.drop] 91 (0, 0))) (hH : H ≤ W.heap.size) (hG : Grew (H + 1 + 1) (i' : Int) (o' : Int) W W1) :
    Mid B0 H q i' o' x W S vop a n cap A W1 := by
  refine ⟨h.grew hG, ?_, keepsFrom_only hG.2 fun k hk => h.cellsT k (by subst hk; simp), hG.2.below hH fun k hk => by omega⟩
  rw [hG.2.block q (lt_of_heap hq) (fun e => ?_)]
  · exact hq
  · subst e; rw [h.siz] at hq; exact absurd (cells_ty hq) (by decide)

theorem mid_flushed {B0 H q i o : Nat} {x : Rn} {W W1 W2 : World} {S : Ns} {vop v' : Value} {a : Option Addr} {n cap : Nat} {A : List ByteArray} (h : Mid B0 H q i o x W S vop a n cap A W1) (hH : H ≤ W.heap.size) (hvq : vop.ownBlock ≠ some q)
    (h1 : OwnR W2 H v' (S.op ++ flush S.k (text A) S.d)) (h2 : Only (fun i => some i = vop.ownBlock) W1 W2) :
    Mid B0 H q i o x W ⟨S.op ++ flush S.k S.a S.d, 0, [], 0⟩ v' none 0 0 [] ((((W2.setCell ⟨H + 1, 0, none⟩ v').setCell ⟨H + 1 + 1 + 1, 0, none⟩ (.int .i64 0)).setCell ⟨H + 1 + 1 + 1, 1, none⟩ (.slice none 0 0)).setCell ⟨H + 1 + 1 + 1, 2, none⟩ (.int .i64 0)) ∧
    (W2.frozen? ⟨H + 1, 0, none⟩ = false ∧ W2.cell? ⟨H + 1, 0, none⟩ = some vop) ∧ Grp W2 (H + 1 + 1 + 1) (S.k : Int) (.slice a n cap) (S.d : Int) ∧ W2.heap[q]? = some (.cells #[.int .i64 x.keep, .string x.add, .int .i64 x.drop] 91 (0, 0)) ∧ q ≠ H + 1 ∧ q ≠ H + 1 + 1 + 1 := by
  have hs : W.heap.size ≤ W1.heap.size := h.kf.size
  have key : ∀ (k : Nat) (c : Array Value) (t : TypeId), W1.heap[k]? = some (Obj.cells c t (0, 0)) → t ≠ 91 → W2.heap[k]? = some (Obj.cells c t (0, 0)) := fun k c t e ht => by
    rw [h2.block k (lt_of_heap e) (fun hq => ?_), e]
    obtain ⟨cur, e2⟩ := h.nb.op.typ hq.symm
    rw [e2] at e; cases e; exact ht rfl
  have hq2 : W2.heap[q]? = some (.cells #[.int .i64 x.keep, .string x.add, .int .i64 x.drop] 91 (0, 0)) := by
    rw [h2.block q (lt_of_heap h.run) (fun e => hvq e.symm)]; exact h.run
  have n1 : q ≠ H + 1 := fun e => by
    have := h.run; rw [e, show W1.heap[H + 1]? = _ from h.nb.opb] at this; exact absurd (cells_ty this) (by decide)
  have n3 : q ≠ H + 1 + 1 + 1 := fun e => by
    have := h.run; rw [e, show W1.heap[H + 1 + 1 + 1]? = _ from h.nb.grp] at this; exact absurd (cells_ty this) (by decide)
  have b1 : Boxed W2 (H + 1) 77 vop := key _ _ _ h.nb.opb (by decide)
  have b3 : Grp W2 (H + 1 + 1 + 1) (S.k : Int) (.slice a n cap) (S.d : Int) := key _ _ _ h.nb.grp (by decide)
  refine ⟨⟨h.nb.flushed h1 h2, ?_, ?_, ?_⟩, ⟨b1.frozen, b1.cell⟩, b3, hq2, n1, n3⟩
  · rw [heap_setCell_ne _ n3, heap_setCell_ne _ n3, heap_setCell_ne _ n3, heap_setCell_ne _ n1]; exact hq2
  · refine h.kf.trans ((keepsFrom_only h2 fun k hk => h.nb.cellsT k (by simp [hk])).trans ?_)
    exact ((((KeepsOthers.setCell _ _ _).trans (KeepsOthers.setCell _ _ _)).trans (KeepsOthers.setCell _ _ _)).trans (KeepsOthers.setCell _ _ _)).from _
  · refine h.bl.trans ?_
    have hb : Below H W1 W2 := h2.below (Nat.le_trans hH hs) fun k hk => h.nb.base k (by simp [hk])
    exact (((hb.setCell (p := ⟨H + 1, 0, none⟩) (by show H ≤ H + 1; omega) _).setCell (p := ⟨H + 1 + 1 + 1, 0, none⟩) (by show H ≤ H + 1 + 1 + 1; omega) _).setCell (p := ⟨H + 1 + 1 + 1, 1, none⟩) (by show H ≤ H + 1 + 1 + 1; omega) _).setCell (p := ⟨H + 1 + 1 + 1, 2, none⟩) (by show H ≤ H + 1 + 1 + 1; omega) _

/-- What holds behind some runs. -/
def NJ (H : Nat) (pre : List Rn) (W : World) : Prop := tIn (expand pre) ≤ 16777216 ∧ tOut (expand pre) ≤ 16777216 ∧ ∃ vop a n cap A, NB W H (tIn (expand pre)) (tOut (expand pre)) (nscan (expand pre)) vop a n cap A ∧ A.length ≤ pre.length

theorem mid_took {B0 H q : Nat} {pre : List Rn} {x : Rn} {W W1 W' : World} {S : Ns} {vop : Value} {a : Option Addr} {n cap : Nat} {A : List ByteArray} (h : Mid B0 H q (tIn (expand (pre ++ [x]))) (tOut (expand (pre ++ [x]))) x W S vop a n cap A W1) (hH : H ≤ W.heap.size)
    (hx : 0 ≤ x.keep ∧ 0 ≤ x.drop) (hT : Took W1 H (H + 1 + 1 + 1) ((S.k : Int) + x.keep) (.slice a n cap) ((S.d : Int) + x.drop) (A ++ addl x.add) W')
    (hS : nscan (expand (pre ++ [x])) = ⟨S.op, S.k + x.keep.toNat, S.a ++ x.add.data.toList, S.d + x.drop.toNat⟩) (h1 : tIn (expand (pre ++ [x])) ≤ 16777216) (h2 : tOut (expand (pre ++ [x])) ≤ 16777216) (hA : A.length ≤ pre.length) :
    KeepsFrom B0 W W' ∧ Below H W W' ∧ NJ H (pre ++ [x]) W' := by
  have hs : W.heap.size ≤ W1.heap.size := h.kf.size
  have hT2 : Took W1 H (H + 1 + 1 + 1) ((S.k + x.keep.toNat : Nat) : Int) (.slice a n cap) ((S.d + x.drop.toNat : Nat) : Int) (A ++ addl x.add) W' := by
    rw [Int.natCast_add, Int.natCast_add, Int.toNat_of_nonneg hx.1, Int.toNat_of_nonneg hx.2]; exact hT
  obtain ⟨a', n', cap', hnb⟩ := h.nb.took hT2
  obtain ⟨_, _, _, _, _, h3⟩ := hT
  refine ⟨h.kf.trans (keepsFrom_only h3 fun k hk => h.nb.cellsT k ?_), h.bl.trans (h3.below (Nat.le_trans hH hs) fun k hk => h.nb.base k ?_), h1, h2, vop, a', n', cap', A ++ addl x.add, by rw [hS]; exact hnb, ?_⟩
  · rcases hk with hk | hk
    · simp [hk]
    · simp [hk]
  · rcases hk with hk | hk
    · simp [hk]
    · simp [hk]
  · rw [List.length_append, List.length_append]
    have : (addl x.add).length ≤ 1 := by unfold addl; split <;> simp
    simp; omega

theorem nj_own (H : Nat) : Own (fun pre W => NJ H pre W) := fun pre X Y row h hg hrow => by
  obtain ⟨h1, h2, vop, a, n, cap, A, h, hA⟩ := h
  exact ⟨h1, h2, vop, a, n, cap, A, h.keep fun q c t fr e => cells_keep e hg hrow, hA⟩

end Go.Proofs.Ytpmijaplkbmbiaa.E

/- Norm, walked. -/
namespace Go.Proofs.Ytpmijaplkbmbiaa.E
open Go.Proofs.Ytpmijaplkbmbiaa Go.RowKit Go.By Go.Shelf
set_option linter.unusedVariables false
set_option linter.unusedSimpArgs false
attribute [local go_sem] Oper.semAt_some

/-- Where Norm stands in a round. -/
def NA (a : Option Addr) (n cap H : Nat) (x : Rn) (q : Nat) : Act := { tmps := #[.slice a n cap, undef, .pointer (some ⟨H, 0, none⟩), .pointer (some ⟨H + 1, 0, none⟩), .pointer (some ⟨H + 1 + 1, 0, none⟩), .pointer (some ⟨H + 1 + 1 + 1, 0, none⟩), .int .i64 (kind x : Int), .pointer (some ⟨q, 0, none⟩), .slice a n cap, .func (.func 132) #[] #[.pointer (some ⟨H + 1 + 1 + 1 + 1, 0, none⟩)], .int .i64 (kind x : Int), .agg #[.int .i64 x.keep, .string x.add, .int .i64 x.drop], undef, undef, undef, undef, undef, undef, undef, undef, undef, undef, undef, undef, undef, undef, undef, undef, undef, undef, undef, undef, undef], defers := [] }
def NAx (a : Option Addr) (n cap H : Nat) (x : Rn) (a' : Act) (W : World) : Prop := ∃ q v, a' = NA a n cap H x q ∧ W.heap[q]? = some (.cells #[.int .i64 x.keep, .string x.add, .int .i64 x.drop] 91 (0, 0)) ∧ Boxed W (H + 1) 77 v ∧ v.ownBlock ≠ some q

theorem nax_own (a : Option Addr) (n cap H : Nat) (x : Rn) (a' : Act) : Own (fun (_ : Unit) W => NAx a n cap H x a' W) := fun b X Y row h hg hrow => by
  obtain ⟨q, v, e, hq, hb, hn⟩ := h
  exact ⟨q, v, e, cells_keep hq hg hrow, cells_keep hb hg hrow, hn⟩

/-- How it ends. -/
theorem norm_end {w W1 : World} {D : Nat} {v x y : Value} {R : List Rn} (hB : Below w.heap.size w W1) (hx : Boxed W1 w.heap.size 77 x) (hy : Boxed W1 (w.heap.size + 1) 77 y) (ho : OwnR W1 w.heap.size v R) (hD : W1.heap[D]? = some (Obj.deferred (some []))) (hDl : w.heap.size ≤ D) :
    ((W1.setCell ⟨w.heap.size + 1, 0, none⟩ v).setCell ⟨w.heap.size, 0, none⟩ v).heap[D]? = some (Obj.deferred (some [])) ∧
    (((W1.setCell ⟨w.heap.size + 1, 0, none⟩ v).setCell ⟨w.heap.size, 0, none⟩ v).putObj D (.deferred none)).cell? ⟨w.heap.size, 0, none⟩ = some v ∧
    OwnR (((W1.setCell ⟨w.heap.size + 1, 0, none⟩ v).setCell ⟨w.heap.size, 0, none⟩ v).putObj D (.deferred none)) w.heap.size v R ∧
    Below w.heap.size w (((W1.setCell ⟨w.heap.size + 1, 0, none⟩ v).setCell ⟨w.heap.size, 0, none⟩ v).putObj D (.deferred none)) := by
  have e1 : ((W1.setCell ⟨w.heap.size + 1, 0, none⟩ v).setCell ⟨w.heap.size, 0, none⟩ v).heap[D]? = some (Obj.deferred (some [])) := ((KeepsOthers.setCell _ _ _).trans (KeepsOthers.setCell _ _ _)).same D _ hD rfl
  have e2 : Boxed ((W1.setCell ⟨w.heap.size + 1, 0, none⟩ v).setCell ⟨w.heap.size, 0, none⟩ v) w.heap.size 77 v := (hx.other (by omega) v).set v
  have e3 : OwnR ((W1.setCell ⟨w.heap.size + 1, 0, none⟩ v).setCell ⟨w.heap.size, 0, none⟩ v) w.heap.size v R := ho.kept fun q hq => by
    obtain ⟨cur, e⟩ := ho.typ hq
    rw [heap_setCell_ne _ (fun h => ?_), heap_setCell_ne _ (fun h => ?_)]
    · subst h; rw [show W1.heap[_]? = _ from hy] at e; exact absurd (cells_ty e) (by decide)
    · subst h; rw [show W1.heap[_]? = _ from hx] at e; exact absurd (cells_ty e) (by decide)
  have e4 : Below w.heap.size w ((W1.setCell ⟨w.heap.size + 1, 0, none⟩ v).setCell ⟨w.heap.size, 0, none⟩ v) := (hB.setCell (p := ⟨w.heap.size + 1, 0, none⟩) (Nat.le_succ _) v).setCell (p := ⟨w.heap.size, 0, none⟩) (Nat.le_refl _) v
  have hkeep := fun (B : Nat) (cs : Array Value) (t : TypeId) (fr : Nat × Nat) (h : ((W1.setCell ⟨w.heap.size + 1, 0, none⟩ v).setCell ⟨w.heap.size, 0, none⟩ v).heap[B]? = some (.cells cs t fr)) => cells_keep h (grownBy_putObj' _ D (.deferred none)) (fun r e => by cases e; exact ⟨_, e1, rfl⟩)
  refine ⟨e1, Boxed.cell (t := 77) (hkeep _ _ _ _ e2), e3.kept fun q hq => ?_, e4.trans (belowK_b (w := w) (Nat.le_refl _) _ D _ _ hDl e1 rfl rfl)⟩
  obtain ⟨cur, e⟩ := e3.typ hq
  rw [e]; exact hkeep _ _ _ _ e

theorem norm_end2 {w W1 : World} {D : Nat} {v x y : Value} (hB : Below w.heap.size w W1) (hx : Boxed W1 w.heap.size 77 x) (hy : Boxed W1 (w.heap.size + 1) 77 y) (hD : W1.heap[D]? = some (Obj.deferred (some []))) (hDl : w.heap.size ≤ D) :
    ((W1.setCell ⟨w.heap.size + 1, 0, none⟩ v).setCell ⟨w.heap.size, 0, none⟩ (.slice none 0 0)).heap[D]? = some (Obj.deferred (some [])) ∧
    (((W1.setCell ⟨w.heap.size + 1, 0, none⟩ v).setCell ⟨w.heap.size, 0, none⟩ (.slice none 0 0)).putObj D (.deferred none)).cell? ⟨w.heap.size, 0, none⟩ = some (.slice none 0 0) ∧ True ∧
    Below w.heap.size w (((W1.setCell ⟨w.heap.size + 1, 0, none⟩ v).setCell ⟨w.heap.size, 0, none⟩ (.slice none 0 0)).putObj D (.deferred none)) := by
  have e1 : ((W1.setCell ⟨w.heap.size + 1, 0, none⟩ v).setCell ⟨w.heap.size, 0, none⟩ (.slice none 0 0)).heap[D]? = some (Obj.deferred (some [])) := ((KeepsOthers.setCell _ _ _).trans (KeepsOthers.setCell _ _ _)).same D _ hD rfl
  have e2 : Boxed ((W1.setCell ⟨w.heap.size + 1, 0, none⟩ v).setCell ⟨w.heap.size, 0, none⟩ (.slice none 0 0)) w.heap.size 77 (.slice none 0 0) := (hx.other (by omega) v).set _
  have e4 : Below w.heap.size w ((W1.setCell ⟨w.heap.size + 1, 0, none⟩ v).setCell ⟨w.heap.size, 0, none⟩ (.slice none 0 0)) := (hB.setCell (p := ⟨w.heap.size + 1, 0, none⟩) (Nat.le_succ _) v).setCell (p := ⟨w.heap.size, 0, none⟩) (Nat.le_refl _) _
  exact ⟨e1, Boxed.cell (t := 77) (cells_keep e2 (grownBy_putObj' _ D (.deferred none)) (fun r e => by cases e; exact ⟨_, e1, rfl⟩)), trivial, e4.trans (belowK_b (w := w) (Nat.le_refl _) _ D _ _ hDl e1 rfl rfl)⟩

set_option maxRecDepth 100000 in
set_option maxHeartbeats 8000000 in
theorem norm_any (a : Option Addr) (cap : Nat) (rs : List Rn) (w : World) (hS : CameR w.heap.size w a rs) (hl : rs.length ≤ 1000000) :
    Calls Try.prog 60 #[.slice a rs.length cap] w fun e W' => Gives w.heap.size w (normR rs) e W' := by
  have h1 : 1 ≤ 3 := by omega
  have hro : Fence.wide.round = none := rfl
  have h60 : Fence.wide.fn 60 := trivial
  have h102 : Fence.wide.fn 102 := trivial
  have h103 : Fence.wide.fn 103 := trivial
  have h104 : Fence.wide.fn 104 := trivial
  have h105 : Fence.wide.fn 105 := trivial
  have h106 : Fence.wide.fn 106 := trivial
  have h132 : Fence.wide.fn 132 := trivial
  refine (callsIn_wide (n := 3)).1 ?_
  refine callsIn_of_wp_marks Try.func60 rfl h60 ?_ hro
  simp only [Try.ntmps60, List.size_toArray, List.length_cons, List.length_nil, Nat.reduceAdd, Nat.reduceSub, Array.replicate_succ, Array.replicate_zero, List.push_toArray, List.append_toArray, List.nil_append, List.cons_append]
  gi_wp2_with (gi_at_call 102; refine (each_any (3 - 1) _ _ _ _).mono ?_; rintro e w' ⟨rfl, rfl⟩)
  obtain ⟨W0, hW0⟩ : ∃ W0, W0 = (((((w.alloc (.cells #[.slice none 0 0] 77)).alloc (.cells #[.slice none 0 0] 77)).alloc (.cells #[.int .i64 0, .int .i64 0] 125)).alloc (.cells #[.int .i64 0, .slice none 0 0, .int .i64 0] 131)).alloc (.cells #[.slice a rs.length cap] 77)) := ⟨_, rfl⟩
  have hsz : W0.heap.size = w.heap.size + 5 := by rw [hW0]; simp
  have n0 := World.alloc_heap_new w (.cells #[.slice none 0 0] 77)
  have n1 := World.alloc_heap_new (w.alloc (.cells #[.slice none 0 0] 77)) (.cells #[.slice none 0 0] 77)
  have n2 := World.alloc_heap_new ((w.alloc (.cells #[.slice none 0 0] 77)).alloc (.cells #[.slice none 0 0] 77)) (.cells #[.int .i64 0, .int .i64 0] 125)
  have n3 := World.alloc_heap_new (((w.alloc (.cells #[.slice none 0 0] 77)).alloc (.cells #[.slice none 0 0] 77)).alloc (.cells #[.int .i64 0, .int .i64 0] 125)) (.cells #[.int .i64 0, .slice none 0 0, .int .i64 0] 131)
  have n4 := World.alloc_heap_new ((((w.alloc (.cells #[.slice none 0 0] 77)).alloc (.cells #[.slice none 0 0] 77)).alloc (.cells #[.int .i64 0, .int .i64 0] 125)).alloc (.cells #[.int .i64 0, .slice none 0 0, .int .i64 0] 131)) (.cells #[.slice a rs.length cap] 77)
  simp only [World.size_alloc] at n1 n2 n3 n4
  have up : ∀ (X : World) (o o' : Obj) (k : Nat), X.heap[k]? = some o → (X.alloc o').heap[k]? = some o := fun X o o' k h => (Below.heap_alloc X o' k (lt_of_heap h)).trans h
  have hnj : NJ w.heap.size [] W0 := by
    refine ⟨by decide, by decide, .slice none 0 0, none, 0, 0, [], ?_, by simp⟩
    rw [hW0]
    exact ⟨up _ _ _ _ (up _ _ _ _ (up _ _ _ _ (up _ _ _ _ n0))), up _ _ _ _ (up _ _ _ _ (up _ _ _ _ n1)), up _ _ _ _ (up _ _ _ _ n2), up _ _ _ _ n3, OwnR.nil _ _, World.ownsRow_nil _ _ _ _, rfl, by simp⟩
  have hbn : Boxed W0 (w.heap.size + 1 + 1 + 1 + 1) 77 (.slice a rs.length cap) := by rw [hW0]; exact n4
  have hB0 : Below w.heap.size w W0 := by
    rw [hW0]
    exact (((((Below.refl _ w).alloc (Nat.le_refl _) _).alloc (by simp) _).alloc (by simp; omega) _).alloc (by simp; omega) _).alloc (by simp; omega) _
  rw [← hW0]
  clear hW0 n0 n1 n2 n3 n4 up
  refine wpIn_rangeFunc_ownH hro h1 (gf := 132) (lb := #[.pointer (some ⟨w.heap.size + 1 + 1 + 1 + 1, 0, none⟩)]) rfl h132 (enters_of Try.func132 (by kernel_rfl) rfl)
    (runs_stops (3 - 1) (by omega) (w.heap.size + 1 + 1 + 1 + 1) w.heap.size a cap rs W0 (by omega) (by omega) hbn.cell (hS.below hB0) (by omega)) belowK_t (belowK_b (by omega)) (Below.refl _ _) (fun _ => rfl)
    (fun pre W => NJ w.heap.size pre W ∧ Below w.heap.size w W)
    (fun cc pre W => Boxed W w.heap.size 77 (.slice none 0 0) ∧ (cc = .ret ∧ ¬ (tIn (expand pre) ≤ 16777216 ∧ tOut (expand pre) ≤ 16777216)) ∧ Below w.heap.size w W)
    (OwnFrom.and (Own.from (nj_own w.heap.size) _) (ownFrom_below (Nat.le_refl _) (by omega)))
    (fun cc => OwnFrom.and (Own.from (fun b X Y row h hg hrow => cells_keep h hg hrow) _) (OwnFrom.and (ownFrom_pure _ _) (ownFrom_below (Nat.le_refl _) (by omega))))
    ⟨hnj, hB0⟩
    (NAx a rs.length cap w.heap.size) (fun x a' => Own.from (nax_own a rs.length cap w.heap.size x a') _) ?assign ?body ?done ?stop
  case assign =>
    rintro l pre x W K ⟨hj, hB⟩ hK
    have hal : Below W.heap.size W (W.alloc (.cells #[.int .i64 x.keep, .string x.add, .int .i64 x.drop] 91)) := (Below.refl _ _).alloc (Nat.le_refl _) _
    have hj' := hj
    obtain ⟨g1, g2, vop, av, n, cv, A, hn, hAl⟩ := hj'
    have HZ := hide (hK (NA a rs.length cap w.heap.size x W.heap.size) _ (KeepsFrom.of_below hal) (hal.mono hB.size) ⟨⟨g1, g2, vop, av, n, cv, A, hn.below hal, hAl⟩, hB.trans (hal.mono hB.size)⟩ ⟨_, vop, rfl, World.alloc_heap_new W _, (hn.below hal).opb, fun e => absurd (hn.op.lt e).2 (Nat.lt_irrefl _)⟩)
    clear hj hB hK hal hn
    unfold encR
    gi_wp2
    exact HZ.out
  case body =>
    rintro l pre x a' W hl0 ⟨rr, hr⟩ ⟨⟨g1, g2, vop, av, n, cv, A, hn, hAl⟩, hB⟩ ⟨q, v, rfl, hq, hv, hvq⟩ hlt
    obtain rfl : vop = v := by have e := hn.opb.cell; rw [hv.cell] at e; cases e; rfl
    obtain ⟨ao, mo, co, rfl⟩ := form3 hn.op
    obtain ⟨xk, xa, xd⟩ := x
    have k0 : W.cell? ⟨q, 0, none⟩ = some (.int .i64 xk) := by rw [Joins.cell_of_block hq]; rfl
    have k1 : W.cell? ⟨q, 1, none⟩ = some (.string xa) := by rw [Joins.cell_of_block hq]; rfl
    have k2 : W.cell? ⟨q, 2, none⟩ = some (.int .i64 xd) := by rw [Joins.cell_of_block hq]; rfl
    unfold NA
    dsimp only
    obtain ⟨kx, hkx⟩ : ∃ kx, kx = kind ⟨xk, xa, xd⟩ := ⟨_, rfl⟩
    rw [← hkx]
    by_cases a0 : kx = 0
    · have hk0 : kind ⟨xk, xa, xd⟩ = 0 := by rw [← hkx]; exact a0
      have e1 : expand (pre ++ [⟨xk, xa, xd⟩]) = expand pre := by rw [expand_snoc, toks_right _ hk0, List.append_nil]
      have HQ : Hid (KeepsFrom W0.heap.size W W ∧ Below w.heap.size W W ∧ NJ w.heap.size (pre ++ [⟨xk, xa, xd⟩]) W ∧ Below w.heap.size w W) := by
        refine ⟨KeepsFrom.refl _ _, Below.refl _ _, ?_, hB⟩
        rw [NJ, e1]
        exact ⟨g1, g2, .slice ao mo co, av, n, cv, A, hn, by simp; omega⟩
      subst a0
      clear hn hB hq hv hvq hr hlt hkx hk0 e1 k0 k1 k2 hAl
      gi_wp2
      exact HQ.out
    have hk0 : kind ⟨xk, xa, xd⟩ ≠ 0 := by rw [← hkx]; exact a0
    have a0' : ((kx : Int) == 0) = false := by simp; omega
    obtain ⟨hxk, hxd, _, _⟩ := kind_facts hk0
    replace hxk : 0 ≤ xk := hxk
    replace hxd : 0 ≤ xd := hxd
    have hpl : pre.length ≤ rs.length := Nat.le_of_lt hlt
    have hHW : w.heap.size ≤ W.heap.size := hB.size
    by_cases a3 : max xk xd ≤ 16777216 - (tIn (expand pre) : Int) ∧ max xk (xa.size : Int) ≤ 16777216 - (tOut (expand pre) : Int)
    · have hfit := (fits_iff (pre := pre) hk0).1 a3
      obtain ⟨s1, s2⟩ := size_snoc (pre := pre) hk0
      replace s1 : ((tIn (expand (pre ++ [⟨xk, xa, xd⟩])) : Nat) : Int) = (tIn (expand pre) : Int) + (xk + xd) := s1
      replace s2 : ((tOut (expand (pre ++ [⟨xk, xa, xd⟩])) : Nat) : Int) = (tOut (expand pre) : Int) + (xk + (xa.size : Int)) := s2
      obtain ⟨b1, b2, b3⟩ := scan_bounds (expand pre)
      have b4 := op_len (expand pre)
      have hgr : CallsIn Fence.wide (3 - 1 - 1 - 1) Try.prog 103 #[.pointer (some ⟨w.heap.size + 1 + 1, 0, none⟩), .agg #[.int .i64 xk, .string xa, .int .i64 xd]] W fun e W' => e = .returned (.bool true) ∧ Hid (Mid W0.heap.size w.heap.size q (tIn (expand (pre ++ [⟨xk, xa, xd⟩]))) (tOut (expand (pre ++ [⟨xk, xa, xd⟩]))) ⟨xk, xa, xd⟩ W (nscan (expand pre)) (.slice ao mo co) av n cv A W') :=
        callsIn_wide.2 ((grow_yes hn.siz ⟨by omega, by omega⟩ ⟨by omega, by omega⟩ hxk hxd a3).mono fun e W' ⟨he, hG⟩ => ⟨he, mid_grew hn hq hHW (by rw [s1, s2]; exact hG)⟩)
      have htake : ∀ (S : Ns) (vop' : Value) (a' : Option Addr) (n' cap' : Nat) (A' : List ByteArray) (W1 : World), Mid W0.heap.size w.heap.size q (tIn (expand (pre ++ [⟨xk, xa, xd⟩]))) (tOut (expand (pre ++ [⟨xk, xa, xd⟩]))) ⟨xk, xa, xd⟩ W S vop' a' n' cap' A' W1 →
          nscan (expand (pre ++ [⟨xk, xa, xd⟩])) = ⟨S.op, S.k + xk.toNat, S.a ++ xa.data.toList, S.d + xd.toNat⟩ → A'.length ≤ pre.length →
          CallsIn Fence.wide (3 - 1 - 1 - 1) Try.prog 106 #[.pointer (some ⟨w.heap.size + 1 + 1 + 1, 0, none⟩), .agg #[.int .i64 xk, .string xa, .int .i64 xd]] W1 fun e W' => e = .returned (.tuple #[]) ∧ Hid (KeepsFrom W0.heap.size W W' ∧ Below w.heap.size W W' ∧ NJ w.heap.size (pre ++ [⟨xk, xa, xd⟩]) W' ∧ Below w.heap.size w W') := fun S vop' a' n' cap' A' W1 hM hS hA' => by
        have sb := scan_bounds (expand (pre ++ [⟨xk, xa, xd⟩]))
        rw [hS] at sb
        replace sb : S.k + xk.toNat ≤ tIn (expand (pre ++ [⟨xk, xa, xd⟩])) ∧ S.d + xd.toNat ≤ tIn (expand (pre ++ [⟨xk, xa, xd⟩])) ∧ _ := sb
        refine callsIn_wide.2 ((take_any hM.nb.grp hM.nb.ad (Nat.le_trans hHW hM.kf.size) ⟨by omega, by omega⟩ ⟨by omega, by omega⟩ (by omega)).mono fun e W' ⟨he, hT⟩ => ⟨he, ?_⟩)
        obtain ⟨f1, f2, f3⟩ := mid_took hM hHW ⟨hxk, hxd⟩ hT hS hfit.1 hfit.2 hA'
        exact ⟨f1, f2, f3, hB.trans f2⟩
      have HTAKE := hide htake
      have HR : ∀ (S : Ns) (vop' : Value) (a' : Option Addr) (n' cap' : Nat) (A' : List ByteArray) (W1 : World), Mid W0.heap.size w.heap.size q (tIn (expand (pre ++ [⟨xk, xa, xd⟩]))) (tOut (expand (pre ++ [⟨xk, xa, xd⟩]))) ⟨xk, xa, xd⟩ W S vop' a' n' cap' A' W1 →
          W1.cell? ⟨q, 0, none⟩ = some (.int .i64 xk) ∧ W1.cell? ⟨q, 1, none⟩ = some (.string xa) ∧ W1.cell? ⟨q, 2, none⟩ = some (.int .i64 xd) ∧ W1.cell? ⟨w.heap.size + 1, 0, none⟩ = some vop' := fun S vop' a' n' cap' A' W1 hM =>
        ⟨by rw [Joins.cell_of_block hM.run]; rfl, by rw [Joins.cell_of_block hM.run]; rfl, by rw [Joins.cell_of_block hM.run]; rfl, hM.nb.opb.cell⟩
      have HRR := hide HR
      have HAL := hide hAl
      by_cases a1 : kx = 1
      · have hk1 : kind ⟨xk, xa, xd⟩ = 1 := by rw [← hkx]; exact a1
        have hch : ∀ W1, Mid W0.heap.size w.heap.size q (tIn (expand (pre ++ [⟨xk, xa, xd⟩]))) (tOut (expand (pre ++ [⟨xk, xa, xd⟩]))) ⟨xk, xa, xd⟩ W (nscan (expand pre)) (.slice ao mo co) av n cv A W1 → CallsIn Fence.wide (3 - 1 - 1 - 1) Try.prog 104 #[.pointer (some ⟨w.heap.size + 1 + 1 + 1, 0, none⟩)] W1 fun e W' => e = .returned (.bool (decide (¬ ((nscan (expand pre)).a = [] ∧ (nscan (expand pre)).d = 0)))) ∧ W' = W1 := fun W1 hM =>
          callsIn_wide.2 ((changes_any hM.nb.grp).mono fun e W' ⟨he, hw⟩ => ⟨by
            rw [he]
            have := hM.nb.adds.2
            congr 2
            apply decide_eq_decide.2
            rw [this]
            by_cases z : (nscan (expand pre)).a = [] <;> simp [z] <;> omega, hw⟩)
        have HCH := hide hch
        by_cases hs : (nscan (expand pre)).a = [] ∧ (nscan (expand pre)).d = 0
        · have HS := hide (took_step hk0 (fun _ => hs))
          have hd : decide (¬ ((nscan (expand pre)).a = [] ∧ (nscan (expand pre)).d = 0)) = false := by simp [hs]
          have HHD := hide hd
          subst a1
          have hch0 : ∀ W1, Mid W0.heap.size w.heap.size q (tIn (expand (pre ++ [⟨xk, xa, xd⟩]))) (tOut (expand (pre ++ [⟨xk, xa, xd⟩]))) ⟨xk, xa, xd⟩ W (nscan (expand pre)) (.slice ao mo co) av n cv A W1 → CallsIn Fence.wide (3 - 1 - 1 - 1) Try.prog 104 #[.pointer (some ⟨w.heap.size + 1 + 1 + 1, 0, none⟩)] W1 fun e W' => e = .returned (.bool false) ∧ W' = W1 := fun W1 hM => (hch W1 hM).mono fun e W' ⟨he, hw⟩ => ⟨by rw [he, hd], hw⟩
          have HCH0 := hide hch0
          clear hn hB hq hv hvq hr hlt hkx hk0 hAl a3 hfit s1 s2 b1 b2 b3 b4 htake HR hch hs hd hk1 g1 g2 hch0
          gi_wp2_with (gi_at_call 103; refine (CallsIn.inRound l hgr).mono ?_; rintro e W1 ⟨rfl, HM⟩; obtain ⟨z0, z1, z2, z3⟩ := HRR.out _ _ _ _ _ _ _ HM.out)
          gi_wp2_with (gi_at_call 104; refine (CallsIn.inRound l (HCH0.out _ HM.out)).mono ?_; rintro e W2 ⟨rfl, rfl⟩)
          gi_wp2_with (gi_at_call 106; refine (CallsIn.inRound l (HTAKE.out _ _ _ _ _ _ _ HM.out HS.out HAL.out)).mono ?_; rintro e W3 ⟨rfl, HZ⟩)
          exact HZ.out
        · have HS := hide (flush_step hk1 hs)
          have hd : decide (¬ ((nscan (expand pre)).a = [] ∧ (nscan (expand pre)).d = 0)) = true := by simp only [decide_eq_true_eq]; exact hs
          subst a1
          have hch1 : ∀ W1, Mid W0.heap.size w.heap.size q (tIn (expand (pre ++ [⟨xk, xa, xd⟩]))) (tOut (expand (pre ++ [⟨xk, xa, xd⟩]))) ⟨xk, xa, xd⟩ W (nscan (expand pre)) (.slice ao mo co) av n cv A W1 → CallsIn Fence.wide (3 - 1 - 1 - 1) Try.prog 104 #[.pointer (some ⟨w.heap.size + 1 + 1 + 1, 0, none⟩)] W1 fun e W' => e = .returned (.bool true) ∧ W' = W1 := fun W1 hM => (hch W1 hM).mono fun e W' ⟨he, hw⟩ => ⟨by rw [he, hd], hw⟩
          have HCH1 := hide hch1
          have hbe : ∀ W1, Mid W0.heap.size w.heap.size q (tIn (expand (pre ++ [⟨xk, xa, xd⟩]))) (tOut (expand (pre ++ [⟨xk, xa, xd⟩]))) ⟨xk, xa, xd⟩ W (nscan (expand pre)) (.slice ao mo co) av n cv A W1 → CallsIn Fence.wide (3 - 1 - 1 - 1) Try.prog 105 #[.pointer (some ⟨w.heap.size + 1 + 1 + 1, 0, none⟩), .slice ao mo co] W1 fun e W' => ∃ a' m' c', e = .returned (.slice a' m' c') ∧
              Hid (Mid W0.heap.size w.heap.size q (tIn (expand (pre ++ [⟨xk, xa, xd⟩]))) (tOut (expand (pre ++ [⟨xk, xa, xd⟩]))) ⟨xk, xa, xd⟩ W ⟨(nscan (expand pre)).op ++ flush (nscan (expand pre)).k (nscan (expand pre)).a (nscan (expand pre)).d, 0, [], 0⟩ (.slice a' m' c') none 0 0 [] ((((W'.setCell ⟨w.heap.size + 1, 0, none⟩ (.slice a' m' c')).setCell ⟨w.heap.size + 1 + 1 + 1, 0, none⟩ (.int .i64 0)).setCell ⟨w.heap.size + 1 + 1 + 1, 1, none⟩ (.slice none 0 0)).setCell ⟨w.heap.size + 1 + 1 + 1, 2, none⟩ (.int .i64 0))) ∧
              (W'.frozen? ⟨w.heap.size + 1, 0, none⟩ = false ∧ W'.cell? ⟨w.heap.size + 1, 0, none⟩ = some (.slice ao mo co)) ∧ Grp W' (w.heap.size + 1 + 1 + 1) ((nscan (expand pre)).k : Int) (.slice av n cv) ((nscan (expand pre)).d : Int) ∧ q ≠ w.heap.size + 1 ∧ q ≠ w.heap.size + 1 + 1 + 1 := fun W1 hM => by
            refine callsIn_wide.2 ((behind_any hM.nb.grp hM.nb.ad hM.nb.op (Nat.le_trans hHW hM.kf.size) (by omega) (by rw [← length_text, hM.nb.tx]; omega) (by omega)).mono ?_)
            rintro e W' ⟨v', rfl, ho, hon, _⟩
            obtain ⟨a', m', c', rfl⟩ := form3 ho
            obtain ⟨m1, m2, m3, m4, m5, m6⟩ := mid_flushed hM hHW hvq ho hon
            exact ⟨a', m', c', rfl, m1, m2, m3, m5, m6⟩
          have HBE := hide hbe
          clear hn hB hq hv hvq hr hlt hkx hk0 hAl a3 hfit s1 s2 b1 b2 b3 b4 htake HR hch hs hd hk1 g1 g2 hch1 hbe
          gi_wp2_with (gi_at_call 103; refine (CallsIn.inRound l hgr).mono ?_; rintro e W1 ⟨rfl, HM⟩; obtain ⟨z0, z1, z2, z3⟩ := HRR.out _ _ _ _ _ _ _ HM.out)
          gi_wp2_with (gi_at_call 104; refine (CallsIn.inRound l (HCH1.out _ HM.out)).mono ?_; rintro e W2 ⟨rfl, rfl⟩)
          gi_wp2_with (gi_at_call 105; refine (CallsIn.inRound l (HBE.out _ HM.out)).mono ?_; rintro e W2 ⟨a', m', c', rfl, HM2, ⟨y0, y1⟩, hgp, n1, n3⟩; obtain ⟨p0, p1, p2, p3, p4, p5⟩ := hgp.cells; obtain ⟨x0, x1, x2, x3⟩ := HRR.out _ _ _ _ _ _ _ HM2.out; clear hgp)
          gi_wp2_with (gi_at_call 106; refine (CallsIn.inRound l (HTAKE.out _ _ _ _ _ _ _ HM2.out HS.out (Nat.zero_le _))).mono ?_; rintro e W3 ⟨rfl, HZ⟩)
          exact HZ.out
      · have HS := hide (took_step (pre := pre) hk0 (fun h => absurd (hkx.trans h) a1))
        have a1' : ((kx : Int) == 1) = false := by simp; omega
        clear hn hB hq hv hvq hr hlt hkx hk0 hAl a3 hfit s1 s2 b1 b2 b3 b4 htake HR g1 g2
        gi_wp2_with (gi_at_call 103; refine (CallsIn.inRound l hgr).mono ?_; rintro e W1 ⟨rfl, HM⟩; obtain ⟨z0, z1, z2, z3⟩ := HRR.out _ _ _ _ _ _ _ HM.out)
        gi_wp2_with (gi_at_call 106; refine (CallsIn.inRound l (HTAKE.out _ _ _ _ _ _ _ HM.out HS.out HAL.out)).mono ?_; rintro e W3 ⟨rfl, HZ⟩)
        exact HZ.out
    · have hfit : ¬ (tIn (expand (pre ++ [⟨xk, xa, xd⟩])) ≤ 16777216 ∧ tOut (expand (pre ++ [⟨xk, xa, xd⟩])) ≤ 16777216) := fun h => a3 ((fits_iff (pre := pre) hk0).2 h)
      have hgr : CallsIn Fence.wide (3 - 1 - 1 - 1) Try.prog 103 #[.pointer (some ⟨w.heap.size + 1 + 1, 0, none⟩), .agg #[.int .i64 xk, .string xa, .int .i64 xd]] W fun e W' => e = .returned (.bool false) ∧ Below W.heap.size W W' :=
        callsIn_wide.2 (grow_no hn.siz ⟨by omega, by omega⟩ ⟨by omega, by omega⟩ a3)
      have HN := hide hn
      have HBB := hide hB
      have HF := hide hfit
      clear hn hB hq hv hvq hr hlt hkx hk0 hAl a3 hfit
      gi_wp2_with (gi_at_call 103; refine (CallsIn.inRound l hgr).mono ?_; rintro e W1 ⟨rfl, hG⟩; have z0 := (HN.out.below hG).res.cell; have z1 := (HN.out.below hG).res.frozen; have HG := hide hG; clear hG)
      refine ⟨(KeepsFrom.of_below HG.out).trans ((KeepsOthers.setCell _ _ _).from _), (HN.out.below HG.out).res.set _, ⟨rfl, HF.out⟩, ?_⟩
      exact (HBB.out.trans (HG.out.mono HBB.out.size)).setCell (p := ⟨w.heap.size, 0, none⟩) (Nat.le_refl _) _
  case done =>
    rintro D ys W hD rfl ⟨⟨g1, g2, vop, av, n, cv, A, hn, hAl⟩, hB⟩ hK
    obtain ⟨ao, mo, co, rfl⟩ := form3 hn.op
    obtain ⟨b1, b2, b3⟩ := scan_bounds (expand ys)
    have b4 := op_len (expand ys)
    have hHW : w.heap.size ≤ W.heap.size := hB.size
    have hb105 : CallsIn Fence.wide (3 - 1) Try.prog 105 #[.pointer (some ⟨w.heap.size + 1 + 1 + 1, 0, none⟩), .slice ao mo co] W fun e W' => ∃ a' m' c', e = .returned (.slice a' m' c') ∧ Hid (OwnR W' w.heap.size (.slice a' m' c') (normT (expand ys))) ∧ Hid (Below w.heap.size w W') ∧ Hid (Boxed W' (w.heap.size + 1) 77 (.slice ao mo co)) ∧ Hid (Boxed W' w.heap.size 77 (.slice none 0 0)) ∧ Hid (W'.heap[D]? = some (Obj.deferred (some []))) := by
      refine callsIn_wide.2 ((behind_any hn.grp hn.ad hn.op hHW (by omega) (by rw [← length_text, hn.tx]; omega) (by omega)).mono ?_)
      rintro e W' ⟨v', rfl, ho, hon, _⟩
      obtain ⟨a', m', c', rfl⟩ := form3 ho
      have key : ∀ (k : Nat) (o : Obj), W.heap[k]? = some o → (∀ c, o ≠ .cells c 91 (0, 0)) → W'.heap[k]? = some o := fun k o e ht => by
        rw [hon.block k (lt_of_heap e) (fun hq => ?_), e]
        obtain ⟨cur, e2⟩ := hn.op.typ hq.symm
        rw [e2] at e; cases e; exact ht _ rfl
      refine ⟨a', m', c', rfl, by rw [hn.tx] at ho; exact ho, hB.trans (hon.below hHW fun k hk => hn.base k (by simp [hk])), key _ _ hn.opb (fun c e => ?_), key _ _ hn.res (fun c e => ?_), key _ _ hK (fun c e => by cases e)⟩
      · injection e with e1 e2; exact absurd e2 (by decide)
      · injection e with e1 e2; exact absurd e2 (by decide)
    have z0 := hn.opb.cell
    have HG := hide (And.intro g1 g2)
    clear hn hAl hB b1 b2 b3 b4 hK g1 g2
    by_cases hlen : (normT (expand ys)).length ≤ 65536
    · have HL := hide hlen
      clear hlen
      gi_wp2_with (gi_at_call 105; refine hb105.mono ?_; rintro e W1 ⟨a', m', c', rfl, HO, HB, HX, HR, HD⟩; have y0 := HX.out.cell; have y1 := HX.out.frozen; have y2 := HR.out.cell; have y3 := HR.out.frozen; have hm : ¬ (65536 : Int) < (m' : Int) := by (have := HL.out; obtain ⟨_, _, e⟩ := HO.out.form; cases e; omega))
      obtain ⟨f1, f2, f3, f4⟩ := norm_end (v := .slice a' m' c') HB.out HR.out HX.out HO.out HD.out (by omega)
      refine ⟨by simp, .inl ⟨_, _, rfl, run_takeDeferred f1, ?_⟩⟩
      obtain ⟨_, _, e⟩ := HO.out.form
      cases e
      have hnr : normR ys = normT (expand ys) := by rw [normR, if_pos ⟨HG.out.1, HG.out.2, HL.out⟩]
      refine ⟨.slice a' (normT (expand ys)).length c', ?_, a', c', by rw [hnr], by rw [hnr]; exact f3.came, f4⟩
      simp [results, Try.f60, go_sem, f2]
    · have HL := hide hlen
      clear hlen
      gi_wp2_with (gi_at_call 105; refine hb105.mono ?_; rintro e W1 ⟨a', m', c', rfl, HO, HB, HX, HR, HD⟩; have y0 := HX.out.cell; have y1 := HX.out.frozen; have y2 := HR.out.cell; have y3 := HR.out.frozen; have hm : (65536 : Int) < (m' : Int) := by (have := HL.out; obtain ⟨_, _, e⟩ := HO.out.form; cases e; omega))
      obtain ⟨f1, f2, f3, f4⟩ := norm_end2 (v := .slice a' m' c') HB.out HR.out HX.out HD.out (by omega)
      refine ⟨by simp, .inl ⟨_, _, rfl, run_takeDeferred f1, ?_⟩⟩
      have hnr : normR ys = [] := by rw [normR, if_neg (fun h => HL.out h.2.2)]
      refine ⟨.slice none 0 0, ?_, none, 0, by rw [hnr]; rfl, by rw [hnr]; exact .inl rfl, f4⟩
      simp [results, Try.f60, go_sem, f2]
  case stop =>
    rintro D cc pre W hD hpre ⟨hrb, ⟨rfl, hno⟩, hB⟩ hK
    gi_wp2
    refine ⟨by simp, .inl ⟨_, _, rfl, run_takeDeferred hK, ?_⟩⟩
    have f2 : (W.putObj D (.deferred none)).cell? ⟨w.heap.size, 0, none⟩ = some (.slice none 0 0) := Boxed.cell (show Boxed (W.putObj D (.deferred none)) w.heap.size 77 (.slice none 0 0) from cells_keep hrb (grownBy_putObj' _ D (.deferred none)) (fun r e => by cases e; exact ⟨_, hK, rfl⟩))
    have hnr : normR rs = [] := by
      obtain ⟨t, rfl⟩ := hpre
      rw [normR, if_neg]
      rw [expand_append, tIn_append, tOut_append]
      omega
    refine ⟨.slice none 0 0, ?_, none, 0, by rw [hnr]; rfl, by rw [hnr]; exact .inl rfl, hB.trans (belowK_b (w := w) (Nat.le_refl _) W D _ _ (by omega) hK rfl rfl)⟩
    simp [results, Try.f60, go_sem, f2]

end Go.Proofs.Ytpmijaplkbmbiaa.E

/- Nothing, Insert, Delete; the examples. -/
namespace Go.Proofs.Ytpmijaplkbmbiaa.E
open Go.Proofs.Ytpmijaplkbmbiaa Go.RowKit Go.By Go.Shelf
set_option linter.unusedVariables false
set_option linter.unusedSimpArgs false

/-- Runs that lie in a block of their own. -/
theorem came_block {W : World} {H : Nat} {L : List Rn} (h : W.heap[H]? = some (.cells (cellsR L).toArray 91 (0, 0))) : CameR W.heap.size W (some ⟨H, 0, none⟩) L := by
  refine .inr ⟨H, 0, rfl, lt_of_heap h, fun i hi => ?_⟩
  have key : ∀ j u, (cells1 (L.getD i rn0))[j]? = some u → W.cell? ⟨H, 0 + i * 3 + j, none⟩ = some u := fun j u hu => by
    have e := cellsR_at L i j u hi hu
    rw [Joins.cell_of_block h, Nat.zero_add]; simpa using e
  exact ⟨by simpa using key 0 _ rfl, by simpa using key 1 _ rfl, by simpa using key 2 _ rfl⟩
theorem came_new (w : World) (L : List Rn) : CameR (w.alloc (.cells (cellsR L).toArray 91)).heap.size (w.alloc (.cells (cellsR L).toArray 91)) (some ⟨w.heap.size, 0, none⟩) L := came_block (World.alloc_heap_new w _)

theorem norm_new (w : World) (L : List Rn) (cap : Nat) (hl : L.length ≤ 1000000) :
    Calls Try.prog 60 #[.slice (some ⟨w.heap.size, 0, none⟩) L.length cap] (w.alloc (.cells (cellsR L).toArray 91)) fun e W' => Gives w.heap.size w (normR L) e W' :=
  (norm_any _ cap L _ (came_new w L) hl).mono fun e W' ⟨a, c, he, hc, hb⟩ => ⟨a, c, he, hc, ((Below.refl _ w).alloc (Nat.le_refl _) _).trans (hb.mono (by simp))⟩

theorem normT_keep (n : Nat) : normT (List.replicate n .K) = flush n [] 0 := by
  rw [normT, nscan, show ns0 = ⟨[], 0, [], 0⟩ from rfl, foldl_K0, nend, Nat.zero_add, List.nil_append]

theorem expand_one (r : Rn) : expand [r] = toks r := by simp [expand]
theorem toks_keep (n : Int) : toks ⟨n, ⟨#[]⟩, 0⟩ = List.replicate n.toNat .K := by
  by_cases h : 0 < n
  · have : (⟨n, ⟨#[]⟩, 0⟩ : Rn) = rK n.toNat := by rw [rK, Int.toNat_of_nonneg (by omega)]
    rw [this, toks_rK (by omega)]
  · rw [toks_right _ (kind_zero (fun e => h e.1) (fun e => e.2.1 nil_toList) (fun e => absurd e.2.2 (by omega))), show n.toNat = 0 by omega]; rfl
theorem toks_drop (n : Int) : toks ⟨0, ⟨#[]⟩, n⟩ = List.replicate n.toNat .D := by
  by_cases h : 0 < n
  · have : (⟨0, ⟨#[]⟩, n⟩ : Rn) = rD n.toNat := by rw [rD, Int.toNat_of_nonneg (by omega)]
    rw [this, toks_rD (by omega)]
  · rw [toks_right _ (kind_zero (fun e => absurd e.1 (by omega)) (fun e => e.2.1 nil_toList) (fun e => h e.2.2)), show n.toNat = 0 by omega]; rfl
theorem toks_add (s : ByteArray) : toks ⟨0, s, 0⟩ = s.data.toList.map .A := by
  by_cases h : s.data.toList = []
  · rw [toks_right _ (kind_zero (fun e => absurd e.1 (by omega)) (fun e => e.2.1 (by rw [toList_data]; exact h)) (fun e => absurd e.2.2 (by omega))), h]; rfl
  · have : (⟨0, s, 0⟩ : Rn) = rA s.data.toList := by rw [rA]
    rw [this, toks_rA h]

theorem norm_noth (n : Int) : normR [⟨n, ⟨#[]⟩, 0⟩] = nothR n := by
  rw [normR, expand_one, toks_keep, tIn_K, tOut_K, normT_keep, nothR]
  by_cases h : n < 1 ∨ 16777216 < n
  · rw [if_pos h]
    rcases h with h | h
    · rw [show n.toNat = 0 by omega]; rfl
    · rw [if_neg (by omega)]
  · rw [if_neg h, if_pos ⟨by omega, by omega, by rw [len_flush]; split <;> simp⟩]
    have : n.toNat ≠ 0 := by omega
    simp [flush, this, rK]
    omega

set_option maxRecDepth 20000 in
set_option maxHeartbeats 4000000 in
theorem nothing_any (n : Int) (w : World) : Calls Try.prog 67 #[.int .i64 n] w fun e W' => Gives w.heap.size w (nothR n) e W' := by
  have hN := norm_new w [⟨n, ⟨#[]⟩, 0⟩] 1 (by simp)
  go_enter Try.func67, Try.ntmps67
  go_wp2_with (go_at_call 60; refine hN.mono ?_; rintro e W' ⟨a, c, rfl, hc, hb⟩; rw [norm_noth] at hc ⊢; have HC := hide hc; have HB := hide hb; clear hc hb)
  go_ret
  exact ⟨a, c, rfl, HC.out, HB.out⟩

def insL (n at_ : Int) (s : ByteArray) : List Rn := [⟨at_, ⟨#[]⟩, 0⟩, ⟨0, s, 0⟩, ⟨n - at_, ⟨#[]⟩, 0⟩]
def insE (n at_ : Int) (s : ByteArray) : Int := if n < 0 ∨ 16777216 < n then 2 else if at_ < 0 ∨ n < at_ then 30 else if 16777216 - n < (s.size : Int) then 31 else 0
def insR (n at_ : Int) (s : ByteArray) : List Rn := if insE n at_ s = 0 then normR (insL n at_ s) else []
def delL (n at_ many : Int) : List Rn := [⟨at_, ⟨#[]⟩, 0⟩, ⟨0, ⟨#[]⟩, many⟩, ⟨n - at_ - many, ⟨#[]⟩, 0⟩]
def delE (n at_ many : Int) : Int := if n < 0 ∨ 16777216 < n then 2 else if at_ < 0 ∨ many < 0 ∨ n - at_ < many then 30 else 0
def delR (n at_ many : Int) : List Rn := if delE n at_ many = 0 then normR (delL n at_ many) else []

/-- Runs and an error are told. -/
def Gives2 (n₀ : Nat) (w : World) (rs : List Rn) (x : Int) (e : Ending) (W' : World) : Prop := ∃ a cap, e = .returned (.tuple #[.slice a rs.length cap, .int .i64 x]) ∧ CameR W'.heap.size W' a rs ∧ Below n₀ w W'

theorem gives2_nil {w : World} {rs : List Rn} {x y : Int} (h : rs = []) (hx : y = x) : Gives2 w.heap.size w rs x (.returned (.tuple #[.slice none 0 0, .int .i64 y])) w := by
  subst h; subst hx
  exact ⟨none, 0, rfl, .inl rfl, Below.refl _ _⟩

set_option maxRecDepth 20000 in
set_option maxHeartbeats 4000000 in
theorem insert_any (n at_ : Int) (s : ByteArray) (w : World) : Calls Try.prog 63 #[.int .i64 n, .int .i64 at_, .string s] w fun e W' => Gives2 w.heap.size w (insR n at_ s) (insE n at_ s) e W' := by
  go_enter Try.func63, Try.ntmps63
  by_cases h1 : n < 0
  · have HQ : Hid (insE n at_ s = 2) := hide (by rw [insE, if_pos (.inl h1)])
    go_wp2
    go_ret2
    exact gives2_nil (by rw [insR, HQ.out]; rfl) HQ.out.symm
  by_cases h2 : 16777216 < n
  · have HQ : Hid (insE n at_ s = 2) := hide (by rw [insE, if_pos (.inr h2)])
    go_wp2
    go_ret2
    exact gives2_nil (by rw [insR, HQ.out]; rfl) HQ.out.symm
  have w1 : IntKind.i64.wrap (16777216 - n) = 16777216 - n := by rw [IntKind.wrap_i64]; omega
  by_cases h3 : at_ < 0
  · have HQ : Hid (insE n at_ s = 30) := hide (by rw [insE, if_neg (by omega), if_pos (.inl h3)])
    go_wp2
    go_ret2
    exact gives2_nil (by rw [insR, HQ.out]; rfl) HQ.out.symm
  by_cases h4 : n < at_
  · have HQ : Hid (insE n at_ s = 30) := hide (by rw [insE, if_neg (by omega), if_pos (.inr h4)])
    go_wp2
    go_ret2
    exact gives2_nil (by rw [insR, HQ.out]; rfl) HQ.out.symm
  by_cases h5 : 16777216 - n < (s.size : Int)
  · have HQ : Hid (insE n at_ s = 31) := hide (by rw [insE, if_neg (by omega), if_neg (by omega), if_pos h5])
    go_wp2
    go_ret2
    exact gives2_nil (by rw [insR, HQ.out]; rfl) HQ.out.symm
  have w2 : IntKind.i64.wrap (n - at_) = n - at_ := by rw [IntKind.wrap_i64]; omega
  have HE : Hid (insE n at_ s = 0) := hide (by rw [insE, if_neg (by omega), if_neg (by omega), if_neg h5])
  have HR : Hid (insR n at_ s = normR (insL n at_ s)) := hide (by rw [insR, if_pos HE.out])
  have hN := norm_new w (insL n at_ s) 3 (by simp [insL])
  go_wp2_with (go_at_call 60; refine hN.mono ?_; rintro e W' ⟨a, c, rfl, hc, hb⟩; have HC := hide hc; have HB := hide hb; clear hc hb)
  go_ret2
  rw [HE.out, HR.out]
  exact ⟨a, c, rfl, HC.out, HB.out⟩

set_option maxRecDepth 20000 in
set_option maxHeartbeats 4000000 in
theorem delete_any (n at_ many : Int) (w : World) (ha : at_ ≤ 9223372036854775807) : Calls Try.prog 65 #[.int .i64 n, .int .i64 at_, .int .i64 many] w fun e W' => Gives2 w.heap.size w (delR n at_ many) (delE n at_ many) e W' := by
  go_enter Try.func65, Try.ntmps65
  by_cases h1 : n < 0
  · have HQ : Hid (delE n at_ many = 2) := hide (by rw [delE, if_pos (.inl h1)])
    go_wp2
    go_ret2
    exact gives2_nil (by rw [delR, HQ.out]; rfl) HQ.out.symm
  by_cases h2 : 16777216 < n
  · have HQ : Hid (delE n at_ many = 2) := hide (by rw [delE, if_pos (.inr h2)])
    go_wp2
    go_ret2
    exact gives2_nil (by rw [delR, HQ.out]; rfl) HQ.out.symm
  by_cases h3 : at_ < 0
  · have HQ : Hid (delE n at_ many = 30) := hide (by rw [delE, if_neg (by omega), if_pos (.inl h3)])
    go_wp2
    go_ret2
    exact gives2_nil (by rw [delR, HQ.out]; rfl) HQ.out.symm
  have w1 : IntKind.i64.wrap (n - at_) = n - at_ := by rw [IntKind.wrap_i64]; omega
  by_cases h4 : many < 0
  · have HQ : Hid (delE n at_ many = 30) := hide (by rw [delE, if_neg (by omega), if_pos (.inr (.inl h4))])
    go_wp2
    go_ret2
    exact gives2_nil (by rw [delR, HQ.out]; rfl) HQ.out.symm
  by_cases h5 : n - at_ < many
  · have HQ : Hid (delE n at_ many = 30) := hide (by rw [delE, if_neg (by omega), if_pos (.inr (.inr h5))])
    go_wp2
    go_ret2
    exact gives2_nil (by rw [delR, HQ.out]; rfl) HQ.out.symm
  have w2 : IntKind.i64.wrap (n - at_ - many) = n - at_ - many := by rw [IntKind.wrap_i64]; omega
  have HE : Hid (delE n at_ many = 0) := hide (by rw [delE, if_neg (by omega), if_neg (by omega)])
  have HR : Hid (delR n at_ many = normR (delL n at_ many)) := hide (by rw [delR, if_pos HE.out])
  have hN := norm_new w (delL n at_ many) 3 (by simp [delL])
  go_wp2_with (go_at_call 60; refine hN.mono ?_; rintro e W' ⟨a, c, rfl, hc, hb⟩; have HC := hide hc; have HB := hide hb; clear hc hb)
  go_ret2
  rw [HE.out, HR.out]
  exact ⟨a, c, rfl, HC.out, HB.out⟩

theorem lives_one : insE 2 1 ⟨#[120]⟩ = 0 ∧ insR 2 1 ⟨#[120]⟩ = [⟨1, ⟨#[]⟩, 0⟩, ⟨0, ⟨#[120]⟩, 0⟩, ⟨1, ⟨#[]⟩, 0⟩] := by
  have h0 : insE 2 1 ⟨#[120]⟩ = 0 := by decide
  refine ⟨h0, ?_⟩
  rw [insR, if_pos h0, normR]
  have e : expand (insL 2 1 ⟨#[120]⟩) = [.K, .A 120, .K] := by
    simp [expand, insL, toks_keep, toks_add]
  rw [e]
  rfl
theorem lives_two : normR [⟨0, ⟨#[]⟩, 1⟩, ⟨0, ⟨#[120]⟩, 0⟩, ⟨0, ⟨#[]⟩, 2⟩] = [⟨0, ⟨#[120]⟩, 0⟩, ⟨0, ⟨#[]⟩, 3⟩] := by
  rw [normR]
  have e : expand [⟨0, ⟨#[]⟩, 1⟩, ⟨0, ⟨#[120]⟩, 0⟩, ⟨0, ⟨#[]⟩, 2⟩] = [.D, .A 120, .D, .D] := by
    simp [expand, toks_drop, toks_add, List.replicate]
  rw [e]
  rfl

end Go.Proofs.Ytpmijaplkbmbiaa.E

/- Idle; the examples, walked. -/
namespace Go.Proofs.Ytpmijaplkbmbiaa.E
open Go.Proofs.Ytpmijaplkbmbiaa Go.RowKit Go.By Go.Shelf
set_option linter.unusedVariables false
set_option linter.unusedSimpArgs false

theorem came_up {W W' : World} {a : Option Addr} {rs : List Rn} (h : CameR W.heap.size W a rs) (hb : Below W.heap.size W W') : CameR W'.heap.size W' a rs := by
  rcases h with h | ⟨b, off, e, hl, hc⟩
  · exact .inl h
  · exact .inr ⟨b, off, e, Nat.lt_of_lt_of_le hl hb.size, fun i hi => ⟨(hb.cell (p := ⟨b, _, none⟩) hl).trans (hc i hi).1, (hb.cell (p := ⟨b, _, none⟩) hl).trans (hc i hi).2.1, (hb.cell (p := ⟨b, _, none⟩) hl).trans (hc i hi).2.2⟩⟩

theorem rsame_is (a a' : Option Addr) (cap cap' : Nat) (rs rs' : List Rn) (w : World) (hS : CameR w.heap.size w a rs) (hS' : CameR w.heap.size w a' rs') (hl : rs.length ≤ 1000000) (he : rs = rs') :
    Calls Try.prog 59 #[.slice a rs.length cap, .slice a' rs'.length cap'] w fun e W' => e = .returned (.bool true) ∧ Below w.heap.size w W' :=
  (rsame_any a a' cap cap' rs rs' w hS hS' hl).mono fun e W' ⟨h1, h2⟩ => ⟨by rw [h1, decide_eq_true he], h2⟩

theorem up_new {W : World} {a : Option Addr} {rs : List Rn} (h : CameR W.heap.size W a rs) (o : Obj) : CameR (W.alloc o).heap.size (W.alloc o) a rs := came_up h ((Below.refl _ W).alloc (Nat.le_refl _) o)

set_option maxRecDepth 20000 in
set_option maxHeartbeats 4000000 in
theorem lives_any (w : World) : Calls Try.prog 50 #[] w fun e W' => e = .returned (.bool true) ∧ Below w.heap.size w W' := by
  have hI : Calls Try.prog 63 #[.int .i64 2, .int .i64 1, .string ⟨#[120]⟩] w fun e W' => ∃ a c, e = .returned (.tuple #[.slice a 3 c, .int .i64 0]) ∧ Hid (CameR W'.heap.size W' a [⟨1, ⟨#[]⟩, 0⟩, ⟨0, ⟨#[120]⟩, 0⟩, ⟨1, ⟨#[]⟩, 0⟩]) ∧ Hid (Below w.heap.size w W') :=
    (insert_any 2 1 ⟨#[120]⟩ w).mono fun e W' ⟨a, c, he, hc, hb⟩ => by
      rw [lives_one.1, lives_one.2] at he
      rw [lives_one.2] at hc
      exact ⟨a, c, he, hc, hb⟩
  have hN : ∀ W, Calls Try.prog 60 #[.slice (some ⟨W.heap.size, 0, none⟩) 3 3] (W.alloc (.cells #[.int .i64 0, .string ⟨#[]⟩, .int .i64 1, .int .i64 0, .string ⟨#[120]⟩, .int .i64 0, .int .i64 0, .string ⟨#[]⟩, .int .i64 2] 91)) fun e W' => ∃ a c, e = .returned (.slice a 2 c) ∧ Hid (CameR W'.heap.size W' a [⟨0, ⟨#[120]⟩, 0⟩, ⟨0, ⟨#[]⟩, 3⟩]) ∧ Hid (Below W.heap.size W W') := fun W =>
    (norm_new W [⟨0, ⟨#[]⟩, 1⟩, ⟨0, ⟨#[120]⟩, 0⟩, ⟨0, ⟨#[]⟩, 2⟩] 3 (by simp)).mono fun e W' ⟨a, c, he, hc, hb⟩ => by
      rw [lives_two] at he hc
      exact ⟨a, c, he, hc, hb⟩
  go_enter Try.func50, Try.ntmps50
  go_wp2_with (go_at_call 63; refine hI.mono ?_; rintro e W1 ⟨a, c, rfl, HC, HB⟩)
  go_wp2_with (go_at_call 59; refine (rsame_is a (some ⟨W1.heap.size, 0, none⟩) c 3 _ [⟨1, ⟨#[]⟩, 0⟩, ⟨0, ⟨#[120]⟩, 0⟩, ⟨1, ⟨#[]⟩, 0⟩] _ (up_new HC.out _) (came_new W1 _) (by simp) rfl).mono ?_; rintro e W2 ⟨rfl, hb2⟩; have HB2 := hide hb2; clear hb2)
  go_wp2_with (go_at_call 60; refine (hN W2).mono ?_; rintro e W3 ⟨a3, c3, rfl, HC3, HB3⟩)
  go_wp2_with (go_at_call 59; refine (rsame_is a3 (some ⟨W3.heap.size, 0, none⟩) c3 2 _ [⟨0, ⟨#[120]⟩, 0⟩, ⟨0, ⟨#[]⟩, 3⟩] _ (up_new HC3.out _) (came_new W3 _) (by simp) rfl).mono ?_; rintro e W4 ⟨rfl, hb4⟩; have HB4 := hide hb4; clear hb4)
  go_ret
  refine ⟨rfl, ?_⟩
  have s1 := HB.out.size
  have b1 := HB.out.alloc s1 (.cells (cellsR [⟨1, ⟨#[]⟩, 0⟩, ⟨0, ⟨#[120]⟩, 0⟩, ⟨1, ⟨#[]⟩, 0⟩]).toArray 91)
  have b2 := b1.trans (HB2.out.mono b1.size)
  have b3 := b2.trans (HB3.out.mono b2.size)
  have b4 := b3.alloc b3.size (.cells (cellsR [⟨0, ⟨#[120]⟩, 0⟩, ⟨0, ⟨#[]⟩, 3⟩]).toArray 91)
  exact b4.trans (HB4.out.mono b4.size)

theorem idle_eq {rs : List Rn} (h : isG rs = true) : decide (rs = nothR (mIn (meas rs))) = idleB rs := by
  obtain ⟨j, hm, h1, h2, h3⟩ := good_facts h
  rw [idleB, h, Bool.true_and]
  apply decide_eq_decide.2
  rw [hm]
  show rs = nothR ((tIn (expand rs) : Nat) : Int) ↔ _
  constructor
  · intro e
    by_cases hz : rs.length = 0
    · exact .inl hz
    · right
      unfold nothR at e
      split at e
      · rw [e] at hz; simp at hz
      · rename_i hn
        rw [e]
        refine ⟨rfl, ?_⟩
        exact kind_one (by omega) nil_toList rfl
  · rintro (hz | ⟨hz, hk⟩)
    · obtain rfl := List.eq_nil_of_length_eq_zero hz; rfl
    · match rs, hz with
      | [r], _ =>
        have hk' : kind r = 1 := hk
        rcases kind_cases (r := r) (by omega) with ⟨n, hn, rfl⟩ | ⟨a, ha, rfl⟩ | ⟨n, hn, rfl⟩
        · rw [expand_one, toks_rK hn, tIn_K] at h1 ⊢
          rw [nothR, if_neg (by omega)]; rfl
        · rw [kind_rA ha] at hk'; omega
        · rw [kind_rD hn] at hk'; omega

set_option maxRecDepth 20000 in
set_option maxHeartbeats 4000000 in
theorem idle_any (a : Option Addr) (cap : Nat) (rs : List Rn) (w : World) (hS : CameR w.heap.size w a rs) (hl : rs.length ≤ 1000000) :
    Calls Try.prog 57 #[.slice a rs.length cap] w fun e W' => e = .returned (.bool (idleB rs)) ∧ Below w.heap.size w W' := by
  have hm := measure_eq a cap rs w hS hl
  go_enter Try.func57, Try.ntmps57
  cases hG : isG rs with
  | false =>
    have hG' : (meas rs).isSome = false := hG
    have HQ : Hid (idleB rs = false) := hide (by rw [idleB, hG]; rfl)
    rw [hG'] at hm
    go_wp2_with (go_at_call 99; refine hm.mono ?_; rintro e W1 ⟨rfl, hb⟩; have HB := hide hb; clear hb)
    go_ret
    exact ⟨ret_bool HQ.out.symm, HB.out.alloc HB.out.size _⟩
  | true =>
    have hG' : (meas rs).isSome = true := hG
    have HQ := hide (idle_eq hG)
    rw [hG'] at hm
    have HS := hide hS
    clear hS
    go_wp2_with (go_at_call 99; refine hm.mono ?_; rintro e W1 ⟨rfl, hb⟩; have HB := hide hb; clear hb)
    go_wp2_with (go_at_call 67; refine (nothing_any _ _).mono ?_; rintro e W2 ⟨a2, c2, rfl, hc2, hb2⟩; have HC2 := hide hc2; have HB2 := hide (((HB.out.alloc HB.out.size _).trans (hb2.mono (HB.out.alloc HB.out.size _).size) : Below w.heap.size w W2)); clear hc2 hb2)
    go_wp2_with (go_at_call 62; refine (same_any a a2 cap c2 rs _ _ (came_up HS.out HB2.out) HC2.out hl).mono ?_; rintro e W3 ⟨rfl, hb3⟩; have HB3 := hide hb3; clear hb3)
    go_ret
    exact ⟨ret_bool HQ.out, HB2.out.trans (HB3.out.mono HB2.out.size)⟩

end Go.Proofs.Ytpmijaplkbmbiaa.E

/- The edit of an edit's runs, parted or not. -/
namespace Go.Proofs.Ytpmijaplkbmbiaa.E
open Go.Proofs.Ytpmijaplkbmbiaa Go.RowKit Go.By Go.Shelf
set_option linter.unusedVariables false
set_option linter.unusedSimpArgs false

def part1 (c : Int) (r : Rn) : List Rn :=
  if c < r.keep then [⟨c, ⟨#[]⟩, 0⟩, ⟨r.keep - c, ⟨#[]⟩, 0⟩]
  else if c < r.drop then [⟨0, ⟨#[]⟩, c⟩, ⟨0, ⟨#[]⟩, r.drop - c⟩]
  else if c < (r.add.size : Int) then [⟨0, r.add.extract 0 c.toNat, 0⟩, ⟨0, r.add.extract c.toNat r.add.size, 0⟩]
  else [r]
def partR (c : Int) (rs : List Rn) : List Rn := rs.flatMap (part1 c)

theorem expand_part1 {c : Int} {r : Rn} (hc : 0 ≤ c) (hk : kind r ≠ 0) : expand (part1 c r) = toks r := by
  have two : ∀ x y : Rn, expand [x, y] = toks x ++ toks y := fun x y => by simp [expand]
  unfold part1
  rcases kind_cases hk with ⟨n, hn, rfl⟩ | ⟨a, ha, rfl⟩ | ⟨n, hn, rfl⟩
  · by_cases h : c < (rK n).keep
    · rw [if_pos h, two, toks_keep, toks_keep, toks_rK hn, List.replicate_append_replicate]
      have : (rK n).keep = n := rfl
      rw [this] at h ⊢
      congr 1; omega
    · rw [if_neg h, if_neg (show ¬ c < (rK n).drop from fun h => by have : (rK n).drop = 0 := rfl; omega), if_neg (fun h => by have : (rK n).add.size = 0 := rfl; omega), expand_one]
  · rw [if_neg (show ¬ c < (rA a).keep from fun h => by have : (rA a).keep = 0 := rfl; omega), if_neg (show ¬ c < (rA a).drop from fun h => by have : (rA a).drop = 0 := rfl; omega)]
    by_cases h : c < ((rA a).add.size : Int)
    · rw [if_pos h, two, toks_add, toks_add, toks_rA ha, ← List.map_append]
      have hs : (rA a).add.size = a.length := by simp [rA, ByteArray.size]
      have e1 : ((rA a).add.extract 0 c.toNat).data.toList = a.take c.toNat := by simp [rA]
      have e2 : ((rA a).add.extract c.toNat (rA a).add.size).data.toList = a.drop c.toNat := by
        rw [hs]; simp [rA]
        rw [List.take_of_length_le (by simp)]
      rw [e1, e2, List.take_append_drop]
    · rw [if_neg h, expand_one]
  · rw [if_neg (show ¬ c < (rD n).keep from fun h => by have : (rD n).keep = 0 := rfl; omega)]
    by_cases h : c < (rD n).drop
    · rw [if_pos h, two, toks_drop, toks_drop, toks_rD hn, List.replicate_append_replicate]
      have : (rD n).drop = n := rfl
      rw [this] at h ⊢
      congr 1; omega
    · rw [if_neg h, if_neg (fun h => by have : (rD n).add.size = 0 := rfl; omega), expand_one]

theorem expand_partR {c : Int} (hc : 0 ≤ c) (rs : List Rn) (hk : ∀ x ∈ rs, kind x ≠ 0) : expand (partR c rs) = expand rs := by
  induction rs with
  | nil => rfl
  | cons r rs ih =>
    have e : partR c (r :: rs) = part1 c r ++ partR c rs := by simp [partR]
    rw [e, expand_append, expand_part1 hc (hk r List.mem_cons_self), ih fun x hx => hk x (List.mem_cons_of_mem _ hx)]
    simp [expand]
theorem partR_snoc (c : Int) (rs : List Rn) (x : Rn) : partR c (rs ++ [x]) = partR c rs ++ part1 c x := by simp [partR]

theorem len_part1 (c : Int) (r : Rn) : (part1 c r).length ≤ 2 := by
  unfold part1
  split
  · simp
  split
  · simp
  split <;> simp
theorem len_partR (c : Int) (rs : List Rn) : (partR c rs).length ≤ 2 * rs.length := by
  induction rs with
  | nil => simp [partR]
  | cons r rs ih =>
    have e : partR c (r :: rs) = part1 c r ++ partR c rs := by simp [partR]
    have := len_part1 c r
    rw [e, List.length_append, List.length_cons]; omega

theorem right_normR (rs : List Rn) : ∀ x ∈ normR rs, kind x ≠ 0 := by
  obtain ⟨ts, e, h1, h2, h3⟩ := normR_or rs
  obtain ⟨j, hj⟩ := kscan_normT ts
  rw [e]
  exact kscan_all hj

theorem app_prep {wr : World} {B : Nat} {v : Value} {P : List Rn} (h : OwnR wr B v P) (hB : B ≤ wr.heap.size) (o1 : Obj) (L : List Rn) :
    ((wr.alloc o1).alloc (.cells (cellsR L).toArray 91)).ownsRow B 91 3 v P.length (cellsR P) ∧
    (∀ i u, (cellsR L)[i]? = some u → ((wr.alloc o1).alloc (.cells (cellsR L).toArray 91)).cell? ((⟨wr.heap.size + 1, 0, none⟩ : Addr).add i) = some u) ∧
    B ≤ ((wr.alloc o1).alloc (.cells (cellsR L).toArray 91)).heap.size ∧
    ((wr.alloc o1).alloc (.cells (cellsR L).toArray 91)).heap.size = wr.heap.size + 1 + 1 := by
  refine ⟨(World.ownsRow.alloc (World.ownsRow.alloc h o1) _), fun i u hu => ?_, by simp; omega, by simp⟩
  have hn := World.alloc_heap_new (wr.alloc o1) (.cells (cellsR L).toArray 91)
  rw [World.size_alloc] at hn
  exact World.news_of_block (cs := (cellsR L).toArray) hn i u (by simpa using hu)

theorem only_then {wr Z WA : World} {v : Value} (hz : Only (fun k => v.ownBlock = some k) wr Z) (hg : Z.grownBy WA v.ownBlock) : Only (fun k => v.ownBlock = some k) wr WA :=
  hz.trans (Only.grown hg fun k hk => hk)

theorem app_done {wr WA W5 : World} {B gg c1 : Nat} {v : Value} {P : List Rn} (h : OwnR wr B v P) (hB : B ≤ wr.heap.size) (hb : Below B W5 wr) (L : List Rn)
    (hr : WA.ownsRow B 91 3 (.slice (some ⟨gg, 0, none⟩) (P.length + L.length) c1) (P.length + L.length) (cellsR P ++ cellsR L)) (hg : Only (fun k => v.ownBlock = some k) wr WA) :
    OwnR WA B (.slice (some ⟨gg, 0, none⟩) (P.length + L.length) c1) (P ++ L) ∧ Below B W5 WA := by
  refine ⟨?_, hb.trans (hg.below hB fun k hk => (h.lt hk).1)⟩
  show WA.ownsRow _ _ _ _ _ _
  rw [cellsR_append, List.length_append]; exact hr

theorem oneCellR (L : List Rn) : ∀ u ∈ cellsR L, u.oneCell' = true := by
  intro u hu
  obtain ⟨r, _, hr⟩ := List.mem_flatMap.1 hu
  exact oneCell3 r u hr

theorem mod7 (x : Int) : ∃ c : Nat, c ≤ 6 ∧ IntKind.i64.wrap ((IntKind.u64.wrap x).tmod 7) = (c : Int) := by
  have h0 : 0 ≤ IntKind.u64.wrap x := by rw [IntKind.wrap_u64]; omega
  obtain ⟨m, hm⟩ := Int.eq_ofNat_of_zero_le h0
  refine ⟨m % 7, by omega, ?_⟩
  rw [hm, show ((m : Int)).tmod 7 = ((m % 7 : Nat) : Int) from rfl, IntKind.wrap_i64]
  omega

set_option maxRecDepth 100000 in
set_option maxHeartbeats 8000000 in
theorem norms_any (a : Option Addr) (cap : Nat) (rs : List Rn) (x : Int) (w : World) (hS : CameR w.heap.size w a rs) :
    Calls Try.prog 14 #[.slice a rs.length cap, .int .i64 x] w fun e W' => e = .returned (.bool true) ∧ Below w.heap.size w W' := by
  obtain ⟨i0, hi, hz0, hz1, hz2⟩ := info_parts (show (Try.prog.info? 91).map (fun i => (i.zero, i.size, i.bytes)) = some (some (.agg #[.int .i64 0, .string ⟨#[]⟩, .int .i64 0]), 3, 32) by kernel_rfl)
  obtain ⟨c, hc6, hcw⟩ := mod7 x
  have hL := light_any a cap rs w hS
  have HS := hide hS
  go_enter Try.func14, Try.ntmps14
  by_cases hli : LightR rs
  · have hl : rs.length ≤ 1000000 := by have := hli.1; omega
    rw [decide_eq_true hli] at hL
    have HG : Hid ((meas (normR rs)).isSome = true) := hide (isG_normR rs)
    have HBD := hide (normR_bounds rs)
    have HAG : Hid (normR (normR rs) = normR rs) := hide (normR_again rs (normR rs) rfl)
    clear hS hli
    go_wp2_with (go_at_call 49; refine hL.mono ?_; rintro e W1 ⟨rfl, hb⟩; have HB := hide hb; clear hb)
    go_wp2_with (go_at_call 60; refine (norm_any a cap rs W1 (came_up HS.out HB.out) hl).mono ?_; rintro e W2 ⟨a2, c2, rfl, hc, hb⟩; have HC := hide hc; have HB2 := hide (HB.out.trans (hb.mono HB.out.size)); clear hc hb)
    go_wp2_with (go_at_call 51; refine (good_any a2 c2 _ W2 HC.out (by have := HBD.out; omega)).mono ?_; rintro e W3 ⟨rfl, hb⟩; rw [HG.out]; have HC3 := hide (came_up HC.out hb); have HB3 := hide (HB2.out.trans (hb.mono HB2.out.size)); clear hb)
    go_wp2_with (go_at_call 60; refine (norm_any a2 c2 _ W3 HC3.out (by have := HBD.out; omega)).mono ?_; rintro e W4 ⟨a4, c4, rfl, hc, hb⟩; have HC4 := hide hc; have HCN := hide (came_up HC3.out hb); have HB4 := hide (HB3.out.trans (hb.mono HB3.out.size)); clear hc hb)
    go_wp2_with (go_at_call 59; refine (rsame_is a4 a2 c4 c2 _ _ W4 HC4.out HCN.out (by rw [HAG.out]; have := HBD.out; omega) HAG.out).mono ?_; rintro e W5 ⟨rfl, hb⟩; have HC5 := hide (came_up HCN.out hb); have HB5 := hide (HB4.out.trans (hb.mono HB4.out.size)); clear hb)
    have HRIGHT := hide (right_normR rs)
    have HALL : Hid (∀ rs', expand rs' = expand (normR rs) → normR rs' = normR rs) := hide (normR_again rs)
    have HME := hide (meas_normR rs)
    clear HC HC3 HC4 HCN HG HAG
    generalize normR rs = R at *
    go_loopw [6, 7, 8, 30] (fun u vi vo i wr => ∃ k : Nat, i = .int .i64 (k : Int) ∧ k ≤ R.length ∧ vi = .int .i64 ((tIn (expand (R.take k)) : Nat) : Int) ∧ vo = .int .i64 ((tOut (expand (R.take k)) : Nat) : Int) ∧ Hid (OwnR wr W5.heap.size u (partR c (R.take k)) ∧ Below W5.heap.size W5 wr)) (fun _ _ _ i _ => R.length - (intOf i).toNat)
    case atStart => exact ⟨0, rfl, by omega, rfl, rfl, hide ⟨OwnR.nil _ _, Below.refl _ _⟩⟩
    case round =>
      obtain ⟨k, rfl, hk, rfl, rfl, HI⟩ := hrel
      obtain ⟨ua, un, uc, rfl⟩ := form3 HI.out.1
      by_cases hlt : k < R.length
      · have hlt' : (k : Int) < (R.length : Int) := by omega
        obtain ⟨b, off, rfl, s0, s1, s2⟩ := came_at (HC5.out.below HI.out.2) hlt
        have hsn : R.take (k + 1) = R.take k ++ [R.getD k rn0] := by rw [List.take_succ_eq_append_getElem hlt]; simp [List.getD, hlt]
        have hmem : R.getD k rn0 ∈ R := by simp [List.getD, hlt]
        obtain ⟨y, hy⟩ : ∃ y, y = R.getD k rn0 := ⟨_, rfl⟩
        rw [← hy] at s0 s1 s2 hsn hmem
        obtain ⟨xk, xa, xd⟩ := y
        dsimp only at s0 s1 s2
        have hkx : kind ⟨xk, xa, xd⟩ ≠ 0 := HRIGHT.out _ hmem
        obtain ⟨hxk, hxd, _, _⟩ := kind_facts hkx
        replace hxk : 0 ≤ xk := hxk
        replace hxd : 0 ≤ xd := hxd
        obtain ⟨t1, t2⟩ := size_snoc (pre := R.take k) hkx
        replace t1 : ((tIn (expand (R.take k ++ [⟨xk, xa, xd⟩])) : Nat) : Int) = (tIn (expand (R.take k)) : Int) + (xk + xd) := t1
        replace t2 : ((tOut (expand (R.take k ++ [⟨xk, xa, xd⟩])) : Nat) : Int) = (tOut (expand (R.take k)) : Int) + (xk + (xa.size : Int)) := t2
        rw [← hsn] at t1 t2
        have hle : tIn (expand (R.take (k + 1))) ≤ tIn (expand R) ∧ tOut (expand (R.take (k + 1))) ≤ tOut (expand R) := by
          have := congrArg expand (List.take_append_drop (k + 1) R)
          rw [expand_append] at this
          rw [← this, tIn_append, tOut_append]; omega
        have hbd := HBD.out
        have E1 := hide t1
        have E2 := hide t2
        have EP0 : Hid (partR c (R.take (k + 1)) = partR c (R.take k) ++ part1 c ⟨xk, xa, xd⟩) := hide (by rw [hsn, partR_snoc])
        have HM : Hid ((partR c (R.take k)).length ≤ 1000000) := hide (by have := len_partR c (R.take k); rw [List.length_take] at this; omega)
        have hti : (0 : Int) ≤ (tIn (expand (R.take k)) : Int) := Int.natCast_nonneg _
        have hto : (0 : Int) ≤ (tOut (expand (R.take k)) : Int) := Int.natCast_nonneg _
        generalize ((tIn (expand (R.take k)) : Nat) : Int) = ti at *
        generalize ((tOut (expand (R.take k)) : Nat) : Int) = tq at *
        generalize partR c (R.take k) = P at *
        have w1 : IntKind.i64.wrap (xk + xd) = xk + xd := by rw [IntKind.wrap_i64]; omega
        have w2 : IntKind.i64.wrap (ti + (xk + xd)) = ti + (xk + xd) := by rw [IntKind.wrap_i64]; omega
        have w3 : IntKind.i64.wrap (xk + (xa.size : Int)) = xk + (xa.size : Int) := by rw [IntKind.wrap_i64]; omega
        have w4 : IntKind.i64.wrap (tq + (xk + (xa.size : Int))) = tq + (xk + (xa.size : Int)) := by rw [IntKind.wrap_i64]; omega
        have bx : xk ≤ 16777216 ∧ xd ≤ 16777216 ∧ (xa.size : Int) ≤ 16777216 := by omega
        have HLT := hide hlt
        have w6 : IntKind.i64.wrap ((k : Int) + 1) = (k : Int) + 1 := by rw [IntKind.wrap_i64]; omega
        clear hmem hsn hy t1 t2 hle
        by_cases q1 : (c : Int) < xk
        · have w5 : IntKind.i64.wrap (xk - (c : Int)) = xk - (c : Int) := by rw [IntKind.wrap_i64]; omega
          have EP := hide (EP0.out.trans (by rw [part1, if_pos q1]))
          have HP := hide (app_prep HI.out.1 HI.out.2.size (.cells #[.int .i64 xk, .string xa, .int .i64 xd] 91) [⟨(c : Int), ⟨#[]⟩, 0⟩, ⟨xk - (c : Int), ⟨#[]⟩, 0⟩])
          clear hbd bx
          go_wp2_with (at_builtin; refine wpList_append_lies _ rfl (.tmp 57) (.tmp 65) 77 rfl W5.heap.size 91 i0 (.agg #[.int .i64 0, .string ⟨#[]⟩, .int .i64 0]) 3 32 Try.underlying77 hi hz0 hz1 hz2 rfl (by decide) (.slice ua un uc) P.length (cellsR P) rfl HP.out.1 ⟨wr.heap.size + 1, 0, none⟩ 2 2 (cellsR [⟨(c : Int), ⟨#[]⟩, 0⟩, ⟨xk - (c : Int), ⟨#[]⟩, 0⟩]) rfl rfl HP.out.2.1 (oneCellR _) (by decide) (by have := HM.out; unfold maxLen; omega) (by have := HM.out; omega) HP.out.2.2.1 (wr.heap.size + 1 + 1) HP.out.2.2.2 ?_; intro gg c1 WA hr hgr hat hltA; have HQ := hide (app_done HI.out.1 HI.out.2.size HI.out.2 [⟨(c : Int), ⟨#[]⟩, 0⟩, ⟨xk - (c : Int), ⟨#[]⟩, 0⟩] hr (only_then ((Only.alloc _ _ _).trans (Only.alloc _ _ _)) hgr)); clear hr hgr hat hltA)
          go_roundw
          case rel => exact ⟨k + 1, by go_num, by have := HLT.out; omega, by rw [E1.out], by rw [E2.out], hide (by rw [EP.out]; exact HQ.out)⟩
          case measure => simp [intOf]; have := HLT.out; omega
        by_cases q2 : (c : Int) < xd
        · have w5 : IntKind.i64.wrap (xd - (c : Int)) = xd - (c : Int) := by rw [IntKind.wrap_i64]; omega
          have EP := hide (EP0.out.trans (by rw [part1, if_neg q1, if_pos q2]))
          have HP := hide (app_prep HI.out.1 HI.out.2.size (.cells #[.int .i64 xk, .string xa, .int .i64 xd] 91) [⟨0, ⟨#[]⟩, (c : Int)⟩, ⟨0, ⟨#[]⟩, xd - (c : Int)⟩])
          clear hbd bx
          go_wp2_with (at_builtin; refine wpList_append_lies _ rfl (.tmp 71) (.tmp 79) 77 rfl W5.heap.size 91 i0 (.agg #[.int .i64 0, .string ⟨#[]⟩, .int .i64 0]) 3 32 Try.underlying77 hi hz0 hz1 hz2 rfl (by decide) (.slice ua un uc) P.length (cellsR P) rfl HP.out.1 ⟨wr.heap.size + 1, 0, none⟩ 2 2 (cellsR [⟨0, ⟨#[]⟩, (c : Int)⟩, ⟨0, ⟨#[]⟩, xd - (c : Int)⟩]) rfl rfl HP.out.2.1 (oneCellR _) (by decide) (by have := HM.out; unfold maxLen; omega) (by have := HM.out; omega) HP.out.2.2.1 (wr.heap.size + 1 + 1) HP.out.2.2.2 ?_; intro gg c1 WA hr hgr hat hltA; have HQ := hide (app_done HI.out.1 HI.out.2.size HI.out.2 [⟨0, ⟨#[]⟩, (c : Int)⟩, ⟨0, ⟨#[]⟩, xd - (c : Int)⟩] hr (only_then ((Only.alloc _ _ _).trans (Only.alloc _ _ _)) hgr)); clear hr hgr hat hltA)
          go_roundw
          case rel => exact ⟨k + 1, by go_num, by have := HLT.out; omega, by rw [E1.out], by rw [E2.out], hide (by rw [EP.out]; exact HQ.out)⟩
          case measure => simp [intOf]; have := HLT.out; omega
        by_cases q3 : (c : Int) < (xa.size : Int)
        · have i4 : c ≤ xa.size := by omega
          have i5 : c < xa.size := by omega
          have EP := hide (EP0.out.trans (by rw [part1, if_neg q1, if_neg q2, if_pos q3, Int.toNat_natCast]))
          have HP := hide (app_prep HI.out.1 HI.out.2.size (.cells #[.int .i64 xk, .string xa, .int .i64 xd] 91) [⟨0, xa.extract 0 c, 0⟩, ⟨0, xa.extract c xa.size, 0⟩])
          clear hbd bx
          go_wp2_with fail
          have HM2 : Hid (P.length + 2 ≤ maxLen ∧ (P.length + 2) * 32 ≤ 140737488355328) := hide ⟨by have := HM.out; unfold maxLen; omega, by have := HM.out; omega⟩
          go_region_law (refine step_append_lies _ rfl (.tmp 86) (.tmp 97) 77 rfl W5.heap.size 91 i0 (.agg #[.int .i64 0, .string ⟨#[]⟩, .int .i64 0]) 3 32 Try.underlying77 hi hz0 hz1 hz2 rfl (by decide) (.slice ua un uc) P.length (cellsR P) rfl HP.out.1 ⟨wr.heap.size + 1, 0, none⟩ 2 2 (cellsR [⟨0, xa.extract 0 c, 0⟩, ⟨0, xa.extract c xa.size, 0⟩]) rfl rfl HP.out.2.1 (oneCellR _) (by decide) HM2.out.1 HM2.out.2 HP.out.2.2.1 (wr.heap.size + 1 + 1) HP.out.2.2.2 ?_; intro gg c1 WA hr hgr hat hltA; have HR := hide hr; have HGR := hide hgr; clear hr hgr hat hltA)
          all_goals (go_wp2_with fail)
          all_goals go_roundw
          all_goals first
            | exact ⟨k + 1, by go_num, by have := HLT.out; omega, by rw [E1.out], by rw [E2.out], hide (by rw [EP.out]; exact app_done HI.out.1 HI.out.2.size HI.out.2 [⟨0, xa.extract 0 c, 0⟩, ⟨0, xa.extract c xa.size, 0⟩] HR.out (only_then (by repeat (first | exact Only.refl _ _ | exact Only.alloc _ _ _ | refine Only.trans ?_ (Only.alloc _ _ _) | refine only_drw ?_ | refine only_drwN ?_ _)) HGR.out))⟩
            | (simp [intOf]; have := HLT.out; omega)
        · have EP := hide (EP0.out.trans (by rw [part1, if_neg q1, if_neg q2, if_neg q3]))
          have HP := hide (app_prep HI.out.1 HI.out.2.size (.cells #[.int .i64 xk, .string xa, .int .i64 xd] 91) [⟨xk, xa, xd⟩])
          clear hbd bx
          go_wp2_with (at_builtin; refine wpList_append_lies _ rfl (.tmp 99) (.tmp 101) 77 rfl W5.heap.size 91 i0 (.agg #[.int .i64 0, .string ⟨#[]⟩, .int .i64 0]) 3 32 Try.underlying77 hi hz0 hz1 hz2 rfl (by decide) (.slice ua un uc) P.length (cellsR P) rfl HP.out.1 ⟨wr.heap.size + 1, 0, none⟩ 1 1 (cellsR [⟨xk, xa, xd⟩]) rfl rfl HP.out.2.1 (oneCellR _) (by decide) (by have := HM.out; unfold maxLen; omega) (by have := HM.out; omega) HP.out.2.2.1 (wr.heap.size + 1 + 1) HP.out.2.2.2 ?_; intro gg c1 WA hr hgr hat hltA; have HQ := hide (app_done HI.out.1 HI.out.2.size HI.out.2 [⟨xk, xa, xd⟩] hr (only_then ((Only.alloc _ _ _).trans (Only.alloc _ _ _)) hgr)); clear hr hgr hat hltA)
          go_roundw
          case rel => exact ⟨k + 1, by go_num, by have := HLT.out; omega, by rw [E1.out], by rw [E2.out], hide (by rw [EP.out]; exact HQ.out)⟩
          case measure => simp [intOf]; have := HLT.out; omega
      · obtain rfl : k = R.length := by omega
        rw [List.take_length] at HI
        obtain ⟨_, _, e⟩ := HI.out.1.form
        cases e
        have HLP : Hid ((partR c R).length ≤ 1000000) := hide (by have := len_partR c R; have := HBD.out; omega)
        have HEQ : Hid (normR (partR c R) = R) := hide (HALL.out _ (expand_partR (by omega) R HRIGHT.out))
        have HCW := hide (came_up HC5.out HI.out.2)
        have HBW := hide (HB5.out.trans (HI.out.2.mono HB5.out.size))
        rw [List.take_length]
        obtain ⟨j, hj⟩ := HME.out
        have HIN : Hid (mIn (meas R) = (tIn (expand R) : Int)) := hide (by rw [hj]; rfl)
        have HOUT : Hid (mOut (meas R) = (tOut (expand R) : Int)) := hide (by rw [hj]; rfl)
        clear hj
        have HRL : Hid (R.length ≤ 1000000) := hide (by have := HBD.out; omega)
        go_wp2_with (go_at_call 60; refine (norm_any ua uc (partR c R) wr HI.out.1.came HLP.out).mono ?_; rintro e V1 ⟨a6, c6, rfl, hc, hb⟩; rw [HEQ.out] at hc ⊢; have HC6 := hide hc; have HCR := hide (came_up HCW.out hb); have HV1 := hide (HBW.out.trans (hb.mono HBW.out.size)); clear hc hb)
        go_wp2_with (go_at_call 59; refine (rsame_is a6 a2 c6 c2 _ _ V1 HC6.out HCR.out HRL.out rfl).mono ?_; rintro e V2 ⟨rfl, hb⟩; have HCR2 := hide (came_up HCR.out hb); have HV2 := hide (HV1.out.trans (hb.mono HV1.out.size)); clear hb)
        go_wp2_with (go_at_call 53; refine (in_any a2 c2 R V2 HCR2.out HRL.out).mono ?_; rintro e V3 ⟨rfl, hb⟩; rw [HIN.out]; have HCR3 := hide (came_up HCR2.out hb); have HV3 := hide (HV2.out.trans (hb.mono HV2.out.size)); clear hb)
        go_wp2_with (go_at_call 55; refine (out_any a2 c2 R V3 HCR3.out HRL.out).mono ?_; rintro e V4 ⟨rfl, hb⟩; rw [HOUT.out]; have HV4 := hide (HV3.out.trans (hb.mono HV3.out.size)); clear hb)
        go_wp2_with (go_at_call 50; refine (lives_any V4).mono ?_; rintro e V5 ⟨rfl, hb⟩; have HV5 := hide (HV4.out.trans (hb.mono HV4.out.size)); clear hb)
        go_ret
        exact ⟨rfl, HV5.out⟩
  · rw [decide_eq_false hli] at hL
    clear hS hli
    go_wp2_with (go_at_call 49; refine hL.mono ?_; rintro e W1 ⟨rfl, hb⟩; have HB := hide hb; clear hb)
    go_wp2_with (go_at_call 50; refine (lives_any W1).mono ?_; rintro e W2 ⟨rfl, hb⟩; have HB2 := hide (HB.out.trans (hb.mono HB.out.size)); clear hb)
    go_ret
    exact ⟨rfl, HB2.out⟩

end Go.Proofs.Ytpmijaplkbmbiaa.E
