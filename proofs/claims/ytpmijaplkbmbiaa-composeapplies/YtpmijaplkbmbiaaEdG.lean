/- The runs of a group, behind others: walked. -/
import Derived.Test.YtpmijaplkbmbiaaEdF
namespace Go.Proofs.Ytpmijaplkbmbiaa.E
open Go.Proofs.Ytpmijaplkbmbiaa Go.RowKit Go.By Go.Shelf
set_option linter.unusedVariables false
set_option linter.unusedSimpArgs false

theorem heap_build {W : World} (o : Obj) : (W.alloc o).heap[W.heap.size]? = some o := World.alloc_heap_new W o

theorem oneCell3 (x : Rn) : ∀ u ∈ cells1 x, u.oneCell' = true := by
  intro u hu
  simp [cells1] at hu
  rcases hu with rfl | rfl | rfl <;> rfl

theorem add_prep {W wr : World} {B H j : Nat} {vo v : Value} {rs L : List Rn} (h : BI W B H vo rs L j v wr) (x : Rn) (hB : B ≤ W.heap.size) :
    ((wr.alloc (.cells (cells1 x).toArray 91)).alloc (.cells (cells1 x).toArray 91)).ownsRow B 91 3 v (rs ++ (L.take j).filter nzR).length (cellsR (rs ++ (L.take j).filter nzR)) ∧
    (∀ i u, (cells1 x)[i]? = some u → ((wr.alloc (.cells (cells1 x).toArray 91)).alloc (.cells (cells1 x).toArray 91)).cell? ((⟨wr.heap.size + 1, 0, none⟩ : Addr).add i) = some u) ∧
    B ≤ ((wr.alloc (.cells (cells1 x).toArray 91)).alloc (.cells (cells1 x).toArray 91)).heap.size ∧
    ((wr.alloc (.cells (cells1 x).toArray 91)).alloc (.cells (cells1 x).toArray 91)).heap.size = wr.heap.size + 1 + 1 ∧
    Only (fun _ => False) wr ((wr.alloc (.cells (cells1 x).toArray 91)).alloc (.cells (cells1 x).toArray 91)) := by
  have hs := h.only.size
  refine ⟨?_, ?_, by simp; omega, by simp, (Only.alloc _ _ _).trans (Only.alloc _ _ _)⟩
  · refine h.row.kept fun q hq => ?_
    have := (h.row.lt hq).2
    rw [Below.heap_alloc _ _ q (by simp; omega), Below.heap_alloc _ _ q this]
  · have hn := World.alloc_heap_new (wr.alloc (.cells (cells1 x).toArray 91)) (.cells (cells1 x).toArray 91)
    rw [World.size_alloc] at hn
    exact World.news_of_block (cs := (cells1 x).toArray) hn

theorem form3 {W : World} {B : Nat} {v : Value} {rs : List Rn} (h : OwnR W B v rs) : ∃ a m c, v = .slice a m c := by
  obtain ⟨a, c, e⟩ := h.form
  exact ⟨a, _, c, e⟩

set_option maxRecDepth 20000 in
set_option maxHeartbeats 8000000 in
theorem behind_any {W : World} {B B' g k d n cap : Nat} {a : Option Addr} {vo : Value} {A : List ByteArray} {rs : List Rn} (hg : Grp W g (k : Int) (.slice a n cap) (d : Int)) (hv : W.ownsRow B' 9 1 (.slice a n cap) A.length (strL A))
    (ho : OwnR W B vo rs) (hB : B ≤ W.heap.size) (hA : A.length ≤ 1000000) (ht : tot A ≤ 100000000) (hrs : rs.length ≤ 100000000) :
    Calls Try.prog 105 #[.pointer (some ⟨g, 0, none⟩), vo] W fun e W' => ∃ v', e = .returned v' ∧ OwnR W' B v' (rs ++ flush k (text A) d) ∧ Only (fun i => some i = vo.ownBlock) W W' ∧ (v'.ownBlock = vo.ownBlock ∨ ∃ q, v'.ownBlock = some q ∧ W.heap.size ≤ q) := by
  obtain ⟨i0, hi, hz0, hz1, hz2⟩ := info_parts (show (Try.prog.info? 91).map (fun i => (i.zero, i.size, i.bytes)) = some (some (.agg #[.int .i64 0, .string ⟨#[]⟩, .int .i64 0]), 3, 32) by kernel_rfl)
  obtain ⟨c0, c1, c2, _, _, _⟩ := hg.cells
  have hlt := lt_of_heap hg
  have hn : n = A.length ∧ A.length ≤ cap ∧ CameS W.heap.size W a A := by
    rcases hv.2 with ⟨e, h0⟩ | ⟨q, c, cur, e, hb, hq, h1, h2, h3, h4⟩
    · cases e; exact ⟨h0.symm, by omega, .inl (List.eq_nil_of_length_eq_zero h0)⟩
    · cases e
      refine ⟨rfl, h1, .inr ⟨q, 0, rfl, lt_of_heap hq, fun i x hx => ?_⟩⟩
      have e : (strL A)[i]? = some (.string x) := by simp [strL, hx]
      rw [← h4, List.getElem?_take] at e
      split at e
      · rw [Joins.cell_of_block hq, Nat.zero_add]; simpa using e
      · cases e
  obtain ⟨rfl, hcap, hS⟩ := hn
  have hJ : ∀ Z, Below W.heap.size W Z → Calls Try.prog 134 #[.slice a A.length cap, .string ⟨#[]⟩] Z fun e w' => e = .returned (.string ⟨(text A).toArray⟩) ∧ Below W.heap.size W w' := fun Z hZ =>
    (join_any a cap A Z (cameS_below hS hZ) hA hcap ht).mono fun e w' ⟨he, hb⟩ => ⟨he, hZ.trans (hb.mono hZ.size)⟩
  have HJ := hide hJ
  have HO := hide ho
  have HG := hide hg
  clear hJ ho hg hv hS
  go_enter Try.func105, Try.ntmps105
  go_wp2_with fail
  go_cut [23, 24, 25] from 5 to 37 (fun u x y wc => ∃ H, u = .slice (some ⟨H, 0, none⟩) 3 3 ∧ x = .int .i64 3 ∧ y = .int .i64 0 ∧ Hid (BI W B H vo rs [rK k, rA (text A), rD d] 0 vo wc))
  case first =>
    go_region_with ((go_at_call 134; refine (HJ.out _ (by first | exact Below.refl _ _ | exact below_drew1 (Below.refl _ _) | exact below_drewN (Below.refl _ _) _)).mono ?_; rintro e w1 ⟨rfl, hb⟩; have e0 := (hb.cell (p := ⟨g, 0, none⟩) hlt).trans c0; have e1 := (hb.cell (p := ⟨g, 1, none⟩) hlt).trans c1; have e2 := (hb.cell (p := ⟨g, 2, none⟩) hlt).trans c2; have HB := hide hb; clear hb))
    all_goals (go_wp2_with fail; go_meet)
    all_goals exact ⟨_, rfl, rfl, rfl, hide (bi_start [rK k, rA (text A), rD d] HB.out HO.out)⟩
  case rest =>
    obtain ⟨H, rfl, rfl, rfl, HI⟩ := hcut
    clear c0 c1 c2
    have HW : Hid (rs ++ flush k (text A) d = rs ++ ([rK k, rA (text A), rD d].take 3).filter nzR) := hide (by rw [← flush_filter]; rfl)
    have HL : Hid (∀ j (R : List Rn), R = rs ++ (([rK k, rA (text A), rD d] : List Rn).take j).filter nzR → R.length ≤ 100000003) := hide (fun j R hR => by
      have h1 := List.length_filter_le nzR (([rK k, rA (text A), rD d] : List Rn).take j)
      have h2 : (([rK k, rA (text A), rD d] : List Rn).take j).length ≤ 3 := by simp; omega
      rw [hR, List.length_append]; omega)
    go_wp2_with fail
    go_loopw [1, 25] (fun u i wr => ∃ j : Nat, i = .int .i64 (j : Int) ∧ j ≤ 3 ∧ Hid (BI W B H vo rs [rK k, rA (text A), rD d] j u wr)) (fun _ i _ => 3 - (intOf i).toNat)
    case atStart => exact ⟨0, rfl, by omega, HI⟩
    case round =>
      obtain ⟨j, rfl, hj, HJ2⟩ := hrel
      obtain ⟨ua, un, uc, rfl⟩ := form3 HJ2.out.row
      have hl := HJ2.out.lit
      obtain rfl | rfl | rfl | rfl : j = 0 ∨ j = 1 ∨ j = 2 ∨ j = 3 := by omega
      · have q0 : wr.cell? ⟨H, 0, none⟩ = some (.int .i64 (k : Int)) := by rw [Joins.cell_of_block hl]; rfl
        have q1 : wr.cell? ⟨H, 1, none⟩ = some (.string ⟨#[]⟩) := by rw [Joins.cell_of_block hl]; rfl
        have q2 : wr.cell? ⟨H, 2, none⟩ = some (.int .i64 0) := by rw [Joins.cell_of_block hl]; rfl
        clear hl
        by_cases hz : k = 0
        · have hz' : ((k : Int) == 0) = true := by simp [hz]
          have HZ : Hid (nzR (rK k) = false) := hide (by simp [nzR, rK, rA, rD, hz, toList_data])
          go_wp2
          exact ⟨⟨1, rfl, by omega, hide (HJ2.out.skip (x := rK k) rfl HZ.out _)⟩, by simp [intOf]⟩
        · have hz' : ((k : Int) == 0) = false := by simp [hz]
          have HNZ : Hid (nzR (rK k) = true) := hide (by simp [nzR, rK, rA, rD, hz, toList_data])
          have HP := hide (add_prep HJ2.out (rK k) hB)
          have HM := hide (HL.out 0 _ rfl)
          go_wp2_with (at_builtin; refine wpList_append_lies _ rfl (.tmp 32) (.tmp 34) 77 rfl B 91 i0 (.agg #[.int .i64 0, .string ⟨#[]⟩, .int .i64 0]) 3 32 Try.underlying77 hi hz0 hz1 hz2 rfl (by decide) (.slice ua un uc) (rs ++ (([rK k, rA (text A), rD d] : List Rn).take 0).filter nzR).length (cellsR (rs ++ (([rK k, rA (text A), rD d] : List Rn).take 0).filter nzR)) rfl HP.out.1 ⟨wr.heap.size + 1, 0, none⟩ 1 1 (cells1 (rK k)) rfl rfl HP.out.2.1 (oneCell3 _) (by decide) (by have := HM.out; unfold maxLen; omega) (by have := HM.out; omega) HP.out.2.2.1 (wr.heap.size + 1 + 1) HP.out.2.2.2.1 ?_; intro gg c1 WA hr hgr hat hltA; have HQ := hide (HJ2.out.add (x := rK k) rfl HNZ.out HP.out.2.2.2.2 hr hgr (hat.imp id fun h => h.trans HP.out.2.2.2.1.symm)); clear hr hgr hat hltA)
          exact ⟨⟨1, rfl, by omega, hide (by have h := HQ.out; simpa using h)⟩, by simp [intOf]⟩
      · have q0 : wr.cell? ⟨H, 3, none⟩ = some (.int .i64 0) := by rw [Joins.cell_of_block hl]; rfl
        have q1 : wr.cell? ⟨H, 4, none⟩ = some (.string ⟨(text A).toArray⟩) := by rw [Joins.cell_of_block hl]; rfl
        have q2 : wr.cell? ⟨H, 5, none⟩ = some (.int .i64 0) := by rw [Joins.cell_of_block hl]; rfl
        clear hl
        by_cases hz : text A = []
        · have hz' : (⟨(text A).toArray⟩ : ByteArray).toList.isEmpty = true := by rw [toList_data]; simp [hz]
          have hz2' : (⟨(text A).toArray⟩ : ByteArray).toList = [] := by rw [toList_data]; simp [hz]
          have HZ : Hid (nzR (rA (text A)) = false) := hide (by simp [nzR, rK, rA, rD, hz, toList_data])
          go_wp2
          exact ⟨⟨2, rfl, by omega, hide (HJ2.out.skip (x := rA (text A)) rfl HZ.out _)⟩, by simp [intOf]⟩
        · have hz' : (⟨(text A).toArray⟩ : ByteArray).toList.isEmpty = false := by rw [toList_data]; simpa using hz
          have hz2' : ¬ (⟨(text A).toArray⟩ : ByteArray).toList = [] := by rw [toList_data]; simpa using hz
          have HNZ : Hid (nzR (rA (text A)) = true) := hide (by simp [nzR, rK, rA, rD, hz, toList_data])
          have HP := hide (add_prep HJ2.out (rA (text A)) hB)
          have HM := hide (HL.out 1 _ rfl)
          go_wp2_with (at_builtin; refine wpList_append_lies _ rfl (.tmp 32) (.tmp 34) 77 rfl B 91 i0 (.agg #[.int .i64 0, .string ⟨#[]⟩, .int .i64 0]) 3 32 Try.underlying77 hi hz0 hz1 hz2 rfl (by decide) (.slice ua un uc) (rs ++ (([rK k, rA (text A), rD d] : List Rn).take 1).filter nzR).length (cellsR (rs ++ (([rK k, rA (text A), rD d] : List Rn).take 1).filter nzR)) rfl HP.out.1 ⟨wr.heap.size + 1, 0, none⟩ 1 1 (cells1 (rA (text A))) rfl rfl HP.out.2.1 (oneCell3 _) (by decide) (by have := HM.out; unfold maxLen; omega) (by have := HM.out; omega) HP.out.2.2.1 (wr.heap.size + 1 + 1) HP.out.2.2.2.1 ?_; intro gg c1 WA hr hgr hat hltA; have HQ := hide (HJ2.out.add (x := rA (text A)) rfl HNZ.out HP.out.2.2.2.2 hr hgr (hat.imp id fun h => h.trans HP.out.2.2.2.1.symm)); clear hr hgr hat hltA)
          exact ⟨⟨2, rfl, by omega, hide (by have h := HQ.out; simpa using h)⟩, by simp [intOf]⟩
      · have q0 : wr.cell? ⟨H, 6, none⟩ = some (.int .i64 0) := by rw [Joins.cell_of_block hl]; rfl
        have q1 : wr.cell? ⟨H, 7, none⟩ = some (.string ⟨#[]⟩) := by rw [Joins.cell_of_block hl]; rfl
        have q2 : wr.cell? ⟨H, 8, none⟩ = some (.int .i64 (d : Int)) := by rw [Joins.cell_of_block hl]; rfl
        clear hl
        by_cases hz : d = 0
        · have hz' : ((d : Int) == 0) = true := by simp [hz]
          have HZ : Hid (nzR (rD d) = false) := hide (by simp [nzR, rK, rA, rD, hz, toList_data])
          go_wp2
          exact ⟨⟨3, rfl, by omega, hide (HJ2.out.skip (x := rD d) rfl HZ.out _)⟩, by simp [intOf]⟩
        · have hz' : ((d : Int) == 0) = false := by simp [hz]
          have HNZ : Hid (nzR (rD d) = true) := hide (by simp [nzR, rK, rA, rD, hz, toList_data])
          have HP := hide (add_prep HJ2.out (rD d) hB)
          have HM := hide (HL.out 2 _ rfl)
          go_wp2_with (at_builtin; refine wpList_append_lies _ rfl (.tmp 32) (.tmp 34) 77 rfl B 91 i0 (.agg #[.int .i64 0, .string ⟨#[]⟩, .int .i64 0]) 3 32 Try.underlying77 hi hz0 hz1 hz2 rfl (by decide) (.slice ua un uc) (rs ++ (([rK k, rA (text A), rD d] : List Rn).take 2).filter nzR).length (cellsR (rs ++ (([rK k, rA (text A), rD d] : List Rn).take 2).filter nzR)) rfl HP.out.1 ⟨wr.heap.size + 1, 0, none⟩ 1 1 (cells1 (rD d)) rfl rfl HP.out.2.1 (oneCell3 _) (by decide) (by have := HM.out; unfold maxLen; omega) (by have := HM.out; omega) HP.out.2.2.1 (wr.heap.size + 1 + 1) HP.out.2.2.2.1 ?_; intro gg c1 WA hr hgr hat hltA; have HQ := hide (HJ2.out.add (x := rD d) rfl HNZ.out HP.out.2.2.2.2 hr hgr (hat.imp id fun h => h.trans HP.out.2.2.2.1.symm)); clear hr hgr hat hltA)
          exact ⟨⟨3, rfl, by omega, hide (by have h := HQ.out; simpa using h)⟩, by simp [intOf]⟩
      · clear hl
        go_wp2
        go_ret
        refine ⟨_, rfl, ?_, HJ2.out.only, HJ2.out.own⟩
        rw [HW.out]
        exact HJ2.out.row

end Go.Proofs.Ytpmijaplkbmbiaa.E
