/- A group of runs: does it change anything? And more of the same. -/
import Derived.Test.YtpmijaplkbmbiaaX2
import Derived.Deep.AppendLies
import Derived.Deep.RegionLaw
/- A group of runs: does it change anything? -/
namespace Go.Proofs.Ytpmijaplkbmbiaa.E
open Go.Proofs.Ytpmijaplkbmbiaa Go.RowKit Go.By Go.Shelf
set_option linter.unusedVariables false

/-- A group, as it lies. -/
def Grp (W : World) (g : Nat) (k : Int) (v : Value) (d : Int) : Prop := W.heap[g]? = some (.cells #[.int .i64 k, v, .int .i64 d] 131 (0, 0))

theorem Grp.cells {W : World} {g : Nat} {k d : Int} {v : Value} (h : Grp W g k v d) : W.cell? ⟨g, 0, none⟩ = some (.int .i64 k) ∧ W.cell? ⟨g, 1, none⟩ = some v ∧ W.cell? ⟨g, 2, none⟩ = some (.int .i64 d) ∧ W.frozen? ⟨g, 0, none⟩ = false ∧ W.frozen? ⟨g, 1, none⟩ = false ∧ W.frozen? ⟨g, 2, none⟩ = false := by
  have h' : W.heap[g]? = some (.cells #[.int .i64 k, v, .int .i64 d] 131 (0, 0)) := h
  refine ⟨?_, ?_, ?_, ?_, ?_, ?_⟩
  · rw [Joins.cell_of_block h']; rfl
  · rw [Joins.cell_of_block h']; rfl
  · rw [Joins.cell_of_block h']; rfl
  · simp [World.frozen?, h']
  · simp [World.frozen?, h']
  · simp [World.frozen?, h']

set_option maxRecDepth 20000 in
set_option maxHeartbeats 4000000 in
theorem changes_any {W : World} {g : Nat} {k d : Int} {a : Option Addr} {n cap : Nat} (h : Grp W g k (.slice a n cap) d) :
    Calls Try.prog 104 #[.pointer (some ⟨g, 0, none⟩)] W fun e W' => e = .returned (.bool (decide (0 < n ∨ 0 < d))) ∧ W' = W := by
  obtain ⟨c0, c1, c2, _, _, _⟩ := h.cells
  clear h
  go_enter Try.func104, Try.ntmps104
  by_cases hn : 0 < n
  · have hn' : (0 : Int) < (n : Int) := by omega
    have HQ : Hid (0 < n ∨ 0 < d) := .inl hn
    go_wp2
    go_ret
    exact ⟨ret_bool (decide_eq_true HQ.out).symm, rfl⟩
  · have hn' : ¬ (0 : Int) < (n : Int) := by omega
    go_wp2
    go_ret
    exact ⟨rfl, rfl⟩

end Go.Proofs.Ytpmijaplkbmbiaa.E

/- A group of runs takes one more. -/
namespace Go.Proofs.Ytpmijaplkbmbiaa.E
open Go.Proofs.Ytpmijaplkbmbiaa Go.RowKit Go.By Go.Shelf
set_option linter.unusedVariables false
set_option linter.unusedSimpArgs false

def addl (a : ByteArray) : List ByteArray := if a.toList = [] then [] else [a]
def strL (A : List ByteArray) : List Value := A.map .string
theorem strL_snoc (A : List ByteArray) (x : ByteArray) : strL (A ++ [x]) = strL A ++ [.string x] := by simp [strL]

/-- What take did. -/
def Took (W : World) (B g : Nat) (k : Int) (v : Value) (d : Int) (A : List ByteArray) (W' : World) : Prop :=
  ∃ a n cap, Grp W' g k (.slice a n cap) d ∧ W'.ownsRow B 9 1 (.slice a n cap) A.length (strL A) ∧ Only (fun i => i = g ∨ some i = v.ownBlock) W W'

theorem Took.drew {W : World} {B g : Nat} {k : Int} {v : Value} {d : Int} {A : List ByteArray} {W' : World} (h : Took W B g k v d A W') : Took W B g k v d A W'.drew := by
  obtain ⟨a, n, cap, h1, h2, h3⟩ := h
  exact ⟨a, n, cap, h1, h2, ⟨h3.os, h3.tape, h3.output, h3.size, h3.block⟩⟩
theorem Took.drewN {W : World} {B g : Nat} {k : Int} {v : Value} {d : Int} {A : List ByteArray} {W' : World} (h : Took W B g k v d A W') (q : Nat) : Took W B g k v d A (W'.drewN q) := by
  obtain ⟨a, n, cap, h1, h2, h3⟩ := h
  exact ⟨a, n, cap, h1, h2, ⟨h3.os, h3.tape, h3.output, h3.size, h3.block⟩⟩

theorem Grp.put0 {X : World} {g : Nat} {k d k' : Int} {v : Value} (h : Grp X g k v d) : Grp (X.setCell ⟨g, 0, none⟩ (.int .i64 k')) g k' v d := by
  have := heap_setCell (i := 0) h (.int .i64 k')
  show _ = _
  simpa using this
theorem Grp.put1 {X : World} {g : Nat} {k d : Int} {v v' : Value} (h : Grp X g k v d) : Grp (X.setCell ⟨g, 1, none⟩ v') g k v' d := by
  have := heap_setCell (i := 1) h v'
  show _ = _
  simpa using this
theorem Grp.put2 {X : World} {g : Nat} {k d d' : Int} {v : Value} (h : Grp X g k v d) : Grp (X.setCell ⟨g, 2, none⟩ (.int .i64 d')) g k v d' := by
  have := heap_setCell (i := 2) h (.int .i64 d')
  show _ = _
  simpa using this

theorem row_set {X : World} {B g i n : Nat} {v u : Value} {l : List Value} {k d : Int} {w : Value} (h : X.ownsRow B 9 1 v n l) (hg : Grp X g k w d) : (X.setCell ⟨g, i, none⟩ u).ownsRow B 9 1 v n l := by
  refine ⟨h.1, h.2.imp id ?_⟩
  rintro ⟨q, cap, cur, hv, hb, hq, r⟩
  refine ⟨q, cap, cur, hv, hb, ?_, r⟩
  rw [heap_setCell_ne _ (fun e => ?_)]
  · exact hq
  · subst e
    rw [show X.heap[q]? = _ from hg] at hq; cases hq

theorem only_drw {S : Nat → Prop} {X Y : World} (h : Only S X Y) : Only S X Y.drew := ⟨h.os, h.tape, h.output, h.size, h.block⟩
theorem only_drwN {S : Nat → Prop} {X Y : World} (h : Only S X Y) (q : Nat) : Only S X (Y.drewN q) := ⟨h.os, h.tape, h.output, h.size, h.block⟩

theorem row_only {X Y : World} {B g n : Nat} {v w : Value} {l : List Value} {k d : Int} (h : X.ownsRow B 9 1 v n l) (ho : Only (fun i => i = g) X Y) (hg : Grp X g k w d) : Y.ownsRow B 9 1 v n l := by
  refine ⟨h.1, h.2.imp id ?_⟩
  rintro ⟨q, cap, cur, hv, hb, hq, r⟩
  refine ⟨q, cap, cur, hv, hb, ?_, r⟩
  rw [ho.block q (lt_of_heap hq) (fun e => ?_)]
  · exact hq
  · subst e
    rw [show X.heap[q]? = _ from hg] at hq; cases hq

theorem row_ne {X : World} {B g n : Nat} {v w : Value} {l : List Value} {k d : Int} (h : X.ownsRow B 9 1 v n l) (hg : Grp X g k w d) : some g ≠ v.ownBlock := by
  intro e
  rcases h.2 with ⟨rfl, _⟩ | ⟨q, cap, cur, rfl, _, hq, _⟩
  · cases e
  · obtain rfl : g = q := by simpa [Value.ownBlock] using e
    rw [show X.heap[g]? = _ from hg] at hq; cases hq

theorem grp_grown {Z WA : World} {row : Option Nat} {g : Nat} {k d : Int} {v : Value} (h : Grp Z g k v d) (hg : Z.grownBy WA row) (hne : some g ≠ row) : Grp WA g k v d :=
  (hg.block g (lt_of_heap (show Z.heap[g]? = _ from h)) hne).trans h
theorem Grp.alloc {Y : World} {g : Nat} {k d : Int} {v : Value} (h : Grp Y g k v d) (o : Obj) : Grp (Y.alloc o) g k v d :=
  (Below.heap_alloc Y o g (lt_of_heap (show Y.heap[g]? = _ from h))).trans h

theorem Took.from {W X : World} {B g : Nat} {k : Int} {v : Value} {d : Int} {A : List ByteArray} {W' : World} (h : Took X B g k v d A W') (ho : Only (fun _ => False) W X) : Took W B g k v d A W' := by
  obtain ⟨a, n, cap, h1, h2, h3⟩ := h
  exact ⟨a, n, cap, h1, h2, (ho.mono fun _ _ h => h.elim).trans h3⟩

theorem only_of {w w' : World} {o : Obj} {row : Option Nat} (h : (w.alloc o).drew.grownBy w' row) : Only (fun i => some i = row) w w' :=
  ((Only.alloc _ w o).trans (only_drw (Only.refl _ _))).trans (Only.grown h fun k hk => hk.symm)

theorem took_put {X wc WA : World} {B g cap n gg cap1 : Nat} {k d : Int} {a : Option Addr} {A : List ByteArray} {xa : ByteArray} (hg : Grp wc g k (.slice a n cap) d) (ho : Only (fun i => i = g) X wc)
    (h : Only (fun i => some i = (Value.slice a n cap).ownBlock) wc WA) (hA : Grp WA g k (.slice a n cap) d) (hr : WA.ownsRow B 9 1 (.slice (some ⟨gg, 0, none⟩) (A.length + 1) cap1) (A.length + 1) (strL A ++ [.string xa])) :
    Took X B g k (.slice a n cap) d (A ++ [xa]) (WA.setCell ⟨g, 1, none⟩ (.slice (some ⟨gg, 0, none⟩) (A.length + 1) cap1)) := by
  refine ⟨_, _, _, hA.put1, ?_, ((ho.mono fun i _ h => .inl h).trans (h.mono fun i _ h => .inr h)).trans (Only.setCell WA ⟨g, 1, none⟩ _ (.inl rfl))⟩
  rw [strL_snoc, List.length_append]
  exact row_set hr hA

set_option maxRecDepth 20000 in
set_option maxHeartbeats 8000000 in
theorem take_any {W : World} {B g : Nat} {k d xk xd : Int} {a : Option Addr} {n cap : Nat} {xa : ByteArray} {A : List ByteArray} (hg : Grp W g k (.slice a n cap) d) (hv : W.ownsRow B 9 1 (.slice a n cap) A.length (strL A))
    (hB : B ≤ W.heap.size) (hk : -100000000 ≤ k + xk ∧ k + xk ≤ 100000000) (hd : -100000000 ≤ d + xd ∧ d + xd ≤ 100000000) (hA : A.length ≤ 1000000) :
    Calls Try.prog 106 #[.pointer (some ⟨g, 0, none⟩), .agg #[.int .i64 xk, .string xa, .int .i64 xd]] W fun e W' => e = .returned (.tuple #[]) ∧ Took W B g (k + xk) (.slice a n cap) (d + xd) (A ++ addl xa) W' := by
  obtain ⟨i0, hi, hz0, hz1, hz2⟩ := info_parts (show (Try.prog.info? 9).map (fun i => (i.zero, i.size, i.bytes)) = some (some (.string ⟨#[]⟩), 1, 16) by kernel_rfl)
  have w1 : IntKind.i64.wrap (k + xk) = k + xk := by rw [IntKind.wrap_i64]; omega
  have w2 : IntKind.i64.wrap (d + xd) = d + xd := by rw [IntKind.wrap_i64]; omega
  have hlt := lt_of_heap hg
  obtain ⟨X, hX⟩ : ∃ X, X = W.alloc (.cells #[.int .i64 xk, .string xa, .int .i64 xd] 91) := ⟨_, rfl⟩
  have HX : Hid (Only (fun _ => False) W X) := by rw [hX]; exact Only.alloc _ _ _
  have hXs : X.heap.size = W.heap.size + 1 := by rw [hX]; simp
  have hgX : Grp X g k (.slice a n cap) d := by rw [hX]; exact (Below.heap_alloc W _ g hlt).trans hg
  have hvX : X.ownsRow B 9 1 (.slice a n cap) A.length (strL A) := by rw [hX]; exact hv.alloc _
  have hbX : X.heap[W.heap.size]? = some (.cells #[.int .i64 xk, .string xa, .int .i64 xd] 91 (0, 0)) := by rw [hX]; exact World.alloc_heap_new W _
  have HVX := hide hvX
  have HGX := hide hgX
  have HBX := hide hbX
  have hbl : ∀ i, (Value.slice a n cap).ownBlock = some i → i < W.heap.size := fun i hi => (ownBlock_lt hv hi).2
  have HBL := hide hbl
  have hgn : ¬ g = W.heap.size := by omega
  have hgn' : ¬ W.heap.size = g := by omega
  have e0 : X.cell? ⟨W.heap.size, 0, none⟩ = some (.int .i64 xk) := by rw [Joins.cell_of_block hbX]; rfl
  obtain ⟨c0, c1, c2, f0, f1, f2⟩ := hgX.cells
  clear hg hv hgX hvX hbX hbl
  go_enter Try.func106, Try.ntmps106
  go_wp2_with fail
  rw [← hX]
  have HXX := hide hX
  clear hX
  go_cut [] from 4 to 35 (fun wc => Hid (Grp wc g (k + xk) (.slice a n cap) d ∧ Only (fun i => i = g) X wc))
  case first =>
    go_region_with (fail)
    all_goals (go_wp2_with fail; go_meet)
    all_goals exact hide ⟨HGX.out.put0, (only_drw (Only.setCell X ⟨g, 0, none⟩ _ rfl))⟩
  case rest =>
    have hbw : wc.heap[W.heap.size]? = some (.cells #[.int .i64 xk, .string xa, .int .i64 xd] 91 (0, 0)) := (hcut.out.2.block W.heap.size (by omega) (by omega)).trans HBX.out
    have r1 : wc.cell? ⟨W.heap.size, 1, none⟩ = some (.string xa) := by rw [Joins.cell_of_block hbw]; rfl
    have r2 : wc.cell? ⟨W.heap.size, 2, none⟩ = some (.int .i64 xd) := by rw [Joins.cell_of_block hbw]; rfl
    have hvC : wc.ownsRow B 9 1 (.slice a n cap) A.length (strL A) := row_only HVX.out hcut.out.2 HGX.out
    have HVC := hide hvC
    have HGC := hide hcut.out.1
    have HOC := hide hcut.out.2
    obtain ⟨c0, c1, c2, f0, f1, f2⟩ := hcut.out.1.cells
    have hsC : X.heap.size ≤ wc.heap.size := hcut.out.2.size
    have HBW := hide hbw
    clear hcut hbw hvC
    by_cases hz : xa.toList = []
    · have hzb : xa.toList.isEmpty = true := by rw [hz]; rfl
      have HEA : Hid (A ++ addl xa = A) := hide (by rw [addl, if_pos hz, List.append_nil])
      go_wp2_with fail
      go_region_with (fail)
      all_goals go_wp2
      all_goals go_end0
      all_goals refine ⟨rfl, ?_⟩
      all_goals rw [HEA.out]
      all_goals exact Took.from (Took.drew ⟨a, n, cap, HGC.out.put2, row_set HVC.out HGC.out, (HOC.out.mono fun i _ h => .inl h).trans (Only.setCell wc ⟨g, 2, none⟩ _ (.inl rfl))⟩) HX.out
    · have hzb : xa.toList.isEmpty = false := by simpa using hz
      have HEA : Hid (A ++ addl xa = A ++ [xa]) := hide (by rw [addl, if_neg hz])
      go_wp2_with fail
      have HGC2 := hide (HGC.out.alloc (.cells #[.string xa] 9))
      obtain ⟨_, d1, _, _, _, _⟩ := HGC2.out.cells
      have HO : Hid ((wc.alloc (.cells #[.string xa] 9)).ownsRow B 9 1 (.slice a n cap) A.length (strL A)) := HVC.out.alloc _
      have HN : Hid (∀ j u, [Value.string xa][j]? = some u → (wc.alloc (.cells #[.string xa] 9)).cell? ((⟨wc.heap.size, 0, none⟩ : Addr).add j) = some u) := World.news_of_block (cs := #[.string xa]) (World.alloc_heap_new wc (.cells #[.string xa] 9))
      have HS : Hid (B ≤ (wc.alloc (.cells #[.string xa] 9)).heap.size) := hide (by simp; omega)
      have HH : Hid ((wc.alloc (.cells #[.string xa] 9)).heap.size = wc.heap.size + 1) := hide (by simp)
      have HM : Hid (A.length + 1 ≤ maxLen ∧ (A.length + 1) * 16 ≤ 140737488355328) := hide ⟨by unfold maxLen; omega, by omega⟩
      have HLT : Hid (g < (wc.alloc (.cells #[.string xa] 9)).heap.size) := lt_of_heap HGC2.out
      have HNE : Hid (some g ≠ (Value.slice a n cap).ownBlock) := row_ne HVC.out HGC.out
      go_cut [] from 4 to 35 (fun wd => Hid (Took X B g (k + xk) (.slice a n cap) d (A ++ [xa]) wd))
      case first =>
        go_region_law (refine step_append_lies _ rfl (.tmp 20) (.tmp 23) 29 rfl B 9 i0 (.string ⟨#[]⟩) 1 16 Try.underlying29 hi hz0 hz1 hz2 rfl (by decide) (.slice a n cap) A.length (strL A) rfl HO.out ⟨wc.heap.size, 0, none⟩ 1 1 [.string xa] rfl rfl HN.out (by simp [Value.oneCell']) (by decide) HM.out.1 HM.out.2 HS.out (wc.heap.size + 1) HH.out ?_; intro gg cap1 WA hr hgr hat hltA; have hgA : Grp WA g (k + xk) (.slice a n cap) d := (hgr.block g HLT.out HNE.out).trans HGC2.out; have hcA := hgA.cells; obtain ⟨q0, q1, q2, z0, z1, z2⟩ := hcA; have HR := hide hr; have HGR := hide hgr; have HGA := hide hgA; clear hr hgr hat hltA hgA)
        all_goals (go_wp2_with fail; go_meet)
        all_goals exact hide (took_put HGC.out HOC.out (only_of HGR.out) HGA.out HR.out)
      case rest =>
        have HT := hide hcut.out
        clear hcut HO HN HS HH HGC2 HLT HNE HVC HGC HOC d1 c0 c1 c2 f0 f1 f2 r1
        obtain ⟨a', n', cap', hg', hr', ho'⟩ := HT.out
        have hbw' : wc.heap[W.heap.size]? = some (.cells #[.int .i64 xk, .string xa, .int .i64 xd] 91 (0, 0)) := (ho'.block W.heap.size (by omega) (fun h => h.elim hgn' fun h => absurd (HBL.out _ h.symm) (Nat.lt_irrefl _))).trans HBX.out
        have r2 : wc.cell? ⟨W.heap.size, 2, none⟩ = some (.int .i64 xd) := by rw [Joins.cell_of_block hbw']; rfl
        obtain ⟨_, _, c2, _, _, f2⟩ := hg'.cells
        have HG' := hide hg'
        have HR' := hide hr'
        have HO' := hide ho'
        clear hg' hr' ho' hbw' HT
        go_wp2_with fail
        go_region_with (fail)
        all_goals go_wp2
        all_goals go_end0
        all_goals refine ⟨rfl, ?_⟩
        all_goals rw [HEA.out]
        all_goals exact Took.from (Took.drew ⟨a', n', cap', HG'.out.put2, row_set HR'.out HG'.out, HO'.out.trans (Only.setCell wc ⟨g, 2, none⟩ _ (.inl rfl))⟩) HX.out

end Go.Proofs.Ytpmijaplkbmbiaa.E
