/- What runs go by in: each where it stands. -/
import Derived.Test.YtecmiphmefbpnaaU2
import Derived.Test.YtecmiphmefbpnaaPA
namespace Go.Proofs.Ytecmiphmefbpnaa.E
open Go.Proofs.Ytecmiphmefbpnaa Go.RowKit Go.By Go.Shelf
set_option linter.unusedVariables false
set_option linter.unusedSimpArgs false

theorem cels3 {W : World} {q t : Nat} {x y z : Value} (h : W.heap[q]? = some (.cells #[x, y, z] t (0, 0))) : W.cell? ⟨q, 0, none⟩ = some x ∧ W.cell? ⟨q, 1, none⟩ = some y ∧ W.cell? ⟨q, 2, none⟩ = some z :=
  ⟨by rw [Joins.cell_of_block h]; rfl, by rw [Joins.cell_of_block h]; rfl, by rw [Joins.cell_of_block h]; rfl⟩
theorem cels5 {W : World} {q t : Nat} {x y z u v : Value} (h : W.heap[q]? = some (.cells #[x, y, z, u, v] t (0, 0))) : W.cell? ⟨q, 0, none⟩ = some x ∧ W.cell? ⟨q, 1, none⟩ = some y ∧ W.cell? ⟨q, 2, none⟩ = some z ∧ W.cell? ⟨q, 3, none⟩ = some u ∧ W.cell? ⟨q, 4, none⟩ = some v :=
  ⟨by rw [Joins.cell_of_block h]; rfl, by rw [Joins.cell_of_block h]; rfl, by rw [Joins.cell_of_block h]; rfl, by rw [Joins.cell_of_block h]; rfl, by rw [Joins.cell_of_block h]; rfl⟩
theorem unfroz {W : World} {q t i : Nat} {cs : Array Value} (h : W.heap[q]? = some (.cells cs t (0, 0))) : W.frozen? ⟨q, i, none⟩ = false := by simp [World.frozen?, h]

theorem set5 {Z V : World} {g t : Nat} {z0 z1 z2 z3 z4 : Value} (h : Z.heap[g]? = some (.cells #[z0, z1, z2, z3, z4] t (0, 0))) (v0 v1 v2 v3 v4 : Value)
    (hV : V = ((((Z.setCell ⟨g, 0, none⟩ v0).setCell ⟨g, 1, none⟩ v1).setCell ⟨g, 2, none⟩ v2).setCell ⟨g, 3, none⟩ v3).setCell ⟨g, 4, none⟩ v4) : V.heap[g]? = some (.cells #[v0, v1, v2, v3, v4] t (0, 0)) ∧ Only (fun k => k = g) Z V := by
  have a0 := heap_setCell (i := 0) h v0
  have a1 := heap_setCell (i := 1) a0 v1
  have a2 := heap_setCell (i := 2) a1 v2
  have a3 := heap_setCell (i := 3) a2 v3
  have a4 := heap_setCell (i := 4) a3 v4
  refine ⟨by rw [hV]; simpa using a4, ?_⟩
  rw [hV]
  have o0 := Only.setCell (S := fun k => k = g) Z ⟨g, 0, none⟩ v0 rfl
  have o1 := Only.setCell (S := fun k => k = g) (Z.setCell ⟨g, 0, none⟩ v0) ⟨g, 1, none⟩ v1 rfl
  have o2 := Only.setCell (S := fun k => k = g) ((Z.setCell ⟨g, 0, none⟩ v0).setCell ⟨g, 1, none⟩ v1) ⟨g, 2, none⟩ v2 rfl
  have o3 := Only.setCell (S := fun k => k = g) (((Z.setCell ⟨g, 0, none⟩ v0).setCell ⟨g, 1, none⟩ v1).setCell ⟨g, 2, none⟩ v2) ⟨g, 3, none⟩ v3 rfl
  have o4 := Only.setCell (S := fun k => k = g) ((((Z.setCell ⟨g, 0, none⟩ v0).setCell ⟨g, 1, none⟩ v1).setCell ⟨g, 2, none⟩ v2).setCell ⟨g, 3, none⟩ v3) ⟨g, 4, none⟩ v4 rfl
  exact (((o0.trans o1).trans o2).trans o3).trans o4

set_option maxRecDepth 20000 in
set_option maxHeartbeats 4000000 in
theorem pass_any {W : World} {p q : Nat} {i o k d : Int} {a : ByteArray} (hp : W.heap[p]? = some (.cells #[.int .i64 i] 3 (0, 0))) (hq : W.heap[q]? = some (.cells #[.int .i64 o] 3 (0, 0))) (hne : ¬ p = q)
    (hk : 0 ≤ k) (hd : 0 ≤ d) (hi : 0 ≤ i ∧ i + (k + d) ≤ 16777216) (ho : 0 ≤ o ∧ o + (k + (a.size : Int)) ≤ 16777216) :
    Calls Try.prog 54 #[.agg #[.int .i64 k, .string a, .int .i64 d], .pointer (some ⟨p, 0, none⟩), .pointer (some ⟨q, 0, none⟩)] W fun e W' => e = .returned (.agg #[.int .i64 k, .string a, .int .i64 d, .int .i64 i, .int .i64 o]) ∧
      W'.heap[p]? = some (.cells #[.int .i64 (i + (k + d))] 3 (0, 0)) ∧ W'.heap[q]? = some (.cells #[.int .i64 (o + (k + (a.size : Int)))] 3 (0, 0)) ∧ Only (fun b => b = p ∨ b = q) W W' := by
  have hs : (0 : Int) ≤ (a.size : Int) := Int.natCast_nonneg _
  have w1 : IntKind.i64.wrap (k + d) = k + d := by rw [IntKind.wrap_i64]; omega
  have w2 : IntKind.i64.wrap (i + (k + d)) = i + (k + d) := by rw [IntKind.wrap_i64]; omega
  have w3 : IntKind.i64.wrap (k + (a.size : Int)) = k + (a.size : Int) := by rw [IntKind.wrap_i64]; omega
  have w4 : IntKind.i64.wrap (o + (k + (a.size : Int))) = o + (k + (a.size : Int)) := by rw [IntKind.wrap_i64]; omega
  have hlp := lt_of_heap hp
  have hlq := lt_of_heap hq
  obtain ⟨X, hX⟩ : ∃ X, X = ((W.alloc (.cells #[.int .i64 k, .string a, .int .i64 d] 51)).alloc (.cells #[.int .i64 0, .string ⟨#[]⟩, .int .i64 0, .int .i64 0, .int .i64 0] 82)).alloc (.cells #[.int .i64 k, .string a, .int .i64 d, .int .i64 i, .int .i64 o] 82) := ⟨_, rfl⟩
  have hB1 : Below W.heap.size W X := by rw [hX]; exact (((Below.refl _ W).alloc (Nat.le_refl _) _).alloc (by simp) _).alloc (by simp; omega) _
  have b1 : X.heap[W.heap.size]? = some (.cells #[.int .i64 k, .string a, .int .i64 d] 51 (0, 0)) := by
    rw [hX]; exact (Below.heap_alloc _ _ _ (by simp; omega)).trans ((Below.heap_alloc _ _ _ (by simp)).trans (World.alloc_heap_new W _))
  have b2 : X.heap[W.heap.size + 1]? = some (.cells #[.int .i64 0, .string ⟨#[]⟩, .int .i64 0, .int .i64 0, .int .i64 0] 82 (0, 0)) := by
    rw [hX]; refine (Below.heap_alloc _ _ _ (by simp)).trans ?_
    have := World.alloc_heap_new (W.alloc (.cells #[.int .i64 k, .string a, .int .i64 d] 51)) (.cells #[.int .i64 0, .string ⟨#[]⟩, .int .i64 0, .int .i64 0, .int .i64 0] 82)
    rwa [World.size_alloc] at this
  have b3 : X.heap[W.heap.size + 1 + 1]? = some (.cells #[.int .i64 k, .string a, .int .i64 d, .int .i64 i, .int .i64 o] 82 (0, 0)) := by
    have := World.alloc_heap_new ((W.alloc (.cells #[.int .i64 k, .string a, .int .i64 d] 51)).alloc (.cells #[.int .i64 0, .string ⟨#[]⟩, .int .i64 0, .int .i64 0, .int .i64 0] 82)) (.cells #[.int .i64 k, .string a, .int .i64 d, .int .i64 i, .int .i64 o] 82)
    rw [World.size_alloc, World.size_alloc] at this; rw [hX]; exact this
  have bp := (hB1.block p hlp).trans hp
  have bq := (hB1.block q hlq).trans hq
  obtain ⟨Y, hY⟩ : ∃ Y, Y = X.setCell ⟨p, 0, none⟩ (.int .i64 (i + (k + d))) := ⟨_, rfl⟩
  have dp : Y.heap[p]? = some (.cells #[.int .i64 (i + (k + d))] 3 (0, 0)) := by rw [hY]; have := heap_setCell (i := 0) bp (.int .i64 (i + (k + d))); simpa using this
  have dn : ∀ j, ¬ j = p → Y.heap[j]? = X.heap[j]? := fun j hj => by rw [hY]; exact heap_setCell_ne _ hj
  have d1 := (dn _ (by omega)).trans b1
  have d2 := (dn _ (by omega)).trans b2
  have d3 := (dn _ (by omega)).trans b3
  have dq := (dn q (fun h => hne h.symm)).trans bq
  obtain ⟨Z, hZ⟩ : ∃ Z, Z = Y.setCell ⟨q, 0, none⟩ (.int .i64 (o + (k + (a.size : Int)))) := ⟨_, rfl⟩
  have eq : Z.heap[q]? = some (.cells #[.int .i64 (o + (k + (a.size : Int)))] 3 (0, 0)) := by rw [hZ]; have := heap_setCell (i := 0) dq (.int .i64 (o + (k + (a.size : Int)))); simpa using this
  have en : ∀ j, ¬ j = q → Z.heap[j]? = Y.heap[j]? := fun j hj => by rw [hZ]; exact heap_setCell_ne _ hj
  have e2 := (en _ (by omega)).trans d2
  have e3 := (en _ (by omega)).trans d3
  have ep := (en p hne).trans dp
  obtain ⟨x0, x1, x2⟩ := cels3 b1
  have xp : X.cell? ⟨p, 0, none⟩ = some (.int .i64 i) := by rw [Joins.cell_of_block bp]; rfl
  have fp : X.frozen? ⟨p, 0, none⟩ = false := unfroz bp
  obtain ⟨y0, y1, y2⟩ := cels3 d1
  have yq : Y.cell? ⟨q, 0, none⟩ = some (.int .i64 o) := by rw [Joins.cell_of_block dq]; rfl
  have fq : Y.frozen? ⟨q, 0, none⟩ = false := unfroz dq
  obtain ⟨z0, z1, z2, z3, z4⟩ := cels5 e3
  have f0 : Z.frozen? ⟨W.heap.size + 1, 0, none⟩ = false := unfroz e2
  have f1 : Z.frozen? ⟨W.heap.size + 1, 1, none⟩ = false := unfroz e2
  have f2 : Z.frozen? ⟨W.heap.size + 1, 2, none⟩ = false := unfroz e2
  have f3 : Z.frozen? ⟨W.heap.size + 1, 3, none⟩ = false := unfroz e2
  have f4 : Z.frozen? ⟨W.heap.size + 1, 4, none⟩ = false := unfroz e2
  have c0 : W.cell? ⟨p, 0, none⟩ = some (.int .i64 i) := by rw [Joins.cell_of_block hp]; rfl
  have c1 : W.cell? ⟨q, 0, none⟩ = some (.int .i64 o) := by rw [Joins.cell_of_block hq]; rfl
  have HB1 := hide hB1
  have HE := hide (And.intro ep (And.intro eq e2))
  have HO : Hid (Only (fun b => b = p ∨ b = q) W Z) := hide (by
    have o1 : Only (fun b => b = p ∨ b = q) W X := by rw [hX]; exact ((Only.alloc _ _ _).trans (Only.alloc _ _ _)).trans (Only.alloc _ _ _)
    have o2 : Only (fun b => b = p ∨ b = q) X Y := by rw [hY]; exact Only.setCell X _ _ (.inl rfl)
    have o3 : Only (fun b => b = p ∨ b = q) Y Z := by rw [hZ]; exact Only.setCell Y _ _ (.inr rfl)
    exact (o1.trans o2).trans o3)
  clear hp hq bp bq b1 b2 b3 d1 d2 d3 dp dq en dn eq e2 e3 ep hB1
  subst hZ
  subst hY
  subst hX
  go_enter Try.func54, Try.ntmps54
  go_wp2
  obtain ⟨ep, eq, e2⟩ := HE.out
  obtain ⟨v2, o2⟩ := set5 e2 (.int .i64 k) (.string a) (.int .i64 d) (.int .i64 i) (.int .i64 o) rfl
  have HB2 : Hid (¬ p = W.heap.size + 1 ∧ ¬ q = W.heap.size + 1) := hide ⟨by omega, by omega⟩
  have HO2 := HO.out
  clear HE HO HB1
  clear c0 c1 x0 x1 x2 xp fp y0 y1 y2 yq fq z0 z1 z2 z3 z4 f0 f1 f2 f3 f4
  generalize hV : ((((World.setCell _ ⟨W.heap.size + 1, 0, none⟩ _).setCell ⟨W.heap.size + 1, 1, none⟩ _).setCell ⟨W.heap.size + 1, 2, none⟩ _).setCell ⟨W.heap.size + 1, 3, none⟩ _).setCell ⟨W.heap.size + 1, 4, none⟩ _ = V at v2 o2 ⊢
  obtain ⟨q0, q1, q2, q3, q4⟩ := cels5 v2
  refine bodyPost_ret (results_cell_row rfl _ _ (W.heap.size + 1) 82 _ (0, 0) _ rfl v2 Try.underlying82 rfl (by kernel_rfl)) rfl ?_
  refine ⟨rfl, (o2.block p (by have := HO2.size; omega) HB2.out.1).trans ep, (o2.block q (by have := HO2.size; omega) HB2.out.2).trans eq, ?_⟩
  exact HO2.then o2 fun i hi h => absurd hi (by omega)

end Go.Proofs.Ytecmiphmefbpnaa.E
