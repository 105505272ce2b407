/- journal: what is taken out; a new one; lists of texts held against each other. -/
import Derived.Test.YtolidhjffminkaaJD
namespace Go.Proofs.Ytolidhjffminkaa.J
open Go.Proofs.Ytolidhjffminkaa Go.RowKit Go.By
set_option linter.unusedVariables false
set_option linter.unusedSimpArgs false
attribute [local go_sem ↓] Go.wp_at_zero Go.wp_at_succ

theorem pair_cells {W : World} {j : Nat} {x y : Value} (h : W.heap[j]? = some (.cells #[x, y] 51 (0, 0))) : W.cell? ⟨j, 0, none⟩ = some x ∧ W.cell? ⟨j, 1, none⟩ = some y :=
  ⟨by rw [Joins.cell_of_block h]; rfl, by rw [Joins.cell_of_block h]; rfl⟩
theorem JIs.rebase {w : World} {B j g most : Nat} {r : Option Nat} {base : Nat} {xs : List Value} (h : JIs w B j g most r base xs) (b2 : Nat) : JIs (w.setCell ⟨j, 1, none⟩ (.int .i64 (b2 : Int))) B j g most r b2 xs := by
  have h1 := Joins.block_setCell (i := 1) h.2.1 (.int .i64 (b2 : Int))
  refine ⟨h.1, h1, h.2.2.same (Below.heap_setCell w _ _ g fun e => h.apart.1 e.symm) fun k hk => Below.heap_setCell w _ _ k fun e => h.apart.2 ?_⟩
  have : k = j := e
  rw [← this, hk]
theorem TurnJ.rebase {j g : Nat} {r r' : Option Nat} {w w' : World} (h : TurnJ j g r r' w w') (v : Value) : TurnJ j g r r' w (w'.setCell ⟨j, 1, none⟩ v) :=
  ⟨h.1.then (Only.setCell (S := fun k => k = j) w' ⟨j, 1, none⟩ v rfl) fun i _ hi => .inl hi, h.2⟩

set_option maxHeartbeats 1000000 in
theorem trim_some {w : World} {B j g most : Nat} {r : Option Nat} {base : Nat} {xs : List Value} (k : Nat) (h : JIs w B j g most r base xs) (hb : base ≤ 1000000) (hk1 : 1 ≤ k) (hk2 : k ≤ xs.length) :
    Calls Try.prog 8 #[.pointer (some ⟨j, 0, none⟩), .int .i64 ((base + k : Nat) : Int)] w fun e W' => e = .returned (.int .i64 (k : Int)) ∧ JIs W' B j g most r (base + k) (xs.drop k) ∧ TurnJ j g r r w W' := by
  have hlm : xs.length ≤ 65536 := by obtain ⟨_, _, _, _, _, _, _, _, _, _, _, h2, h3⟩ := h.2.2; omega
  have HB := hide (base_j h)
  have HH := hide (head_j h hb)
  have HSK0 := hide (fun q => skip_some_str B g most r xs (k : Int) k ((w.drewN q).drew) h.2.2 hk1 (by rw [if_pos (by omega)]))
  have HJ0 := hide h
  have n1 : ¬ ((base + k : Nat) : Int) ≤ (base : Int) := by omega
  have n2 : ¬ ((base + xs.length : Nat) : Int) < ((base + k : Nat) : Int) := by omega
  have n3 : IntKind.i64.wrap (((base + k : Nat) : Int) - (base : Int)) = (k : Int) := by rw [IntKind.wrap_i64]; omega
  have n4 : IntKind.i64.wrap ((base : Int) + (k : Int)) = ((base + k : Nat) : Int) := by rw [IntKind.wrap_i64]; omega
  have n5 : wrap64 ((base : Int) + (k : Int)) = ((base + k : Nat) : Int) := by unfold wrap64; omega
  generalize base + xs.length = hd at *
  generalize hR : base + k = R at *
  have HR := hide hR
  have HN4 := hide n5
  clear h hb hlm hR n4 n5
  go_enter Try.func8, Try.ntmps8
  go_wp2_with (first
    | (go_at_call 12; refine HB.out.mono ?_; rintro e W1 ⟨rfl, hw⟩; subst hw; clear HB)
    | (go_at_call 13; refine HH.out.mono ?_; rintro e W2 ⟨rfl, q, rfl⟩; have HSK := hide (HSK0.out q); have HJ := hide (HJ0.out.drewN (q + 1)); have HSW := hide HJ.out.2.1; clear HH HSK0))
  refine heldS_startP (S := fun W => W.heap[j]? = some (.cells #[.pointer (some ⟨g, 0, none⟩), .int .i64 (base : Int)] 51 (0, 0))) (by kernel_rfl) ?_
  refine heldS_take (i := 0) (oi := { dst := some 16, op := Op.move (Operand.tmp 0), type := 24, pos := _, after := _, guard := none }) (v := _) rfl (by kernel_rfl) (by kernel_rfl) (by kernel_rfl) (fun _ _ _ h => h) (by rfl) (by intro w' hSw; go_simp; try with_reducible rfl) HSW.out ?_
  simp only [Act.put, List.setIfInBounds_toArray, List.set_cons_zero, List.set_cons_succ]
  refine heldS_take (i := 1) (oi := { dst := some 17, op := Op.nilCheck (Operand.tmp 16), type := 0, pos := _, after := _, guard := none }) (v := _) rfl (by kernel_rfl) (by kernel_rfl) (by kernel_rfl) (fun _ _ _ h => h) (by rfl) (by intro w' hSw; go_simp; try with_reducible rfl) HSW.out ?_
  simp only [Act.put, List.setIfInBounds_toArray, List.set_cons_zero, List.set_cons_succ]
  refine heldS_take (i := 2) (oi := { dst := some 18, op := Op.fieldAddr 51 (Operand.tmp 17) 0, type := 0, pos := _, after := _, guard := none }) (v := _) rfl (by kernel_rfl) (by kernel_rfl) (by kernel_rfl) (fun _ _ _ h => h) (by rfl) (by intro w' hSw; go_simp; try with_reducible rfl) HSW.out ?_
  simp only [Act.put, List.setIfInBounds_toArray, List.set_cons_zero, List.set_cons_succ]
  refine heldS_take (i := 3) (oi := { dst := some 19, op := Op.load 49 (Operand.tmp 18), type := 49, pos := _, after := _, guard := none }) (v := _) rfl (by kernel_rfl) (by kernel_rfl) (by kernel_rfl) (fun _ _ _ h => h) (by rfl) (by intro w' hSw; have c0 := (pair_cells hSw).1; go_simp; try with_reducible rfl) HSW.out ?_
  simp only [Act.put, List.setIfInBounds_toArray, List.set_cons_zero, List.set_cons_succ]
  refine heldS_take (i := 4) (oi := { dst := some 20, op := Op.move (Operand.tmp 1), type := 3, pos := _, after := _, guard := none }) (v := _) rfl (by kernel_rfl) (by kernel_rfl) (by kernel_rfl) (fun _ _ _ h => h) (by rfl) (by intro w' hSw; go_simp; try with_reducible rfl) HSW.out ?_
  simp only [Act.put, List.setIfInBounds_toArray, List.set_cons_zero, List.set_cons_succ]
  refine heldS_take (i := 5) (oi := { dst := some 21, op := Op.move (Operand.tmp 0), type := 24, pos := _, after := _, guard := none }) (v := _) rfl (by kernel_rfl) (by kernel_rfl) (by kernel_rfl) (fun _ _ _ h => h) (by rfl) (by intro w' hSw; go_simp; try with_reducible rfl) HSW.out ?_
  simp only [Act.put, List.setIfInBounds_toArray, List.set_cons_zero, List.set_cons_succ]
  refine heldS_take (i := 6) (oi := { dst := some 22, op := Op.nilCheck (Operand.tmp 21), type := 0, pos := _, after := _, guard := none }) (v := _) rfl (by kernel_rfl) (by kernel_rfl) (by kernel_rfl) (fun _ _ _ h => h) (by rfl) (by intro w' hSw; go_simp; try with_reducible rfl) HSW.out ?_
  simp only [Act.put, List.setIfInBounds_toArray, List.set_cons_zero, List.set_cons_succ]
  refine heldS_take (i := 7) (oi := { dst := some 23, op := Op.fieldAddr 51 (Operand.tmp 22) 1, type := 0, pos := _, after := _, guard := none }) (v := _) rfl (by kernel_rfl) (by kernel_rfl) (by kernel_rfl) (fun _ _ _ h => h) (by rfl) (by intro w' hSw; go_simp; try with_reducible rfl) HSW.out ?_
  simp only [Act.put, List.setIfInBounds_toArray, List.set_cons_zero, List.set_cons_succ]
  refine heldS_take (i := 8) (oi := { dst := some 24, op := Op.load 3 (Operand.tmp 23), type := 3, pos := _, after := _, guard := none }) (v := _) rfl (by kernel_rfl) (by kernel_rfl) (by kernel_rfl) (fun _ _ _ h => h) (by rfl) (by intro w' hSw; have c1 := (pair_cells hSw).2; go_simp; try with_reducible rfl) HSW.out ?_
  simp only [Act.put, List.setIfInBounds_toArray, List.set_cons_zero, List.set_cons_succ]
  refine heldS_take (i := 9) (oi := { dst := some 25, op := Op.binOp BinOp.sub 3 (Operand.tmp 20) (Operand.tmp 24) 3, type := 3, pos := _, after := _, guard := none }) (v := _) rfl (by kernel_rfl) (by kernel_rfl) (by kernel_rfl) (fun _ _ _ h => h) (by rfl) (by intro w' hSw; go_simp; try with_reducible rfl) HSW.out ?_
  simp only [Act.put, List.setIfInBounds_toArray, List.set_cons_zero, List.set_cons_succ]
  refine heldS_step (i := 10) (o := { dst := some 26, op := Op.call { callee := Callee.value (Operand.func 18), args := #[Operand.tmp 19, Operand.tmp 25], argTypes := #[49, 3] }, type := 3, pos := _, after := _, guard := none }) (by kernel_rfl) rfl (by rfl) HSW.out (fun K hK => ?_)
  go_simp
  refine HSK.out.mono ?_
  rintro e wd ⟨rfl, hr, ht⟩
  refine hK.out _ _ ?_
  have HJ2 := hide (HJ.out.turned hr ht)
  have HT2 := hide (TurnJ.of (j := j) ht)
  have HSW2 := hide HJ2.out.2.1
  clear hr ht
  clear hK K
  try simp only [Act.put, List.setIfInBounds_toArray, List.set_cons_zero, List.set_cons_succ]
  refine heldS_take (i := 11) (oi := { dst := some 5, op := Op.assign (Operand.tmp 26), type := 3, pos := _, after := _, guard := none }) (v := _) rfl (by kernel_rfl) (by kernel_rfl) (by kernel_rfl) (fun _ _ _ h => h) (by rfl) (by intro w' hSw; go_simp; try with_reducible rfl) HSW2.out ?_
  simp only [Act.put, List.setIfInBounds_toArray, List.set_cons_zero, List.set_cons_succ]
  refine heldS_done (by kernel_rfl) HSW2.out ?_
  obtain ⟨c0, c1⟩ := pair_cells HSW2.out
  have f1 := Joins.unfrozen_of_block HSW2.out 1
  go_wp2
  go_ret
  have hrb := HJ2.out.rebase R
  have htb := (TurnJ.drewN j g r W1 (q + 1)).trans (HT2.out.rebase (.int .i64 (R : Int)))
  first
    | exact ⟨rfl, hrb, htb⟩
    | (rw [HN4.out]; exact ⟨rfl, hrb, htb⟩)

/-- A list of texts in memory. -/
def LS (W : World) (a : Option Addr) (l : List ByteArray) : Prop := l = [] ∨ ∃ b off, a = some ⟨b, off, none⟩ ∧ ∀ i, i < l.length → W.cell? ⟨b, off + i, none⟩ = some (.string (l.getD i ⟨#[]⟩))
theorem row_ls {W : World} {B : Nat} {v : Value} {l : List ByteArray} (h : W.ownsRow B 9 1 v l.length (l.map Value.string)) : ∃ a cap, v = .slice a l.length cap ∧ LS W a l := by
  rcases h.2 with ⟨rfl, h0⟩ | ⟨g, cap, cur, rfl, hg, hh, hn, hm, hs, ht⟩
  · rw [h0]; exact ⟨none, 0, rfl, .inl (List.length_eq_zero_iff.1 h0)⟩
  · refine ⟨some ⟨g, 0, none⟩, cap, rfl, .inr ⟨g, 0, rfl, fun i hi => ?_⟩⟩
    rw [Nat.zero_add, Joins.cell_of_block hh]
    have e1 : cur[i]? = (cur.toList.take (l.length * 1))[i]? := by rw [List.getElem?_take_of_lt (by omega)]; simp
    rw [e1, ht]
    simp [List.getD, hi]
theorem LS.block {W W' : World} {a : Option Addr} {l : List ByteArray} (h : LS W a l) (hb : Below W.heap.size W W') : LS W' a l := by
  rcases h with h | ⟨b, off, e, hc⟩
  · exact .inl h
  · by_cases h0 : l.length = 0
    · exact .inl (List.length_eq_zero_iff.1 h0)
    · have hlt : b < W.heap.size := World.block_lt_of_cell? W _ (hc 0 (by omega))
      exact .inr ⟨b, off, e, fun i hi => (hb.cell (p := ⟨b, off + i, none⟩) hlt).trans (hc i hi)⟩

set_option maxHeartbeats 1000000 in
theorem texts_same (a b : Option Addr) (l : List ByteArray) (n c1 c2 : Nat) (w : World) (hn : l.length = n) (hm : n ≤ 100000) (ha : LS w a l) (hb : LS w b l) :
    Calls Try.prog 16 #[.slice a n c1, .slice b n c2] w fun e W' => e = .returned (.bool true) ∧ ∃ q, W' = w.drewN q := by
  have HA := hide ha
  have HB := hide hb
  have HN := hide hn
  clear ha hb hn
  go_enter Try.func16, Try.ntmps16
  go_wp2
  go_loopw [13] (fun z wr => (∃ q, wr = w.drewN q) ∧ ∃ k : Nat, z = .int .i64 (k : Int) ∧ k ≤ n) (fun z _ => n - (intOf z).toNat)
  case atStart => exact ⟨⟨0, rfl⟩, 0, rfl, Nat.zero_le _⟩
  case round =>
    obtain ⟨⟨q, hw⟩, k, rfl, hk⟩ := hrel
    subst hw
    by_cases hlt : k < n
    · obtain ⟨b1, o1, rfl, hc1⟩ : ∃ b1 o1, a = some ⟨b1, o1, none⟩ ∧ ∀ i, i < l.length → w.cell? ⟨b1, o1 + i, none⟩ = some (.string (l.getD i ⟨#[]⟩)) := by
        rcases HA.out with h | h
        · rw [← HN.out, h] at hlt; simp at hlt
        · exact h
      obtain ⟨b2, o2, rfl, hc2⟩ : ∃ b2 o2, b = some ⟨b2, o2, none⟩ ∧ ∀ i, i < l.length → w.cell? ⟨b2, o2 + i, none⟩ = some (.string (l.getD i ⟨#[]⟩)) := by
        rcases HB.out with h | h
        · rw [← HN.out, h] at hlt; simp at hlt
        · exact h
      have d1 := hc1 k (by rw [HN.out]; exact hlt)
      have d2 := hc2 k (by rw [HN.out]; exact hlt)
      generalize l.getD k ⟨#[]⟩ = y at *
      clear hc1 hc2
      go_wp2
      go_quiet (fail)
      go_wp2
      go_roundw
      case rel => exact ⟨⟨_, rfl⟩, k + 1, by go_num, by omega⟩
      case measure => simp [intOf]; omega
    · go_wp2
      go_ret
      exact ⟨rfl, q, rfl⟩

theorem ring_new (most : Nat) (h1 : 1 ≤ most) (h2 : most ≤ 65536) (w : World) : Calls Try.prog 17 #[.int .i64 (most : Int)] w fun e W' => e = .returned (.pointer (some ⟨w.heap.size, 0, none⟩)) ∧ W' = w.alloc (.cells #[.int .i64 (most : Int), .slice none 0 0, .int .i64 0] 60) := by
  have n1 : ¬ (most : Int) < 1 := by omega
  have n2 : ¬ (65536 : Int) < (most : Int) := by omega
  go_enter Try.func17, Try.ntmps17
  go_wp2
  go_ret
  exact ⟨rfl, rfl⟩
theorem new_any (most : Nat) (h1 : 1 ≤ most) (h2 : most ≤ 1024) (w : World) : Calls Try.prog 7 #[.int .i64 (most : Int)] w fun e W' => e = .returned (.pointer (some ⟨w.heap.size + 1, 0, none⟩)) ∧ JIs W' w.heap.size (w.heap.size + 1) w.heap.size most none 0 [] ∧ Below w.heap.size w W' := by
  have HR := hide (ring_new most h1 (by omega) w)
  have n1 : ¬ (1024 : Int) < (most : Int) := by omega
  have ha := World.alloc_heap_new w (.cells #[.int .i64 (most : Int), .slice none 0 0, .int .i64 0] 60)
  have hb : Below w.heap.size w (w.alloc (.cells #[.int .i64 (most : Int), .slice none 0 0, .int .i64 0] 60)) := (Below.refl _ _).alloc (Nat.le_refl _) _
  have hs : (w.alloc (.cells #[.int .i64 (most : Int), .slice none 0 0, .int .i64 0] 60)).heap.size = w.heap.size + 1 := World.size_alloc ..
  go_enter Try.func7, Try.ntmps7
  go_wp2_with (go_at_call 17; refine HR.out.mono ?_; rintro e W1 ⟨rfl, hw⟩; rw [← hw] at ha hb hs; clear hw HR)
  go_ret
  have h3 := World.alloc_heap_new W1 (.cells #[.pointer (some ⟨w.heap.size, 0, none⟩), .int .i64 0] 51)
  have hb2 : Below W1.heap.size W1 (W1.alloc (.cells #[.pointer (some ⟨w.heap.size, 0, none⟩), .int .i64 0] 51)) := (Below.refl _ _).alloc (Nat.le_refl _) _
  rw [hs] at h3
  refine ⟨by rw [← hs]; rfl, ⟨by omega, h3, ⟨Nat.le_refl _, .slice none 0 0, 0, [], (hb2.block _ (by omega)).trans ha, World.ownsRow_nil _ _ _ _, rfl, Nat.zero_le _, rfl, by simp, h1, by omega, Nat.zero_le _⟩⟩, hb.trans (hb2.mono hb.size)⟩
end Go.Proofs.Ytolidhjffminkaa.J
