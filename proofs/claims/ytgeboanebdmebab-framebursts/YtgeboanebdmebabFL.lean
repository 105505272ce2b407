/- frame: Get, whatever comes. -/
import Derived.Test.YtgeboanebdmebabFK
namespace Go.Proofs.Ytgeboanebdmebab.F
open Go.Proofs.Ytgeboanebdmebab Go.RowKit Go.By
set_option linter.unusedVariables false
set_option linter.unusedSimpArgs false
set_option maxRecDepth 20000
attribute [local go_sem ↓] Go.wp_at_zero Go.wp_at_succ

theorem sealed_came {w W : World} {a : Option Addr} {l : List Nat} {cap : Nat} (hL : Came w.heap.size w a l) (hb : Below w.heap.size w W) (hn : l.length ≤ cap) (k m : Nat) : Came W.heap.size W (V.from_ a cap k) ((l.drop k).take (m + 4)) :=
  (V.lies_take (V.lies_drop (hL.below hb).lies cap k hn) (m + 4)).came

set_option maxHeartbeats 4000000 in
theorem get_short (a : Option Addr) (n cap k m : Nat) (w : World) (R : (Int × Int × Int × ByteArray) × Nat × Int) (hk : k ≤ 9) (hm : m ≤ 65576) (hlt : n < k + m + 4) (hR : R = ((0, 0, 0, ⟨#[]⟩), 0, 10))
    (h70 : ∀ W, Below w.heap.size w W → Calls Try.prog 14 #[.slice a n cap] W fun e W' => e = .returned (.tuple #[.agg #[.int .i64 (k : Int), .int .i64 (m : Int)], .int .i64 0]) ∧ Below W.heap.size W W') :
    Calls Try.prog 7 #[.slice a n cap] w fun e W' => GetOut w R e W' := by
  have HV := hide hR
  have H70 := hide h70
  have HG0 := hide (GW.new w a n cap)
  have hc0 := (by rw [Joins.cell_of_block HG0.out.1.1]; rfl : (((w.alloc (.cells #[.slice a n cap] 27)).alloc (.cells #[.int .i64 0, .int .i64 0, .int .i64 0, .string ⟨#[]⟩] 23)).alloc (.cells #[.int .i64 0] 3)).cell? ⟨w.heap.size, 0, none⟩ = some (.slice a n cap))
  have HK := hide (And.intro hk (And.intro hm hlt))
  have HZ : Hid ((10 : Int) ≠ 0) := hide (by decide)
  clear hR h70 hk hm hlt
  go_enter Try.func7, Try.ntmps7
  go_wp2_with (first
    | (go_at_call 14; refine (H70.out _ HG0.out.2.2).mono ?_; rintro e W1 ⟨rfl, hb⟩; have HG1 := hide (HG0.out.below hb); have HG1a := hide (HG1.out.alloc (.cells #[.int .i64 (k : Int), .int .i64 (m : Int)] 42)); clear hb)
    | (go_at_call 15; refine (then71_short _ _ a n cap k m _ HG1a.out.1 HK.out.1 HK.out.2.1 HK.out.2.2).mono ?_; rintro e W2 ⟨rfl, hb⟩; have HG2 := hide (HG1a.out.below hb); clear hb)
    | (go_at_call 17; refine (then73_bad 10 HZ.out _).mono ?_; rintro e W3 ⟨rfl, hb⟩; have HG3 := hide (HG2.out.below hb); clear hb)
    | (go_at_call 19; refine (then75_bad 10 HZ.out _).mono ?_; rintro e W4 ⟨rfl, hb⟩; have HG4 := hide (HG3.out.below hb); obtain ⟨c0, c1, c2, c3⟩ := pk_cells HG4.out.2.1; obtain ⟨f0, f1, f2, f3⟩ := pk_free HG4.out.2.1; clear hb))
  refine heldS_startP (S := GS w 0 0 0 ⟨#[]⟩ 0) (by kernel_rfl) ?_
  have HSW := hide (gs_drew (gs_of HG4.out 0 0 0 ⟨#[]⟩))
  clear c0 c1 c2 c3 f0 f1 f2 f3
  generalize hwq : World.drew _ = wd at HSW ⊢
  clear hwq
  obtain ⟨c0, c1, c2, c3⟩ := pk_cells HSW.out.1
  obtain ⟨f0, f1, f2, f3⟩ := pk_free HSW.out.1
  have e0 := int_cell HSW.out.2.1
  have g0 := Joins.unfrozen_of_block HSW.out.2.1 0
  refine heldS_take (i := 0) (oi := { dst := some 32, op := Op.load 23 (Operand.tmp 2), type := 23, pos := _, after := _, guard := none }) (v := _) rfl (by kernel_rfl) (by kernel_rfl) (by kernel_rfl) (fun _ _ _ h => h) (by rfl) (by intro w' hSw; obtain ⟨c0, c1, c2, c3⟩ := pk_cells hSw.1; go_simp; try with_reducible rfl) HSW.out ?_
  simp only [Act.put, List.setIfInBounds_toArray, List.set_cons_zero, List.set_cons_succ]
  refine heldS_take (i := 1) (oi := { dst := some 33, op := Op.load 3 (Operand.tmp 3), type := 3, pos := _, after := _, guard := none }) (v := _) rfl (by kernel_rfl) (by kernel_rfl) (by kernel_rfl) (fun _ _ _ h => h) (by rfl) (by intro w' hSw; have e0 := int_cell hSw.2.1; go_simp; try with_reducible rfl) HSW.out ?_
  simp only [Act.put, List.setIfInBounds_toArray, List.set_cons_zero, List.set_cons_succ]
  refine heldS_take (i := 2) (oi := { dst := some 34, op := Op.move (Operand.tmp 4), type := 28, pos := _, after := _, guard := none }) (v := _) rfl (by kernel_rfl) (by kernel_rfl) (by kernel_rfl) (fun _ _ _ h => h) (by rfl) (by intro w' hSw; go_simp; try with_reducible rfl) HSW.out ?_
  simp only [Act.put, List.setIfInBounds_toArray, List.set_cons_zero, List.set_cons_succ]
  refine heldS_step (i := 3) (o := { dst := none, op := Op.store 23 (Operand.tmp 2) (Operand.tmp 32), type := 0, pos := _, after := _, guard := none }) (by kernel_rfl) rfl (by rfl) HSW.out (fun K hK => ?_)
  go_simp
  refine hK.out _ _ ?_
  have HSN := hide (gs_again HSW.out)
  clear c0 c1 c2 c3 f0 f1 f2 f3 e0 g0
  replace HSW := HSN
  clear HSN
  generalize hwq : World.setCell _ _ _ = wd at HSW ⊢
  clear hwq
  obtain ⟨c0, c1, c2, c3⟩ := pk_cells HSW.out.1
  obtain ⟨f0, f1, f2, f3⟩ := pk_free HSW.out.1
  have e0 := int_cell HSW.out.2.1
  have g0 := Joins.unfrozen_of_block HSW.out.2.1 0
  clear hK K
  try simp only [Act.put, List.setIfInBounds_toArray, List.set_cons_zero, List.set_cons_succ]
  refine heldS_step (i := 4) (o := { dst := none, op := Op.store 3 (Operand.tmp 3) (Operand.tmp 33), type := 0, pos := _, after := _, guard := none }) (by kernel_rfl) rfl (by rfl) HSW.out (fun K hK => ?_)
  go_simp
  refine hK.out _ _ ?_
  have HSN := hide (gs_size HSW.out)
  clear c0 c1 c2 c3 f0 f1 f2 f3 e0 g0
  replace HSW := HSN
  clear HSN
  generalize hwq : World.setCell _ _ _ = wd at HSW ⊢
  clear hwq
  clear hK K
  try simp only [Act.put, List.setIfInBounds_toArray, List.set_cons_zero, List.set_cons_succ]
  refine heldS_take (i := 5) (oi := { dst := some 4, op := Op.assign (Operand.tmp 34), type := 28, pos := _, after := _, guard := none }) (v := _) rfl (by kernel_rfl) (by kernel_rfl) (by kernel_rfl) (fun _ _ _ h => h) (by rfl) (by intro w' hSw; go_simp; try with_reducible rfl) HSW.out ?_
  simp only [Act.put, List.setIfInBounds_toArray, List.set_cons_zero, List.set_cons_succ]
  refine heldS_done (by kernel_rfl) HSW.out ?_
  go_wp2
  exact bodyPost_ret (results_cct rfl _ _ (w.heap.size + 1) (w.heap.size + 1 + 1) 23 3 _ _ (0, 0) (0, 0) _ rfl rfl HSW.out.1 HSW.out.2.1 Try.underlying23 rfl (by kernel_rfl) agg3) rfl ⟨by rw [HV.out]; rfl, HSW.out.2.2⟩

set_option maxHeartbeats 4000000 in
theorem get_sum (a : Option Addr) (n cap k m : Nat) (w : World) (R : (Int × Int × Int × ByteArray) × Nat × Int) (hk : k ≤ 9) (hm : m ≤ 65576) (hlt : k + m + 4 ≤ n) (hcap : n ≤ cap) (hR : R = ((0, 0, 0, ⟨#[]⟩), k + m + 4, 12))
    (h73 : ∀ W, Below w.heap.size w W → Calls Try.prog 17 #[.slice (V.from_ a cap k) (m + 4) (cap - k), .int .i64 0, .func (.func 18) #[] #[]] W fun e W' => e = .returned (.tuple #[.slice none 0 0, .int .i64 12]) ∧ Below W.heap.size W W')
    (h70 : ∀ W, Below w.heap.size w W → Calls Try.prog 14 #[.slice a n cap] W fun e W' => e = .returned (.tuple #[.agg #[.int .i64 (k : Int), .int .i64 (m : Int)], .int .i64 0]) ∧ Below W.heap.size W W') :
    Calls Try.prog 7 #[.slice a n cap] w fun e W' => GetOut w R e W' := by
  have HV := hide hR
  have H70 := hide h70
  have HG0 := hide (GW.new w a n cap)
  have hc0 := (by rw [Joins.cell_of_block HG0.out.1.1]; rfl : (((w.alloc (.cells #[.slice a n cap] 27)).alloc (.cells #[.int .i64 0, .int .i64 0, .int .i64 0, .string ⟨#[]⟩] 23)).alloc (.cells #[.int .i64 0] 3)).cell? ⟨w.heap.size, 0, none⟩ = some (.slice a n cap))
  have H73 := hide h73
  have H71 := hide (fun W h => then71_long w.heap.size (w.heap.size + 1 + 1) a n cap k m W h hk hm hlt hcap)
  have HZ : Hid ((12 : Int) ≠ 0) := hide (by decide)
  clear hR h70 h73 hk hm hlt hcap
  generalize V.from_ a cap k = fa at *
  generalize cap - k = fc at *
  generalize k + m + 4 = sz at *
  generalize m + 4 = M at *
  go_enter Try.func7, Try.ntmps7
  go_wp2_with (first
    | (go_at_call 14; refine (H70.out _ HG0.out.2.2).mono ?_; rintro e W1 ⟨rfl, hb⟩; have HG1 := hide (HG0.out.below hb); have HG1a := hide (HG1.out.alloc (.cells #[.int .i64 (k : Int), .int .i64 (m : Int)] 42)); clear hb)
    | (go_at_call 15; refine (H71.out _ HG1a.out.1).mono ?_; rintro e W2 ⟨rfl, hx, hg⟩; have HG2 := hide (HG1a.out.up hx hg); clear hx hg)
    | (go_at_call 17; refine (H73.out _ HG2.out.2.2).mono ?_; rintro e W3 ⟨rfl, hb⟩; have HG3 := hide (HG2.out.below hb); clear hb)
    | (go_at_call 19; refine (then75_bad 12 HZ.out _).mono ?_; rintro e W4 ⟨rfl, hb⟩; have HG4 := hide (HG3.out.below hb); obtain ⟨c0, c1, c2, c3⟩ := pk_cells HG4.out.2.1; obtain ⟨f0, f1, f2, f3⟩ := pk_free HG4.out.2.1; clear hb))
  refine heldS_startP (S := GS w 0 0 0 ⟨#[]⟩ (sz : Int)) (by kernel_rfl) ?_
  have HSW := hide (gs_drew (gs_of HG4.out 0 0 0 ⟨#[]⟩))
  clear c0 c1 c2 c3 f0 f1 f2 f3
  generalize hwq : World.drew _ = wd at HSW ⊢
  clear hwq
  obtain ⟨c0, c1, c2, c3⟩ := pk_cells HSW.out.1
  obtain ⟨f0, f1, f2, f3⟩ := pk_free HSW.out.1
  have e0 := int_cell HSW.out.2.1
  have g0 := Joins.unfrozen_of_block HSW.out.2.1 0
  refine heldS_take (i := 0) (oi := { dst := some 32, op := Op.load 23 (Operand.tmp 2), type := 23, pos := _, after := _, guard := none }) (v := _) rfl (by kernel_rfl) (by kernel_rfl) (by kernel_rfl) (fun _ _ _ h => h) (by rfl) (by intro w' hSw; obtain ⟨c0, c1, c2, c3⟩ := pk_cells hSw.1; go_simp; try with_reducible rfl) HSW.out ?_
  simp only [Act.put, List.setIfInBounds_toArray, List.set_cons_zero, List.set_cons_succ]
  refine heldS_take (i := 1) (oi := { dst := some 33, op := Op.load 3 (Operand.tmp 3), type := 3, pos := _, after := _, guard := none }) (v := _) rfl (by kernel_rfl) (by kernel_rfl) (by kernel_rfl) (fun _ _ _ h => h) (by rfl) (by intro w' hSw; have e0 := int_cell hSw.2.1; go_simp; try with_reducible rfl) HSW.out ?_
  simp only [Act.put, List.setIfInBounds_toArray, List.set_cons_zero, List.set_cons_succ]
  refine heldS_take (i := 2) (oi := { dst := some 34, op := Op.move (Operand.tmp 4), type := 28, pos := _, after := _, guard := none }) (v := _) rfl (by kernel_rfl) (by kernel_rfl) (by kernel_rfl) (fun _ _ _ h => h) (by rfl) (by intro w' hSw; go_simp; try with_reducible rfl) HSW.out ?_
  simp only [Act.put, List.setIfInBounds_toArray, List.set_cons_zero, List.set_cons_succ]
  refine heldS_step (i := 3) (o := { dst := none, op := Op.store 23 (Operand.tmp 2) (Operand.tmp 32), type := 0, pos := _, after := _, guard := none }) (by kernel_rfl) rfl (by rfl) HSW.out (fun K hK => ?_)
  go_simp
  refine hK.out _ _ ?_
  have HSN := hide (gs_again HSW.out)
  clear c0 c1 c2 c3 f0 f1 f2 f3 e0 g0
  replace HSW := HSN
  clear HSN
  generalize hwq : World.setCell _ _ _ = wd at HSW ⊢
  clear hwq
  obtain ⟨c0, c1, c2, c3⟩ := pk_cells HSW.out.1
  obtain ⟨f0, f1, f2, f3⟩ := pk_free HSW.out.1
  have e0 := int_cell HSW.out.2.1
  have g0 := Joins.unfrozen_of_block HSW.out.2.1 0
  clear hK K
  try simp only [Act.put, List.setIfInBounds_toArray, List.set_cons_zero, List.set_cons_succ]
  refine heldS_step (i := 4) (o := { dst := none, op := Op.store 3 (Operand.tmp 3) (Operand.tmp 33), type := 0, pos := _, after := _, guard := none }) (by kernel_rfl) rfl (by rfl) HSW.out (fun K hK => ?_)
  go_simp
  refine hK.out _ _ ?_
  have HSN := hide (gs_size HSW.out)
  clear c0 c1 c2 c3 f0 f1 f2 f3 e0 g0
  replace HSW := HSN
  clear HSN
  generalize hwq : World.setCell _ _ _ = wd at HSW ⊢
  clear hwq
  clear hK K
  try simp only [Act.put, List.setIfInBounds_toArray, List.set_cons_zero, List.set_cons_succ]
  refine heldS_take (i := 5) (oi := { dst := some 4, op := Op.assign (Operand.tmp 34), type := 28, pos := _, after := _, guard := none }) (v := _) rfl (by kernel_rfl) (by kernel_rfl) (by kernel_rfl) (fun _ _ _ h => h) (by rfl) (by intro w' hSw; go_simp; try with_reducible rfl) HSW.out ?_
  simp only [Act.put, List.setIfInBounds_toArray, List.set_cons_zero, List.set_cons_succ]
  refine heldS_done (by kernel_rfl) HSW.out ?_
  go_wp2
  exact bodyPost_ret (results_cct rfl _ _ (w.heap.size + 1) (w.heap.size + 1 + 1) 23 3 _ _ (0, 0) (0, 0) _ rfl rfl HSW.out.1 HSW.out.2.1 Try.underlying23 rfl (by kernel_rfl) agg3) rfl ⟨by rw [HV.out]; rfl, HSW.out.2.2⟩

set_option maxHeartbeats 4000000 in
theorem get_body (a : Option Addr) (n cap k m : Nat) (b : List Nat) (w : World) (R : (Int × Int × Int × ByteArray) × Nat × Int) (hk : k ≤ 9) (hm : m ≤ 65576) (hlt : k + m + 4 ≤ n) (hcap : n ≤ cap) (hb : b.length = m) (hbm : m ≤ 20000) (hR : R = ((parseP b).1, k + m + 4, errP (parseP b).2))
    (h73 : ∀ W, Below w.heap.size w W → Calls Try.prog 17 #[.slice (V.from_ a cap k) (m + 4) (cap - k), .int .i64 0, .func (.func 18) #[] #[]] W fun e W' => ∃ u c, e = .returned (.tuple #[.slice u m c, .int .i64 0]) ∧ Owns W' W.heap.size (.slice u m c) b ∧ Below W.heap.size W W')
    (h70 : ∀ W, Below w.heap.size w W → Calls Try.prog 14 #[.slice a n cap] W fun e W' => e = .returned (.tuple #[.agg #[.int .i64 (k : Int), .int .i64 (m : Int)], .int .i64 0]) ∧ Below W.heap.size W W') :
    Calls Try.prog 7 #[.slice a n cap] w fun e W' => GetOut w R e W' := by
  have HV := hide hR
  have H70 := hide h70
  have HG0 := hide (GW.new w a n cap)
  have hc0 := (by rw [Joins.cell_of_block HG0.out.1.1]; rfl : (((w.alloc (.cells #[.slice a n cap] 27)).alloc (.cells #[.int .i64 0, .int .i64 0, .int .i64 0, .string ⟨#[]⟩] 23)).alloc (.cells #[.int .i64 0] 3)).cell? ⟨w.heap.size, 0, none⟩ = some (.slice a n cap))
  have H73 := hide h73
  have H71 := hide (fun W h => then71_long w.heap.size (w.heap.size + 1 + 1) a n cap k m W h hk hm hlt hcap)
  have H75 := hide (fun B u c W h => then75_good B b u m c W hb h (by omega))
  clear hR h70 h73 hk hm hlt hcap hb
  generalize V.from_ a cap k = fa at *
  generalize cap - k = fc at *
  generalize k + m + 4 = sz at *
  generalize m + 4 = M at *
  generalize errP (parseP b).2 = zp at *
  generalize (parseP b).1 = pp at *
  obtain ⟨x1, x2, x3, x4⟩ := pp
  go_enter Try.func7, Try.ntmps7
  go_wp2_with (first
    | (go_at_call 14; refine (H70.out _ HG0.out.2.2).mono ?_; rintro e W1 ⟨rfl, hb⟩; have HG1 := hide (HG0.out.below hb); have HG1a := hide (HG1.out.alloc (.cells #[.int .i64 (k : Int), .int .i64 (m : Int)] 42)); clear hb)
    | (go_at_call 15; refine (H71.out _ HG1a.out.1).mono ?_; rintro e W2 ⟨rfl, hx, hg⟩; have HG2 := hide (HG1a.out.up hx hg); clear hx hg)
    | (go_at_call 17; refine (H73.out _ HG2.out.2.2).mono ?_; rintro e W3 ⟨u, c, rfl, ho, hb⟩; have HO := hide ho; have HG3 := hide (HG2.out.below hb); clear hb ho)
    | (go_at_call 19; refine (H75.out _ _ _ _ HO.out).mono ?_; rintro e W4 ⟨rfl, hb⟩; have HG4 := hide (HG3.out.below hb); obtain ⟨c0, c1, c2, c3⟩ := pk_cells HG4.out.2.1; obtain ⟨f0, f1, f2, f3⟩ := pk_free HG4.out.2.1; clear hb))
  refine heldS_startP (S := GS w x1 x2 x3 x4 (sz : Int)) (by kernel_rfl) ?_
  have HSW := hide (gs_drew (gs_of HG4.out x1 x2 x3 x4))
  clear c0 c1 c2 c3 f0 f1 f2 f3
  generalize hwq : World.drew _ = wd at HSW ⊢
  clear hwq
  obtain ⟨c0, c1, c2, c3⟩ := pk_cells HSW.out.1
  obtain ⟨f0, f1, f2, f3⟩ := pk_free HSW.out.1
  have e0 := int_cell HSW.out.2.1
  have g0 := Joins.unfrozen_of_block HSW.out.2.1 0
  refine heldS_take (i := 0) (oi := { dst := some 32, op := Op.load 23 (Operand.tmp 2), type := 23, pos := _, after := _, guard := none }) (v := _) rfl (by kernel_rfl) (by kernel_rfl) (by kernel_rfl) (fun _ _ _ h => h) (by rfl) (by intro w' hSw; obtain ⟨c0, c1, c2, c3⟩ := pk_cells hSw.1; go_simp; try with_reducible rfl) HSW.out ?_
  simp only [Act.put, List.setIfInBounds_toArray, List.set_cons_zero, List.set_cons_succ]
  refine heldS_take (i := 1) (oi := { dst := some 33, op := Op.load 3 (Operand.tmp 3), type := 3, pos := _, after := _, guard := none }) (v := _) rfl (by kernel_rfl) (by kernel_rfl) (by kernel_rfl) (fun _ _ _ h => h) (by rfl) (by intro w' hSw; have e0 := int_cell hSw.2.1; go_simp; try with_reducible rfl) HSW.out ?_
  simp only [Act.put, List.setIfInBounds_toArray, List.set_cons_zero, List.set_cons_succ]
  refine heldS_take (i := 2) (oi := { dst := some 34, op := Op.move (Operand.tmp 4), type := 28, pos := _, after := _, guard := none }) (v := _) rfl (by kernel_rfl) (by kernel_rfl) (by kernel_rfl) (fun _ _ _ h => h) (by rfl) (by intro w' hSw; go_simp; try with_reducible rfl) HSW.out ?_
  simp only [Act.put, List.setIfInBounds_toArray, List.set_cons_zero, List.set_cons_succ]
  refine heldS_step (i := 3) (o := { dst := none, op := Op.store 23 (Operand.tmp 2) (Operand.tmp 32), type := 0, pos := _, after := _, guard := none }) (by kernel_rfl) rfl (by rfl) HSW.out (fun K hK => ?_)
  go_simp
  refine hK.out _ _ ?_
  have HSN := hide (gs_again HSW.out)
  clear c0 c1 c2 c3 f0 f1 f2 f3 e0 g0
  replace HSW := HSN
  clear HSN
  generalize hwq : World.setCell _ _ _ = wd at HSW ⊢
  clear hwq
  obtain ⟨c0, c1, c2, c3⟩ := pk_cells HSW.out.1
  obtain ⟨f0, f1, f2, f3⟩ := pk_free HSW.out.1
  have e0 := int_cell HSW.out.2.1
  have g0 := Joins.unfrozen_of_block HSW.out.2.1 0
  clear hK K
  try simp only [Act.put, List.setIfInBounds_toArray, List.set_cons_zero, List.set_cons_succ]
  refine heldS_step (i := 4) (o := { dst := none, op := Op.store 3 (Operand.tmp 3) (Operand.tmp 33), type := 0, pos := _, after := _, guard := none }) (by kernel_rfl) rfl (by rfl) HSW.out (fun K hK => ?_)
  go_simp
  refine hK.out _ _ ?_
  have HSN := hide (gs_size HSW.out)
  clear c0 c1 c2 c3 f0 f1 f2 f3 e0 g0
  replace HSW := HSN
  clear HSN
  generalize hwq : World.setCell _ _ _ = wd at HSW ⊢
  clear hwq
  clear hK K
  try simp only [Act.put, List.setIfInBounds_toArray, List.set_cons_zero, List.set_cons_succ]
  refine heldS_take (i := 5) (oi := { dst := some 4, op := Op.assign (Operand.tmp 34), type := 28, pos := _, after := _, guard := none }) (v := _) rfl (by kernel_rfl) (by kernel_rfl) (by kernel_rfl) (fun _ _ _ h => h) (by rfl) (by intro w' hSw; go_simp; try with_reducible rfl) HSW.out ?_
  simp only [Act.put, List.setIfInBounds_toArray, List.set_cons_zero, List.set_cons_succ]
  refine heldS_done (by kernel_rfl) HSW.out ?_
  go_wp2
  exact bodyPost_ret (results_cct rfl _ _ (w.heap.size + 1) (w.heap.size + 1 + 1) 23 3 _ _ (0, 0) (0, 0) _ rfl rfl HSW.out.1 HSW.out.2.1 Try.underlying23 rfl (by kernel_rfl) agg3) rfl ⟨by rw [HV.out]; rfl, HSW.out.2.2⟩

theorem parseP_no {l : List Nat} (h : (parseP l).2 = false) : (parseP l).1 = (0, 0, 0, ⟨#[]⟩) := by
  unfold parseP at *
  cases h4 : parse4 l with
  | none => rfl
  | some p =>
    obtain ⟨e, s, a, d⟩ := p
    rw [h4] at h
    dsimp only at h ⊢
    split at h
    · cases h
    · next hg => rw [if_neg hg]

theorem get_any (a : Option Addr) (l : List Nat) (n cap : Nat) (w : World) (hn : l.length = n) (hL : Came w.heap.size w a l) (hm : n ≤ 20000) (hcap : n ≤ cap) (hmx : cap ≤ maxLen) :
    Calls Try.prog 7 #[.slice a n cap] w fun e W' => GetOut w (getP l) e W' := by
  have h70 : ∀ W, Below w.heap.size w W → Calls Try.prog 14 #[.slice a n cap] W fun e W' => e = .returned (.tuple #[.agg #[.int .i64 ((headR l).1.1 : Nat), .int .i64 ((headR l).1.2 : Nat)], .int .i64 (headR l).2]) ∧ Below W.heap.size W W' :=
    fun W hb => head_any a l n cap W hn ((hL.below hb).mono hb.size) hm hcap
  cases hv : Vary.num l with
  | none =>
    have e1 : headR l = ((0, 0), 10) := by unfold headR; rw [hv]
    rw [e1] at h70
    exact get_head a n cap w (getP l) 10 (by decide) (by unfold getP; rw [hv]) h70
  | some p =>
    obtain ⟨m, k⟩ := p
    obtain ⟨_, _, hk0, hk9, hkl⟩ := Vary.num_back hL.1 hv
    by_cases hbig : 65576 < m
    · have e1 : headR l = ((0, 0), 11) := by unfold headR; rw [hv]; simp only []; rw [if_pos hbig]
      rw [e1] at h70
      exact get_head a n cap w (getP l) 11 (by decide) (by unfold getP; rw [hv]; simp only []; rw [if_pos hbig]) h70
    · have e1 : headR l = ((k, m), 0) := by unfold headR; rw [hv]; simp only []; rw [if_neg hbig]
      rw [e1] at h70
      by_cases hlt : n < k + m + 4
      · exact get_short a n cap k m w (getP l) hk9 (by omega) hlt (by unfold getP; rw [hv]; simp only []; rw [if_neg hbig, if_pos (by omega)]) h70
      · have hls : ((l.drop k).take (m + 4)).length = m + 4 := by rw [List.length_take, List.length_drop]; omega
        have hop : ∀ W, Below w.heap.size w W → Calls Try.prog 17 #[.slice (V.from_ a cap k) (m + 4) (cap - k), .int .i64 0, .func (.func 18) #[] #[]] W fun e W' => OpenOut ((l.drop k).take (m + 4)) m W e W' := fun W hb =>
          then73_good (V.from_ a cap k) ((l.drop k).take (m + 4)) m (cap - k) W (sealed_came hL hb (by omega) k m) hls (by omega) (by omega) (by omega)
        have hg0 : getP l = if ¬ Crc.sealed (((l.drop k).take (m + 4)).take m) = (l.drop k).take (m + 4) then ((0, 0, 0, ⟨#[]⟩), k + m + 4, 12)
            else if (parseP (((l.drop k).take (m + 4)).take m)).2 then ((parseP (((l.drop k).take (m + 4)).take m)).1, k + m + 4, 0) else ((0, 0, 0, ⟨#[]⟩), k + m + 4, 10) := by
          unfold getP; rw [hv]; simp only []; rw [if_neg hbig, if_neg (by omega)]
        by_cases hgood : Crc.Good ((l.drop k).take (m + 4)) m
        · have hs := (Crc.good_iff _ m hls).1 hgood
          rw [if_neg (by simpa using hs)] at hg0
          refine get_body a n cap k m (((l.drop k).take (m + 4)).take m) w (getP l) hk9 (by omega) (by omega) hcap (by rw [List.length_take, hls]; omega) (by omega) ?_ ?_ h70
          · rw [hg0]
            cases hp : (parseP (((l.drop k).take (m + 4)).take m)).2 with
            | true => rfl
            | false => rw [parseP_no hp]; rfl
          · intro W hb
            refine (hop W hb).mono ?_
            rintro e W' ⟨h1, ⟨_, u, c, h2, h3⟩ | ⟨h2, _⟩⟩
            · exact ⟨u, c, h2, h3, h1⟩
            · exact absurd hgood h2
        · have hs : ¬ Crc.sealed (((l.drop k).take (m + 4)).take m) = (l.drop k).take (m + 4) := fun e => hgood ((Crc.good_iff _ m hls).2 e)
          rw [if_pos hs] at hg0
          refine get_sum a n cap k m w (getP l) hk9 (by omega) (by omega) hcap hg0 ?_ h70
          intro W hb
          refine (hop W hb).mono ?_
          rintro e W' ⟨h1, ⟨h2, _⟩ | ⟨_, h3⟩⟩
          · exact absurd h2 hgood
          · exact ⟨h3, h1⟩
end Go.Proofs.Ytgeboanebdmebab.F
