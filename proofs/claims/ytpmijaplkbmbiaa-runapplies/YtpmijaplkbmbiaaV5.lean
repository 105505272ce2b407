/- What undoes an edit: the document's way. -/
import Derived.Test.YtpmijaplkbmbiaaU9
import Derived.Test.YtpmijaplkbmbiaaX6
import Derived.Test.YtpmijaplkbmbiaaX9
import Derived.Deep.AppendLies
namespace Go.Proofs.Ytpmijaplkbmbiaa.E
open Go.Proofs.Ytpmijaplkbmbiaa Go.RowKit Go.By Go.Shelf
set_option linter.unusedVariables false
set_option linter.unusedSimpArgs false

theorem build_at3 {o : Oper} {a : Act} {w : World} {i j l : Nat} {k d k2 d2 k3 d3 : Int} {s s2 s3 : ByteArray} (ho : o.op = .buildSlice 77 3 #[(0, .tmp i), (1, .tmp j), (2, .tmp l)]) (h1 : a.tmps[i]?.getD undef = .agg #[.int .i64 k, .string s, .int .i64 d]) (h2 : a.tmps[j]?.getD undef = .agg #[.int .i64 k2, .string s2, .int .i64 d2]) (h3 : a.tmps[l]?.getD undef = .agg #[.int .i64 k3, .string s3, .int .i64 d3]) :
    (execOp a.eval o).run Try.prog w = .ok (.value (.slice (some ⟨w.heap.size, 0, none⟩) 3 3)) (w.alloc (.cells #[.int .i64 k, .string s, .int .i64 d, .int .i64 k2, .string s2, .int .i64 d2, .int .i64 k3, .string s3, .int .i64 d3] 91)) := by
  unfold execOp
  rw [ho]
  go_simp

set_option maxRecDepth 100000 in
set_option maxHeartbeats 8000000 in
theorem rback_any (a : Option Addr) (cap : Nat) (rs : List Rn) (s : ByteArray) (w : World) (hS : CameR w.heap.size w a rs) (hl : rs.length ≤ 100000) :
    Calls Try.prog 73 #[.slice a rs.length cap, .string s] w fun e W' => Gives2 w.heap.size w (backO rs s) (backE rs s) e W' := by
  obtain ⟨i0, hi, hz0, hz1, hz2⟩ := info_parts (show (Try.prog.info? 91).map (fun i => (i.zero, i.size, i.bytes)) = some (some (.agg #[.int .i64 0, .string ⟨#[]⟩, .int .i64 0]), 3, 32) by kernel_rfl)
  have hfit := rfits_any a cap rs s w hS (by omega)
  have HS := hide hS
  clear hS
  go_enter Try.func73, Try.ntmps73
  cases hf : fitsR rs (s.size : Int) with
  | false =>
    rw [hf] at hfit
    have HA : Hid (backO rs s = [] ∧ backE rs s = 60) := hide ⟨by rw [backO, hf]; rfl, by rw [backE, hf]; rfl⟩
    clear hf
    go_wp2_with (go_at_call 75; refine hfit.mono ?_; rintro e W1 ⟨rfl, hb⟩; have HB1 := hide hb; clear hb)
    go_ret2
    rw [HA.out.1, HA.out.2]
    exact ⟨none, 0, rfl, .inl rfl, HB1.out⟩
  | true =>
    rw [hf] at hfit
    obtain ⟨f1, f2, f3, f4, f5, f6⟩ := fits_facts hf
    have HA : Hid (backO rs s = backR s rs ∧ backE rs s = 0) := hide ⟨by rw [backO, if_pos hf], by rw [backE, if_pos hf]⟩
    have hkinds := good_kinds f1
    obtain ⟨e1, e2⟩ := sums_tok hkinds
    have HIN : Hid (sI rs = (s.size : Int)) := hide (by rw [e1]; exact f2)
    have HSI : Hid (sI rs ≤ 16777216 ∧ sO rs ≤ 16777216) := hide (by rw [e1, e2]; omega)
    have HKI := hide hkinds
    have HBQ := hide (backR_Q (s := s) hkinds)
    clear f1 f2 f3 f4 f5 f6 hf hkinds e1 e2
    go_wp2_with (go_at_call 75; refine hfit.mono ?_; rintro e W1 ⟨rfl, hb⟩; have HB1 := hide hb; clear hb)
    go_loopw [6, 7, 8] (fun u p i wr => ∃ k : Nat, k ≤ rs.length ∧ i = .int .i64 (k : Int) ∧ p = .int .i64 ((tIn (expand (rs.take k)) : Nat) : Int) ∧ Hid (OwnR wr w.heap.size u (backQ s (rs.take k) 0) ∧ Below w.heap.size w wr)) (fun _ _ i _ => rs.length - (intOf i).toNat)
    case atStart => exact ⟨0, Nat.zero_le _, rfl, rfl, hide ⟨OwnR.nil _ _, HB1.out⟩⟩
    case round =>
      obtain ⟨k, hk, rfl, rfl, HI⟩ := hrel
      obtain ⟨ua, un, uc, rfl⟩ := form3 HI.out.1
      by_cases hlt : k < rs.length
      · have hlt' : (k : Int) < (rs.length : Int) := by omega
        obtain ⟨b, off, rfl, s0, s1, s2⟩ := came_at (HS.out.below HI.out.2) hlt
        have hkx : kind (rs.getD k rn0) ≠ 0 := HKI.out _ (by simp [List.getD, hlt])
        have hsn : rs.take (k + 1) = rs.take k ++ [rs.getD k rn0] := by rw [List.take_succ_eq_append_getElem hlt]; simp [List.getD, hlt]
        have st := sums_take HKI.out (k + 1)
        have tk := sums_tok (rs := rs.take k) fun y hy => HKI.out y (List.mem_of_mem_take hy)
        have tk1 := sums_tok (rs := rs.take (k + 1)) fun y hy => HKI.out y (List.mem_of_mem_take hy)
        have eI : sI (rs.take (k + 1)) = sI (rs.take k) + ((rs.getD k rn0).keep + (rs.getD k rn0).drop) := by rw [hsn, sI_snoc]
        have hbq := backQ_snoc s (rs.getD k rn0) (rs.take k) (fun y hy => HKI.out y (List.mem_of_mem_take hy)) 0
        rw [← hsn, Nat.zero_add] at hbq
        obtain ⟨kf1, kf2, _, _⟩ := kind_facts hkx
        have hin := HIN.out
        rw [tk1.1, tk.1] at eI
        rw [tk1.1, tk1.2] at st
        have hpl : (backQ s (rs.take k) 0).length ≤ 300000 := by rw [len_backQ, List.length_take]; omega
        generalize rs.getD k rn0 = x at *
        obtain ⟨xk, xa, xd⟩ := x
        dsimp only at s0 s1 s2 kf1 kf2 eI
        obtain ⟨kN, rfl⟩ := Int.eq_ofNat_of_zero_le kf1
        obtain ⟨dN, rfl⟩ := Int.eq_ofNat_of_zero_le kf2
        have HSN : Hid (tIn (expand (rs.take (k + 1))) = tIn (expand (rs.take k)) + (kN + dN)) := hide (by omega)
        have hb2 := HSI.out
        have hbound : tIn (expand (rs.take k)) + kN + dN ≤ s.size ∧ s.size ≤ 16777216 := by omega
        generalize hiN : tIn (expand (rs.take k)) = iN at *
        have HPE : Hid (backQ s (rs.take (k + 1)) 0 = backQ s (rs.take k) 0 ++ backr1 s iN ⟨(kN : Int), xa, (dN : Int)⟩) := hide hbq
        have HOR : Hid (OwnR wr w.heap.size (.slice ua un uc) (backQ s (rs.take k) 0)) := hide HI.out.1
        generalize hP : backQ s (rs.take k) 0 = P at *
        have HM : Hid (P.length ≤ 300000) := hide hpl
        have hle : iN + kN + dN ≤ s.size := hbound.1
        have hsz : s.size ≤ 16777216 := hbound.2
        have w1 : IntKind.i64.wrap ((iN : Int) + (kN : Int)) = (iN : Int) + (kN : Int) := by rw [IntKind.wrap_i64]; omega
        have w2 : IntKind.i64.wrap ((iN : Int) + (kN : Int) + (dN : Int)) = (iN : Int) + (kN : Int) + (dN : Int) := by rw [IntKind.wrap_i64]; omega
        have w6 : IntKind.i64.wrap ((k : Int) + 1) = (k : Int) + 1 := by rw [IntKind.wrap_i64]; omega
        have hbn := World.alloc_heap_new wr (.cells #[.int .i64 (kN : Int), .string xa, .int .i64 (dN : Int)] 91)
        have HSW : Hid ((wr.alloc (.cells #[.int .i64 (kN : Int), .string xa, .int .i64 (dN : Int)] 91)).drew.heap[wr.heap.size]? = some (.cells #[.int .i64 (kN : Int), .string xa, .int .i64 (dN : Int)] 91 (0, 0))) := hide hbn
        have HOW : Hid (((wr.alloc (.cells #[.int .i64 (kN : Int), .string xa, .int .i64 (dN : Int)] 91)).drew.alloc (.cells #[.int .i64 (kN : Int), .string ⟨#[]⟩, .int .i64 0, .int .i64 0, .string ⟨#[]⟩, .int .i64 (xa.size : Int), .int .i64 0, .string (s.extract (iN + kN) (iN + kN + dN)), .int .i64 0] 91)).ownsRow w.heap.size 91 3 (.slice ua un uc) P.length (cellsR P)) := hide (World.ownsRow.alloc (World.ownsRow.alloc HOR.out _) _)
        have HLE : Hid (w.heap.size ≤ ((wr.alloc (.cells #[.int .i64 (kN : Int), .string xa, .int .i64 (dN : Int)] 91)).drew.alloc (.cells #[.int .i64 (kN : Int), .string ⟨#[]⟩, .int .i64 0, .int .i64 0, .string ⟨#[]⟩, .int .i64 (xa.size : Int), .int .i64 0, .string (s.extract (iN + kN) (iN + kN + dN)), .int .i64 0] 91)).heap.size) := hide (by have := HI.out.2.size; simp; omega)
        have HQV : Hid ((Value.slice ua un uc).ownBlock ≠ some wr.heap.size) := hide fun e => absurd (HOR.out.lt e).2 (Nat.lt_irrefl _)
        clear hkx hsn st tk tk1 eI hbq hin hb2 hbound hiN kf1 kf2 hpl hP hbn
        go_wp2_with fail
        refine heldS_startP (S := fun w' => w'.heap[wr.heap.size]? = some (.cells #[.int .i64 (kN : Int), .string xa, .int .i64 (dN : Int)] 91 (0, 0))) (by kernel_rfl) ?_
        refine heldS_take (i := 0) (oi := { dst := some 24, op := Op.move (Operand.tmp 6), type := 77, pos := _, after := _, guard := none }) (v := _) rfl (by kernel_rfl) (by kernel_rfl) (by kernel_rfl) (fun _ _ _ h => h) (by rfl) (by intro w' hSw; go_simp; try with_reducible rfl) HSW.out ?_
        simp only [Act.put, List.setIfInBounds_toArray, List.set_cons_zero, List.set_cons_succ]
        refine heldS_take (i := 1) (oi := { dst := some 25, op := Op.fieldAddr 91 (Operand.tmp 9) 0, type := 0, pos := _, after := _, guard := none }) (v := _) rfl (by kernel_rfl) (by kernel_rfl) (by kernel_rfl) (fun _ _ _ h => h) (by rfl) (by intro w' hSw; go_simp; try with_reducible rfl) HSW.out ?_
        simp only [Act.put, List.setIfInBounds_toArray, List.set_cons_zero, List.set_cons_succ]
        refine heldS_take (i := 2) (oi := { dst := some 26, op := Op.load 3 (Operand.tmp 25), type := 3, pos := _, after := _, guard := none }) (v := _) rfl (by kernel_rfl) (by kernel_rfl) (by kernel_rfl) (fun _ _ _ h => h) (by rfl) (by intro w' hSw; obtain ⟨r0, r1, r2⟩ := cellsq hSw; go_simp; try with_reducible rfl) HSW.out ?_
        simp only [Act.put, List.setIfInBounds_toArray, List.set_cons_zero, List.set_cons_succ]
        refine heldS_take (i := 3) (oi := { dst := some 27, op := Op.build 91 #[(0, Operand.tmp 26)], type := 91, pos := _, after := _, guard := none }) (v := _) rfl (by kernel_rfl) (by kernel_rfl) (by kernel_rfl) (fun _ _ _ h => h) (by rfl) (by intro w' hSw; go_simp; try with_reducible rfl) HSW.out ?_
        simp only [Act.put, List.setIfInBounds_toArray, List.set_cons_zero, List.set_cons_succ]
        refine heldS_take (i := 4) (oi := { dst := some 28, op := Op.fieldAddr 91 (Operand.tmp 9) 1, type := 0, pos := _, after := _, guard := none }) (v := _) rfl (by kernel_rfl) (by kernel_rfl) (by kernel_rfl) (fun _ _ _ h => h) (by rfl) (by intro w' hSw; go_simp; try with_reducible rfl) HSW.out ?_
        simp only [Act.put, List.setIfInBounds_toArray, List.set_cons_zero, List.set_cons_succ]
        refine heldS_take (i := 5) (oi := { dst := some 29, op := Op.load 9 (Operand.tmp 28), type := 9, pos := _, after := _, guard := none }) (v := _) rfl (by kernel_rfl) (by kernel_rfl) (by kernel_rfl) (fun _ _ _ h => h) (by rfl) (by intro w' hSw; obtain ⟨r0, r1, r2⟩ := cellsq hSw; go_simp; try with_reducible rfl) HSW.out ?_
        simp only [Act.put, List.setIfInBounds_toArray, List.set_cons_zero, List.set_cons_succ]
        refine heldS_take (i := 6) (oi := { dst := some 30, op := Op.call { callee := Callee.builtin Builtin.len, args := #[Operand.tmp 29], argTypes := #[9] }, type := 3, pos := _, after := _, guard := none }) (v := _) rfl (by kernel_rfl) (by kernel_rfl) (by kernel_rfl) (fun _ _ _ h => h) (by rfl) (by intro w' hSw; go_simp; try with_reducible rfl) HSW.out ?_
        simp only [Act.put, List.setIfInBounds_toArray, List.set_cons_zero, List.set_cons_succ]
        refine heldS_take (i := 7) (oi := { dst := some 31, op := Op.build 91 #[(2, Operand.tmp 30)], type := 91, pos := _, after := _, guard := none }) (v := _) rfl (by kernel_rfl) (by kernel_rfl) (by kernel_rfl) (fun _ _ _ h => h) (by rfl) (by intro w' hSw; go_simp; try with_reducible rfl) HSW.out ?_
        simp only [Act.put, List.setIfInBounds_toArray, List.set_cons_zero, List.set_cons_succ]
        refine heldS_take (i := 8) (oi := { dst := some 32, op := Op.move (Operand.tmp 1), type := 9, pos := _, after := _, guard := none }) (v := _) rfl (by kernel_rfl) (by kernel_rfl) (by kernel_rfl) (fun _ _ _ h => h) (by rfl) (by intro w' hSw; go_simp; try with_reducible rfl) HSW.out ?_
        simp only [Act.put, List.setIfInBounds_toArray, List.set_cons_zero, List.set_cons_succ]
        refine heldS_take (i := 9) (oi := { dst := some 33, op := Op.move (Operand.tmp 7), type := 3, pos := _, after := _, guard := none }) (v := _) rfl (by kernel_rfl) (by kernel_rfl) (by kernel_rfl) (fun _ _ _ h => h) (by rfl) (by intro w' hSw; go_simp; try with_reducible rfl) HSW.out ?_
        simp only [Act.put, List.setIfInBounds_toArray, List.set_cons_zero, List.set_cons_succ]
        refine heldS_take (i := 10) (oi := { dst := some 34, op := Op.fieldAddr 91 (Operand.tmp 9) 0, type := 0, pos := _, after := _, guard := none }) (v := _) rfl (by kernel_rfl) (by kernel_rfl) (by kernel_rfl) (fun _ _ _ h => h) (by rfl) (by intro w' hSw; go_simp; try with_reducible rfl) HSW.out ?_
        simp only [Act.put, List.setIfInBounds_toArray, List.set_cons_zero, List.set_cons_succ]
        refine heldS_take (i := 11) (oi := { dst := some 35, op := Op.load 3 (Operand.tmp 34), type := 3, pos := _, after := _, guard := none }) (v := _) rfl (by kernel_rfl) (by kernel_rfl) (by kernel_rfl) (fun _ _ _ h => h) (by rfl) (by intro w' hSw; obtain ⟨r0, r1, r2⟩ := cellsq hSw; go_simp; try with_reducible rfl) HSW.out ?_
        simp only [Act.put, List.setIfInBounds_toArray, List.set_cons_zero, List.set_cons_succ]
        refine heldS_take (i := 12) (oi := { dst := some 36, op := Op.binOp BinOp.add 3 (Operand.tmp 33) (Operand.tmp 35) 3, type := 3, pos := _, after := _, guard := none }) (v := _) rfl (by kernel_rfl) (by kernel_rfl) (by kernel_rfl) (fun _ _ _ h => h) (by rfl) (by intro w' hSw; go_simp; try with_reducible rfl) HSW.out ?_
        simp only [Act.put, List.setIfInBounds_toArray, List.set_cons_zero, List.set_cons_succ]
        refine heldS_take (i := 13) (oi := { dst := some 37, op := Op.move (Operand.tmp 7), type := 3, pos := _, after := _, guard := none }) (v := _) rfl (by kernel_rfl) (by kernel_rfl) (by kernel_rfl) (fun _ _ _ h => h) (by rfl) (by intro w' hSw; go_simp; try with_reducible rfl) HSW.out ?_
        simp only [Act.put, List.setIfInBounds_toArray, List.set_cons_zero, List.set_cons_succ]
        refine heldS_take (i := 14) (oi := { dst := some 38, op := Op.fieldAddr 91 (Operand.tmp 9) 0, type := 0, pos := _, after := _, guard := none }) (v := _) rfl (by kernel_rfl) (by kernel_rfl) (by kernel_rfl) (fun _ _ _ h => h) (by rfl) (by intro w' hSw; go_simp; try with_reducible rfl) HSW.out ?_
        simp only [Act.put, List.setIfInBounds_toArray, List.set_cons_zero, List.set_cons_succ]
        refine heldS_take (i := 15) (oi := { dst := some 39, op := Op.load 3 (Operand.tmp 38), type := 3, pos := _, after := _, guard := none }) (v := _) rfl (by kernel_rfl) (by kernel_rfl) (by kernel_rfl) (fun _ _ _ h => h) (by rfl) (by intro w' hSw; obtain ⟨r0, r1, r2⟩ := cellsq hSw; go_simp; try with_reducible rfl) HSW.out ?_
        simp only [Act.put, List.setIfInBounds_toArray, List.set_cons_zero, List.set_cons_succ]
        refine heldS_take (i := 16) (oi := { dst := some 40, op := Op.binOp BinOp.add 3 (Operand.tmp 37) (Operand.tmp 39) 3, type := 3, pos := _, after := _, guard := none }) (v := _) rfl (by kernel_rfl) (by kernel_rfl) (by kernel_rfl) (fun _ _ _ h => h) (by rfl) (by intro w' hSw; go_simp; try with_reducible rfl) HSW.out ?_
        simp only [Act.put, List.setIfInBounds_toArray, List.set_cons_zero, List.set_cons_succ]
        refine heldS_take (i := 17) (oi := { dst := some 41, op := Op.fieldAddr 91 (Operand.tmp 9) 2, type := 0, pos := _, after := _, guard := none }) (v := _) rfl (by kernel_rfl) (by kernel_rfl) (by kernel_rfl) (fun _ _ _ h => h) (by rfl) (by intro w' hSw; go_simp; try with_reducible rfl) HSW.out ?_
        simp only [Act.put, List.setIfInBounds_toArray, List.set_cons_zero, List.set_cons_succ]
        refine heldS_take (i := 18) (oi := { dst := some 42, op := Op.load 3 (Operand.tmp 41), type := 3, pos := _, after := _, guard := none }) (v := _) rfl (by kernel_rfl) (by kernel_rfl) (by kernel_rfl) (fun _ _ _ h => h) (by rfl) (by intro w' hSw; obtain ⟨r0, r1, r2⟩ := cellsq hSw; go_simp; try with_reducible rfl) HSW.out ?_
        simp only [Act.put, List.setIfInBounds_toArray, List.set_cons_zero, List.set_cons_succ]
        refine heldS_take (i := 19) (oi := { dst := some 43, op := Op.binOp BinOp.add 3 (Operand.tmp 40) (Operand.tmp 42) 3, type := 3, pos := _, after := _, guard := none }) (v := _) rfl (by kernel_rfl) (by kernel_rfl) (by kernel_rfl) (fun _ _ _ h => h) (by rfl) (by intro w' hSw; go_simp; try with_reducible rfl) HSW.out ?_
        simp only [Act.put, List.setIfInBounds_toArray, List.set_cons_zero, List.set_cons_succ]
        refine heldS_take (i := 20) (oi := { dst := some 44, op := Op.slice 9 (Operand.tmp 32) (some (Operand.tmp 36)) (some (Operand.tmp 43)) none, type := 9, pos := _, after := _, guard := none }) (v := _) rfl (by kernel_rfl) (by kernel_rfl) (by kernel_rfl) (fun _ _ _ h => h) (by rfl) (by intro w' hSw; have b1 : (iN : Int) + (kN : Int) + (dN : Int) ≤ (s.size : Int) := (by omega); have b2 : 0 ≤ (iN : Int) + (kN : Int) + (dN : Int) := (by omega); have b3 : (iN : Int) + (kN : Int) ≤ (iN : Int) + (kN : Int) + (dN : Int) := (by omega); have b4 : ((iN : Int) + (kN : Int) + (dN : Int)).toNat = iN + kN + dN := (by omega); have b5 : ((iN : Int) + (kN : Int)).toNat = iN + kN := (by omega); have b6 : 0 ≤ (iN : Int) + (kN : Int) := (by omega); go_simp; try with_reducible rfl) HSW.out ?_
        simp only [Act.put, List.setIfInBounds_toArray, List.set_cons_zero, List.set_cons_succ]
        refine heldS_take (i := 21) (oi := { dst := some 45, op := Op.build 91 #[(1, Operand.tmp 44)], type := 91, pos := _, after := _, guard := none }) (v := _) rfl (by kernel_rfl) (by kernel_rfl) (by kernel_rfl) (fun _ _ _ h => h) (by rfl) (by intro w' hSw; go_simp; try with_reducible rfl) HSW.out ?_
        simp only [Act.put, List.setIfInBounds_toArray, List.set_cons_zero, List.set_cons_succ]
        refine heldS_step (i := 22) (o := { dst := some 46, op := Op.buildSlice 77 3 #[(0, Operand.tmp 27), (1, Operand.tmp 31), (2, Operand.tmp 45)], type := 77, pos := _, after := _, guard := none }) (by kernel_rfl) rfl (by rfl) HSW.out (fun K hK => ?_)
        refine oper_value (build_at3 rfl rfl rfl rfl) ?_
        have HNEW : Hid (∀ i u, (cellsR (backr1 s iN ⟨(kN : Int), xa, (dN : Int)⟩))[i]? = some u → ((wr.alloc (.cells #[.int .i64 (kN : Int), .string xa, .int .i64 (dN : Int)] 91)).drew.alloc (.cells #[.int .i64 (kN : Int), .string ⟨#[]⟩, .int .i64 0, .int .i64 0, .string ⟨#[]⟩, .int .i64 (xa.size : Int), .int .i64 0, .string (s.extract (iN + kN) (iN + kN + dN)), .int .i64 0] 91)).cell? ((⟨((wr.alloc (.cells #[.int .i64 (kN : Int), .string xa, .int .i64 (dN : Int)] 91)).drew).heap.size, 0, none⟩ : Addr).add i) = some u) := hide fun i u hu => World.news_of_block (cs := #[.int .i64 (kN : Int), .string ⟨#[]⟩, .int .i64 0, .int .i64 0, .string ⟨#[]⟩, .int .i64 (xa.size : Int), .int .i64 0, .string (s.extract (iN + kN) (iN + kN + dN)), .int .i64 0]) (World.alloc_heap_new (wr.alloc (.cells #[.int .i64 (kN : Int), .string xa, .int .i64 (dN : Int)] 91)).drew _) i u hu
        replace HSW := hide ((Below.heap_alloc (wr.alloc (.cells #[.int .i64 (kN : Int), .string xa, .int .i64 (dN : Int)] 91)).drew (.cells #[.int .i64 (kN : Int), .string ⟨#[]⟩, .int .i64 0, .int .i64 0, .string ⟨#[]⟩, .int .i64 (xa.size : Int), .int .i64 0, .string (s.extract (iN + kN) (iN + kN + dN)), .int .i64 0] 91) _ (lt_of_heap HSW.out)).trans HSW.out)
        refine hK.out _ _ ?_
        clear hK K
        try simp only [Act.put, List.setIfInBounds_toArray, List.set_cons_zero, List.set_cons_succ]
        refine heldS_step (i := 23) (o := { dst := some 47, op := Op.call { callee := Callee.builtin Builtin.append, args := #[Operand.tmp 24, Operand.tmp 46], argTypes := #[77, 77] }, type := 77, pos := _, after := _, guard := none }) (by kernel_rfl) rfl (by rfl) HSW.out (fun K hK => ?_)
        refine wp_append_lies _ (.tmp 24) (.tmp 46) 77 rfl w.heap.size 91 i0 (.agg #[.int .i64 0, .string ⟨#[]⟩, .int .i64 0]) 3 32 Try.underlying77 hi hz0 hz1 hz2 rfl (by decide) (.slice ua un uc) P.length (cellsR P) rfl HOW.out ⟨((wr.alloc (.cells #[.int .i64 (kN : Int), .string xa, .int .i64 (dN : Int)] 91)).drew).heap.size, 0, none⟩ 3 3 (cellsR (backr1 s iN ⟨(kN : Int), xa, (dN : Int)⟩)) rfl (by rfl) HNEW.out (oneCellR _) (by decide) (by have := HM.out; unfold maxLen; omega) (by have := HM.out; omega) HLE.out _ rfl ?_
        intro gg c1 WA hr hgr hat hltA
        have hqv : (Value.slice ua un uc).ownBlock ≠ some wr.heap.size := HQV.out
        replace HSW := hide ((hgr.block _ (lt_of_heap HSW.out) (fun e => hqv e.symm)).trans HSW.out)
        have HR := hide hr
        have HGR := hide hgr
        clear hr hgr hat hltA hqv
        refine hK.out _ _ ?_
        clear hK K
        try simp only [Act.put, List.setIfInBounds_toArray, List.set_cons_zero, List.set_cons_succ]
        refine heldS_take (i := 24) (oi := { dst := some 6, op := Op.assign (Operand.tmp 47), type := 77, pos := _, after := _, guard := none }) (v := _) rfl (by kernel_rfl) (by kernel_rfl) (by kernel_rfl) (fun _ _ _ h => h) (by rfl) (by intro w' hSw; go_simp; try with_reducible rfl) HSW.out ?_
        simp only [Act.put, List.setIfInBounds_toArray, List.set_cons_zero, List.set_cons_succ]
        refine heldS_done (by kernel_rfl) HSW.out ?_
        obtain ⟨r0, r1, r2⟩ := cellsq HSW.out
        go_wp2_with fail
        go_roundw
        case rel =>
          have hbl := below_drew (HI.out.2.alloc HI.out.2.size (.cells #[.int .i64 (kN : Int), .string xa, .int .i64 (dN : Int)] 91))
          have hbl2 := hbl.alloc hbl.size (.cells #[.int .i64 (kN : Int), .string ⟨#[]⟩, .int .i64 0, .int .i64 0, .string ⟨#[]⟩, .int .i64 (xa.size : Int), .int .i64 0, .string (s.extract (iN + kN) (iN + kN + dN)), .int .i64 0] 91)
          refine ⟨k + 1, by omega, by go_num, by rw [HSN.out]; congr 1; push_cast; omega, hide ⟨?_, hbl2.trans ((Only.grown (S := fun k => (Value.slice ua un uc).ownBlock = some k) HGR.out fun k hk => hk).below HLE.out fun k hk => (HOR.out.lt hk).1)⟩⟩
          show World.ownsRow _ _ _ _ _ _ _
          rw [HPE.out, cellsR_append, List.length_append]
          exact HR.out
        case measure => simp [intOf]; omega
      · obtain rfl : k = rs.length := by omega
        rw [List.take_length] at HI
        obtain ⟨_, _, e⟩ := HI.out.1.form
        cases e
        have HN : Hid (Calls Try.prog 61 #[.slice ua (backQ s rs 0).length uc] wr fun e W' => Gives wr.heap.size wr (backR s rs) e W') := hide (by
          have h := rnorm_any ua uc (backQ s rs 0) wr HI.out.1.came (by rw [len_backQ]; omega)
          rwa [HBQ.out] at h)
        go_wp2_with (go_at_call 61; refine HN.out.mono ?_; rintro e W3 ⟨a3, c3, rfl, hc, hb⟩; have HC := hide hc; have HB := hide hb; clear hc hb)
        go_ret2
        rw [HA.out.1, HA.out.2]
        exact ⟨a3, c3, rfl, HC.out, HI.out.2.trans (HB.out.mono HI.out.2.size)⟩

end Go.Proofs.Ytpmijaplkbmbiaa.E
