/- An edit, done: the document's way. -/
import Derived.Test.YtpmijaplkbmbiaaU9
namespace Go.Proofs.Ytpmijaplkbmbiaa.E
open Go.Proofs.Ytpmijaplkbmbiaa Go.RowKit Go.By Go.Shelf
set_option linter.unusedVariables false
set_option linter.unusedSimpArgs false

theorem add_keep (s : ByteArray) (x : Rn) (i : Nat) (h : kind x ≠ 0) : x.add ++ s.extract i (i + x.keep.toNat) = s.extract i (i + x.keep.toNat) ++ x.add := by
  rcases kind_cases h with ⟨n, hn, rfl⟩ | ⟨a, ha, rfl⟩ | ⟨n, hn, rfl⟩
  · apply ba_eq
    simp [rK]
  · have e : s.extract i (i + (rA a).keep.toNat) = ⟨#[]⟩ := by apply ba_eq; rw [ext_list]; simp [rA]
    rw [e]
    apply ba_eq
    simp
  · have e : s.extract i (i + (rD n).keep.toNat) = ⟨#[]⟩ := by apply ba_eq; rw [ext_list]; simp [rD]
    rw [e]
    apply ba_eq
    simp [rD]

set_option maxRecDepth 100000 in
set_option maxHeartbeats 8000000 in
theorem rapply_any (a : Option Addr) (cap : Nat) (rs : List Rn) (s : ByteArray) (w : World) (hS : CameR w.heap.size w a rs) (hl : rs.length ≤ 1000000) :
    Calls Try.prog 71 #[.slice a rs.length cap, .string s] w fun e W' => e = .returned (applyV rs s) ∧ Below w.heap.size w W' := by
  have hfit := rfits_any a cap rs s w hS hl
  have HS := hide hS
  clear hS
  go_enter Try.func71, Try.ntmps71
  cases hf : fitsR rs (s.size : Int) with
  | false =>
    rw [hf] at hfit
    have HA : Hid (applyV rs s = .tuple #[.string ⟨#[]⟩, .int .i64 60]) := hide (by rw [applyV, hf]; rfl)
    clear hf
    go_wp2_with (go_at_call 75; refine hfit.mono ?_; rintro e W1 ⟨rfl, hb⟩; have HB1 := hide hb; clear hb)
    go_ret2
    rw [HA.out]
    exact ⟨rfl, HB1.out⟩
  | true =>
    rw [hf] at hfit
    obtain ⟨f1, f2, f3, f4, f5, f6⟩ := fits_facts hf
    have HA : Hid (applyV rs s = .tuple #[.string (outB s rs), .int .i64 0]) := hide (by rw [applyV, if_pos hf])
    have HF := hide (And.intro f1 (And.intro f2 (And.intro f3 f4)))
    have hkinds := good_kinds f1
    obtain ⟨e1, e2⟩ := sums_tok hkinds
    have HIN : Hid (sI rs = (s.size : Int)) := hide (by rw [e1]; exact f2)
    have HSI : Hid (sI rs ≤ 16777216 ∧ sO rs ≤ 16777216) := hide (by rw [e1, e2]; omega)
    have HKI := hide hkinds
    clear f1 f2 f3 f4 f5 f6 hf hkinds e1 e2
    go_wp2_with (go_at_call 75; refine hfit.mono ?_; rintro e W1 ⟨rfl, hb⟩; have HB1 := hide hb; clear hb)
    go_loopw [6, 7, 8] (fun o p i wr => ∃ k : Nat, k ≤ rs.length ∧ i = .int .i64 (k : Int) ∧ p = .int .i64 ((tIn (expand (rs.take k)) : Nat) : Int) ∧ o = .string (outB s (rs.take k)) ∧ Hid (Below w.heap.size w wr)) (fun _ _ i _ => rs.length - (intOf i).toNat)
    case atStart => exact ⟨0, Nat.zero_le _, rfl, rfl, by rw [List.take_zero, outB_nil], HB1⟩
    case round =>
      obtain ⟨k, hk, rfl, rfl, rfl, HB⟩ := hrel
      by_cases hlt : k < rs.length
      · have hlt' : (k : Int) < (rs.length : Int) := by omega
        obtain ⟨b, off, rfl, s0, s1, s2⟩ := came_at (HS.out.below HB.out) hlt
        have hkx : kind (rs.getD k rn0) ≠ 0 := HKI.out _ (by simp [List.getD, hlt])
        have hsn : rs.take (k + 1) = rs.take k ++ [rs.getD k rn0] := by rw [List.take_succ_eq_append_getElem hlt]; simp [List.getD, hlt]
        have st := sums_take HKI.out (k + 1)
        have tk := sums_tok (rs := rs.take k) fun y hy => HKI.out y (List.mem_of_mem_take hy)
        have tk1 := sums_tok (rs := rs.take (k + 1)) fun y hy => HKI.out y (List.mem_of_mem_take hy)
        have eI : sI (rs.take (k + 1)) = sI (rs.take k) + ((rs.getD k rn0).keep + (rs.getD k rn0).drop) := by rw [hsn, sI_snoc]
        have eO : sO (rs.take (k + 1)) = sO (rs.take k) + ((rs.getD k rn0).keep + ((rs.getD k rn0).add.size : Int)) := by rw [hsn, sO_snoc]
        have hob := outB_snoc s (rs.take k) _ hkx
        have hak := add_keep s (rs.getD k rn0) (tIn (expand (rs.take k))) hkx
        rw [← hsn] at hob
        rw [ByteArray.append_assoc, ← hak, ← ByteArray.append_assoc] at hob
        obtain ⟨kf1, kf2, _, _⟩ := kind_facts hkx
        have hin := HIN.out
        have hsz := outB_size (s := s) (rs := rs.take k) (by have h1 := st.1.2; omega)
        rw [tk1.1, tk.1] at eI
        rw [tk1.2, tk.2] at eO
        rw [tk1.1, tk1.2] at st
        generalize rs.getD k rn0 = x at *
        obtain ⟨xk, xa, xd⟩ := x
        dsimp only at s0 s1 s2 kf1 kf2 eI eO hob
        obtain ⟨kN, rfl⟩ := Int.eq_ofNat_of_zero_le kf1
        obtain ⟨dN, rfl⟩ := Int.eq_ofNat_of_zero_le kf2
        have HSN : Hid (tIn (expand (rs.take (k + 1))) = tIn (expand (rs.take k)) + (kN + dN)) := hide (by omega)
        have hb2 := HSI.out
        have hbound : tIn (expand (rs.take k)) + kN + dN ≤ s.size ∧ tOut (expand (rs.take k)) + kN + xa.size ≤ 16777216 ∧ s.size ≤ 16777216 := by omega
        generalize hiN : tIn (expand (rs.take k)) = iN at *
        generalize hO : outB s (rs.take k) = O at *
        have hos : O.size ≤ 16777216 ∧ O.size + xa.size ≤ 16777216 ∧ O.size + xa.size + kN ≤ 16777216 := by omega
        rw [Int.toNat_natCast] at hob
        have HOB := hide hob
        have w1 : IntKind.i64.wrap ((iN : Int) + (kN : Int)) = (iN : Int) + (kN : Int) := by rw [IntKind.wrap_i64]; omega
        have w2 : IntKind.i64.wrap ((iN : Int) + (kN : Int) + (dN : Int)) = (iN : Int) + (kN : Int) + (dN : Int) := by rw [IntKind.wrap_i64]; omega
        have w6 : IntKind.i64.wrap ((k : Int) + 1) = (k : Int) + 1 := by rw [IntKind.wrap_i64]; omega
        have b1 : (iN : Int) + (kN : Int) ≤ (s.size : Int) := by omega
        have b2 : (0 : Int) ≤ (iN : Int) + (kN : Int) := by omega
        have b3 : (iN : Int) ≤ (iN : Int) + (kN : Int) := by omega
        have b4 : ((iN : Int) + (kN : Int)).toNat = iN + kN := by omega
        have l1 : ¬ 9223372036854775807 < O.size + xa.size := by omega
        have l2 : ¬ 9223372036854775807 < O.size + xa.size + kN := by omega
        have l3 : (s.extract iN (iN + kN)).size = kN := by rw [ByteArray.size_extract]; omega
        have y := cellsq (World.alloc_heap_new wr (.cells #[.int .i64 (kN : Int), .string xa, .int .i64 (dN : Int)] 91))
        obtain ⟨y0, y1, y2⟩ := y
        clear hkx hsn st tk tk1 eI eO hob hak hsz hin hb2 hbound hos hiN hO kf1 kf2
        go_wp2_with fail
        go_quiet (fail)
        go_wp2_with fail
        have hb := HB.out.alloc HB.out.size (.cells #[.int .i64 (kN : Int), .string xa, .int .i64 (dN : Int)] 91)
        exact ⟨⟨k + 1, by omega, by go_num, by rw [HSN.out]; congr 1; push_cast; omega, by rw [HOB.out], hide (below_drewN hb _)⟩, by simp [intOf]; omega⟩
      · obtain rfl : k = rs.length := by omega
        rw [List.take_length]
        go_wp2
        go_ret2
        rw [HA.out]
        exact ⟨rfl, HB.out⟩

end Go.Proofs.Ytpmijaplkbmbiaa.E
