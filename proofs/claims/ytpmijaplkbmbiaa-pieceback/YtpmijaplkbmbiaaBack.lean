/- PieceBack. -/
import Derived.Test.YtpmijaplkbmbiaaDraw
namespace Go.Proofs.Ytpmijaplkbmbiaa
open Go.RowKit Go.By Go.Shelf
set_option linter.unusedVariables false

/-- A buffer some steps on, and how long its text may be. -/
def B2 (w wr : World) (g k : Nat) (ps : List ByteArray) : Prop := BI w wr g k ps ∧ tot ps ≤ 2000 + 500 * k

theorem B2.below {w wr wr' : World} {g k : Nat} {ps : List ByteArray} (h : B2 w wr g k ps) (hb : Below wr.heap.size wr wr') : B2 w wr' g k ps := ⟨h.1.below hb, h.2⟩

theorem insert_b2 {w wr : World} {g k : Nat} {ps : List ByteArray} (h : B2 w wr g k ps) (hk : k ≤ 1000) (at_ : Int) (s : ByteArray) (hs : s.size ≤ 500) :
    Calls Try.prog 30 #[.pointer (some ⟨g, 0, none⟩), .int .i64 at_, .string s] wr fun e W' => ∃ r ps', e = .returned (.int .i64 r) ∧ B2 w W' g (k + 1) ps' := by
  obtain ⟨h, ht⟩ := h
  obtain ⟨sv, h1⟩ := h.1
  refine (insert_solo s at_ h.2.2.1 h1 (by have := h.2.2.2; omega) (by omega)).mono ?_
  rintro e w1 ⟨r, rfl, (⟨q1, q2, _, rfl, hst⟩ | ⟨hn, _, rfl⟩ | ⟨_, _, hn, _, rfl⟩)⟩
  · have e := tot_chgAt (ps := ps) (n := at_.toNat) (k := 0) s (by omega)
    exact ⟨_, _, rfl, h.step hst (len_chgAt s (by omega)), by omega⟩
  · exact ⟨_, _, rfl, h.more, by omega⟩
  · exact ⟨_, _, rfl, h.more, by omega⟩

theorem delete_b2 {w wr : World} {g k : Nat} {ps : List ByteArray} (h : B2 w wr g k ps) (hk : k ≤ 1000) (at_ many : Int) (ha : IntOk at_) :
    Calls Try.prog 29 #[.pointer (some ⟨g, 0, none⟩), .int .i64 at_, .int .i64 many] wr fun e W' => ∃ r ps', e = .returned (.int .i64 r) ∧ B2 w W' g (k + 1) ps' := by
  obtain ⟨h, ht⟩ := h
  obtain ⟨sv, h1⟩ := h.1
  refine (delete_solo at_ many h.2.2.1 h1 (by have := h.2.2.2; omega) ha).mono ?_
  rintro e w1 ⟨r, rfl, (⟨q1, q2, q3, rfl, hst⟩ | ⟨hn, _, rfl⟩)⟩
  · have e : tot (chgAt ps at_.toNat many.toNat ⟨#[]⟩) = tot ps - many.toNat + 0 := tot_chgAt (ps := ps) (n := at_.toNat) (k := many.toNat) ⟨#[]⟩ (by omega)
    exact ⟨_, _, rfl, h.step hst (len_chgAt _ (by omega)), by omega⟩
  · exact ⟨_, _, rfl, h.more, by omega⟩

theorem tot_mid (s : ByteArray) : tot (mid' s) = s.size := by
  unfold mid'; split
  · rename_i h; simp [tot, h]
  · simp [tot]

theorem data_str (ps : List ByteArray) : (str ps).data.toList = text ps := by simp [str]

theorem str_ins (ps : List ByteArray) (n : Nat) (x : ByteArray) (h : n ≤ tot ps) : str (chgAt ps n 0 x) = ((str ps).extract 0 n ++ x) ++ (str ps).extract n (str ps).size := by
  apply ByteArray.ext
  apply Array.toList_inj.1
  have e1 := extract_list (str ps) 0 n
  rw [Nat.min_eq_left (by rw [size_str]; exact h)] at e1
  have e2 := extract_list (str ps) n (str ps).size
  rw [Nat.min_self] at e2
  rw [data_str, text_chgAt x (by omega)]
  simp only [ByteArray.data_append, Array.toList_append]
  have e3 : (text ps).take (str ps).size = text ps := List.take_of_length_le (by rw [length_text, size_str]; exact Nat.le_refl _)
  rw [e1, e2, data_str, e3, Nat.add_zero]
  simp [List.append_assoc]

theorem str_back (ps : List ByteArray) (n : Nat) (x : ByteArray) (h : n ≤ tot ps) : str (chgAt (chgAt ps n 0 x) n x.size ⟨#[]⟩) = str ps := by
  have ht := tot_chgAt (k := 0) x (show n + 0 ≤ tot ps by omega)
  unfold str
  congr 2
  rw [text_chgAt _ (by omega), text_chgAt x (by omega)]
  have hl : ((text ps).take n).length = n := by rw [List.length_take, length_text]; omega
  rw [List.take_left' hl]
  have e : n + x.size = ((text ps).take n ++ x.data.toList).length := by rw [List.length_append, hl, Array.length_toList]; rfl
  rw [← List.append_assoc ((text ps).take n) x.data.toList, e, List.drop_left' rfl]
  simp

theorem rem_at (f : Int) (N : Nat) (hN : N ≤ 16777216) : ∃ n : Nat, wrap64 ((IntKind.u64.wrap f).tmod ((N : Int) + 1)) = (n : Int) ∧ n ≤ N := by
  have h0 := wrap_u64_nonneg f
  generalize IntKind.u64.wrap f = u at *
  obtain ⟨m, rfl⟩ : ∃ m : Nat, u = m := ⟨u.toNat, by omega⟩
  have e : ((m : Int).tmod ((N : Int) + 1)) = ((m % (N + 1) : Nat) : Int) := by
    rw [Int.tmod_eq_emod_of_nonneg (by omega)]; simp
  have hlt := Nat.mod_lt m (show 0 < N + 1 by omega)
  refine ⟨m % (N + 1), ?_, by omega⟩
  rw [e]
  generalize m % (N + 1) = r at *
  unfold wrap64
  omega

set_option maxRecDepth 20000 in
set_option maxHeartbeats 4000000 in
theorem back_go (s0 : ByteArray) (a : Option Addr) (ss : List Stp) (cap : Nat) (f : Int) (x : ByteArray) (w : World) (hc : CameP w.heap.size w a ss) (hok : ∀ i, IntOk (ss.getD i stp0).at_) (hmx : ∀ i, (ss.getD i stp0).s.size ≤ 9223372036854775807) (hL : Light ss) (h2000 : s0.size ≤ 2000) (h500 : x.size ≤ 500) (hf : IntOk f) :
    Calls Try.prog 5 #[.string s0, .slice a ss.length cap, .int .i64 f, .string x] w fun e w' => e = .returned (.bool true) ∧ Below w.heap.size w w' := by
  have hli := light_any a ss cap w hc hmx
  have HC := hide hc
  have HOK := hide hok
  have HL := hide hL
  have hn2 : ¬ (2000 : Int) < (s0.size : Int) := by omega
  have hn5 : ¬ (500 : Int) < (x.size : Int) := by omega
  have HF := hide hf
  have H2 := hide h2000
  clear hc hok hmx hL hf
  go_enter Try.func5, Try.ntmps5
  go_wp2_with fail
  refine hli.mono ?_
  rintro e w1 ⟨hb1, (⟨_, rfl⟩ | ⟨hn, _⟩)⟩
  · have HB1 := hide hb1
    clear hli hb1
    go_wp2_with fail
    refine (new_buf s0 w1 (by have := H2.out; omega)).mono ?_
    rintro e w2 ⟨rfl, hnb⟩
    have hgl : w.heap.size ≤ w1.heap.size := HB1.out.size
    have HI0 : Hid (B2 w1 w2 w1.heap.size 0 (mid' s0)) := by
      obtain ⟨sv, h1, h2⟩ := hnb
      exact ⟨⟨⟨sv, h1⟩, h2, h2.size, by unfold mid'; split <;> simp⟩, by rw [tot_mid]; have := H2.out; omega⟩
    clear hnb
    generalize hg : w1.heap.size = g at HI0 hgl ⊢
    have HG := hide hg
    clear hg
    go_wp2_with fail
    go_loopw [42] (fun iv wr => ∃ (k : Nat) (ps : List ByteArray), iv = .int .i64 (k : Int) ∧ k ≤ ss.length ∧ Hid (B2 w1 wr g k ps)) (fun iv _ => ss.length - (intOf iv).toNat)
    case atStart => exact ⟨0, _, rfl, Nat.zero_le _, HI0⟩
    case round =>
      obtain ⟨k, ps, rfl, hk, HI⟩ := hrel
      have h100 : k ≤ 100 := by have := HL.out.1; omega
      by_cases hlt : k < ss.length
      · have hcp := HC.out.below (HB1.out.trans (HI.out.1.2.1.mono hgl))
        obtain ⟨b, off, rfl, hbl, s0, s1, s2, s3⟩ := hcp.get hlt
        have hat := HOK.out k
        have h5 := HL.out.2 k hlt
        obtain ⟨⟨dl, at_, mn, s⟩, hkd⟩ : ∃ t, t = ss.getD k stp0 := ⟨_, rfl⟩
        rw [← hkd] at s0 s1 s2 s3 hat h5
        replace s0 : wr.cell? ⟨b, off + k * 4, none⟩ = some (.bool dl) := s0
        replace s1 : wr.cell? ⟨b, off + k * 4 + 1, none⟩ = some (.int .i64 at_) := s1
        replace s2 : wr.cell? ⟨b, off + k * 4 + 2, none⟩ = some (.int .i64 mn) := s2
        replace s3 : wr.cell? ⟨b, off + k * 4 + 3, none⟩ = some (.string s) := s3
        replace hat : IntOk at_ := hat
        replace h5 : s.size ≤ 500 := h5
        have hlt' : (k : Int) < (ss.length : Int) := by omega
        have HAT := hide hat
        have H5 := hide h5
        clear hkd hat h5 hcp
        cases dl with
        | true =>
          go_wp2_with (go_at_call 29; refine (delete_b2 (HI.out.below ((Below.refl _ _).alloc (Nat.le_refl _) _)) (by omega) at_ mn HAT.out).mono ?_; rintro e w3 ⟨r, ps', rfl, hbi⟩; have HI3 := hide hbi; clear hbi)
          go_roundw
          case rel => exact ⟨k + 1, ps', by go_num, by omega, HI3⟩
          case measure => simp [intOf]; omega
        | false =>
          go_wp2_with (go_at_call 30; refine (insert_b2 (HI.out.below ((Below.refl _ _).alloc (Nat.le_refl _) _)) (by omega) at_ s H5.out).mono ?_; rintro e w3 ⟨r, ps', rfl, hbi⟩; have HI3 := hide hbi; clear hbi)
          go_roundw
          case rel => exact ⟨k + 1, ps', by go_num, by omega, HI3⟩
          case measure => simp [intOf]; omega
      · obtain rfl : k = ss.length := by omega
        have hpl : ps.length ≤ 1000000 := by have := HI.out.1.2.2.2; omega
        obtain ⟨sv, hbf⟩ := HI.out.1.1
        have HBF := hide hbf
        have hsmall := hbf.small
        clear hbf HI0 HC HOK
        go_wp2_with fail
        refine (text_buf HBF.out hpl).mono ?_
        rintro e w4 ⟨rfl, hb4⟩
        have HBF4 := hide (HBF.out.below hb4)
        have HB4 := hide (HI.out.1.2.1.trans (hb4.mono HI.out.1.2.2.1))
        have hg4 : g ≤ w4.heap.size := Nat.le_trans HI.out.1.2.2.1 hb4.size
        clear hb4 HBF
        have HBFd : Hid (BufIs w4.drew g g sv false ps) := hide ⟨HBF4.out.hB, HBF4.out.blk, HBF4.out.row, HBF4.out.small, HBF4.out.full⟩
        have HBd := hide HB4.out.drew
        have hgd : g ≤ w4.drew.heap.size := hg4
        clear HBF4 HB4
        have HSZ := hide (size_str ps)
        have hT : (str ps).size ≤ 16777216 := by rw [size_str]; exact hsmall
        have htb : tot ps ≤ 52000 := by have := HI.out.2; omega
        have hpl2 : ps.length ≤ 301 := by have := HI.out.1.2.2.2; omega
        obtain ⟨n, hn, hnT⟩ := rem_at f (str ps).size hT
        have hnt : n ≤ tot ps := by rw [size_str] at hnT; exact hnT
        have HS1 := hide (str_ins ps n x hnt)
        have HS2 := hide (str_back ps n x hnt)
        have HN := hide hn
        have hins : Calls Try.prog 30 #[.pointer (some ⟨g, 0, none⟩), .int .i64 (n : Int), .string x] w4.drew fun e w5 => e = .returned (.int .i64 0) ∧ Stepped g g (chgAt ps n 0 x) w4.drew w5 := by
          refine (insert_solo x n hgd HBFd.out (by omega) (by omega)).mono ?_
          rintro e w5 ⟨r, rfl, (⟨q1, q2, _, rfl, hst⟩ | ⟨hn, _, _⟩ | ⟨_, _, hn, _, _⟩)⟩
          · exact ⟨rfl, by simpa using hst⟩
          · omega
          · omega
        have hl1 := len_chgAt (k := 0) x (show n + 0 ≤ tot ps by omega)
        have ht1 := tot_chgAt (k := 0) x (show n + 0 ≤ tot ps by omega)
        have hl2 := len_chgAt (ps := chgAt ps n 0 x) (n := n) (k := x.size) ⟨#[]⟩ (by omega)
        have htx : ∀ w5, Stepped g g (chgAt ps n 0 x) w4.drew w5 → Calls Try.prog 31 #[.pointer (some ⟨g, 0, none⟩)] w5 fun e w6 => e = .returned (.string (((str ps).extract 0 n ++ x) ++ (str ps).extract n (str ps).size)) ∧ Stepped g g (chgAt ps n 0 x) w4.drew w6 := by
          rintro w5 ⟨sv5, h5, b5⟩
          refine (text_buf h5 (by omega)).mono ?_
          rintro e w6 ⟨rfl, b6⟩
          exact ⟨by rw [HS1.out], sv5, h5.below b6, b5.trans (b6.mono (Nat.le_trans hgd b5.size))⟩
        have hde : ∀ w6, Stepped g g (chgAt ps n 0 x) w4.drew w6 → Calls Try.prog 29 #[.pointer (some ⟨g, 0, none⟩), .int .i64 (n : Int), .int .i64 (x.size : Int)] w6 fun e w7 => e = .returned (.int .i64 0) ∧ Stepped g g (chgAt (chgAt ps n 0 x) n x.size ⟨#[]⟩) w4.drew w7 := by
          rintro w6 ⟨sv6, h6, b6⟩
          refine (delete_solo n x.size (Nat.le_trans hgd b6.size) h6 (by omega) (by rw [IntKind.wrap_i64]; omega)).mono ?_
          rintro e w7 ⟨r, rfl, (⟨q1, q2, q3, rfl, hst⟩ | ⟨hn, _, _⟩)⟩
          · obtain ⟨sv7, h7, b7⟩ := hst
            exact ⟨rfl, sv7, by simpa using h7, b6.trans b7⟩
          · omega
        have hfi : ∀ w7, Stepped g g (chgAt (chgAt ps n 0 x) n x.size ⟨#[]⟩) w4.drew w7 → Calls Try.prog 31 #[.pointer (some ⟨g, 0, none⟩)] w7 fun e w8 => e = .returned (.string (str ps)) ∧ Below g w4.drew w8 ∧ g ≤ w8.heap.size := by
          rintro w7 ⟨sv7, h7, b7⟩
          refine (text_buf h7 (by omega)).mono ?_
          rintro e w8 ⟨rfl, b8⟩
          exact ⟨by rw [HS2.out], b7.trans (b8.mono (Nat.le_trans hgd b7.size)), Nat.le_trans hgd (Nat.le_trans b7.size b8.size)⟩
        have HINS := hide hins
        have HTX := hide htx
        have HDE := hide hde
        have HFI := hide hfi
        clear hn hins htx hde hfi hl1 ht1 hl2
        generalize str ps = T at *
        go_wp2_with fail
        rw [HN.out]
        refine free_start (by kernel_rfl) ?_
        refine free_take (i := 0) (oi := { dst := some 71, op := Op.move (Operand.tmp 9), type := 25, pos := _, after := _, guard := none }) (v := _) rfl (by kernel_rfl) (by kernel_rfl) (by kernel_rfl) (fun _ _ _ h => h) (by rfl) (by intro w'; go_simp; try with_reducible rfl) ?_
        simp only [Act.put, List.setIfInBounds_toArray, List.set_cons_zero, List.set_cons_succ]
        refine free_take (i := 1) (oi := { dst := some 72, op := Op.move (Operand.tmp 14), type := 3, pos := _, after := _, guard := none }) (v := _) rfl (by kernel_rfl) (by kernel_rfl) (by kernel_rfl) (fun _ _ _ h => h) (by rfl) (by intro w'; go_simp; try with_reducible rfl) ?_
        simp only [Act.put, List.setIfInBounds_toArray, List.set_cons_zero, List.set_cons_succ]
        refine free_take (i := 2) (oi := { dst := some 73, op := Op.move (Operand.tmp 3), type := 9, pos := _, after := _, guard := none }) (v := _) rfl (by kernel_rfl) (by kernel_rfl) (by kernel_rfl) (fun _ _ _ h => h) (by rfl) (by intro w'; go_simp; try with_reducible rfl) ?_
        simp only [Act.put, List.setIfInBounds_toArray, List.set_cons_zero, List.set_cons_succ]
        refine free_step (i := 3) (o := { dst := some 74, op := Op.call { callee := Callee.value (Operand.func 30), args := #[Operand.tmp 71, Operand.tmp 72, Operand.tmp 73], argTypes := #[25, 3, 9] }, type := 26, pos := _, after := _, guard := none }) (by kernel_rfl) rfl (by rfl) (fun K hK => ?_)
        go_simp
        refine HINS.out.mono ?_
        rintro e w5 ⟨rfl, hst⟩
        have HST := hide hst
        clear hst
        refine hK.out _ _ ?_
        clear hK K
        try simp only [Act.put, List.setIfInBounds_toArray, List.set_cons_zero, List.set_cons_succ]
        refine free_take (i := 4) (oi := { dst := some 75, op := Op.binOp BinOp.neq 26 (Operand.tmp 74) (Operand.const (Value.int IntKind.i64 0)) 26, type := 4, pos := _, after := _, guard := none }) (v := _) rfl (by kernel_rfl) (by kernel_rfl) (by kernel_rfl) (fun _ _ _ h => h) (by rfl) (by intro w'; go_simp; try with_reducible rfl) ?_
        simp only [Act.put, List.setIfInBounds_toArray, List.set_cons_zero, List.set_cons_succ]
        refine free_take (i := 5) (oi := { dst := some 76, op := Op.move (Operand.tmp 75), type := 4, pos := _, after := _, guard := none }) (v := _) rfl (by kernel_rfl) (by kernel_rfl) (by kernel_rfl) (fun _ _ _ h => h) (by rfl) (by intro w'; go_simp; try with_reducible rfl) ?_
        simp only [Act.put, List.setIfInBounds_toArray, List.set_cons_zero, List.set_cons_succ]
        refine free_take (i := 6) (oi := { dst := some 77, op := Op.move (Operand.tmp 9), type := 25, pos := _, after := _, guard := some (5, false) }) (v := _) rfl (by kernel_rfl) (by kernel_rfl) (by kernel_rfl) (fun _ _ _ h => h) (by rfl) (by intro w'; go_simp; try with_reducible rfl) ?_
        simp only [Act.put, List.setIfInBounds_toArray, List.set_cons_zero, List.set_cons_succ]
        refine free_take (i := 8) (oi := { dst := some 79, op := Op.move (Operand.tmp 13), type := 9, pos := _, after := _, guard := some (5, false) }) (v := _) rfl (by kernel_rfl) (by kernel_rfl) (by kernel_rfl) (fun _ _ _ h => h) (by rfl) (by intro w'; go_simp; try with_reducible rfl) ?_
        simp only [Act.put, List.setIfInBounds_toArray, List.set_cons_zero, List.set_cons_succ]
        refine free_take (i := 9) (oi := { dst := some 80, op := Op.move (Operand.tmp 14), type := 3, pos := _, after := _, guard := some (5, false) }) (v := _) rfl (by kernel_rfl) (by kernel_rfl) (by kernel_rfl) (fun _ _ _ h => h) (by rfl) (by intro w'; go_simp; try with_reducible rfl) ?_
        simp only [Act.put, List.setIfInBounds_toArray, List.set_cons_zero, List.set_cons_succ]
        refine free_take (i := 10) (oi := { dst := some 81, op := Op.slice 9 (Operand.tmp 79) none (some (Operand.tmp 80)) none, type := 9, pos := _, after := _, guard := some (5, false) }) (v := _) rfl (by kernel_rfl) (by kernel_rfl) (by kernel_rfl) (fun _ _ _ h => h) (by rfl) (by intro w'; go_simp; try with_reducible rfl) ?_
        simp only [Act.put, List.setIfInBounds_toArray, List.set_cons_zero, List.set_cons_succ]
        refine free_take (i := 11) (oi := { dst := some 82, op := Op.move (Operand.tmp 3), type := 9, pos := _, after := _, guard := some (5, false) }) (v := _) rfl (by kernel_rfl) (by kernel_rfl) (by kernel_rfl) (fun _ _ _ h => h) (by rfl) (by intro w'; go_simp; try with_reducible rfl) ?_
        simp only [Act.put, List.setIfInBounds_toArray, List.set_cons_zero, List.set_cons_succ]
        refine free_take (i := 12) (oi := { dst := some 83, op := Op.binOp BinOp.add 9 (Operand.tmp 81) (Operand.tmp 82) 9, type := 9, pos := _, after := _, guard := some (5, false) }) (v := _) rfl (by kernel_rfl) (by kernel_rfl) (by kernel_rfl) (fun _ _ _ h => h) (by rfl) (by intro w'; have c1 : ¬ 9223372036854775807 < n + x.size := (by omega); go_simp; try with_reducible rfl) ?_
        simp only [Act.put, List.setIfInBounds_toArray, List.set_cons_zero, List.set_cons_succ]
        refine free_take (i := 13) (oi := { dst := some 84, op := Op.move (Operand.tmp 13), type := 9, pos := _, after := _, guard := some (5, false) }) (v := _) rfl (by kernel_rfl) (by kernel_rfl) (by kernel_rfl) (fun _ _ _ h => h) (by rfl) (by intro w'; go_simp; try with_reducible rfl) ?_
        simp only [Act.put, List.setIfInBounds_toArray, List.set_cons_zero, List.set_cons_succ]
        refine free_take (i := 14) (oi := { dst := some 85, op := Op.move (Operand.tmp 14), type := 3, pos := _, after := _, guard := some (5, false) }) (v := _) rfl (by kernel_rfl) (by kernel_rfl) (by kernel_rfl) (fun _ _ _ h => h) (by rfl) (by intro w'; go_simp; try with_reducible rfl) ?_
        simp only [Act.put, List.setIfInBounds_toArray, List.set_cons_zero, List.set_cons_succ]
        refine free_take (i := 15) (oi := { dst := some 86, op := Op.slice 9 (Operand.tmp 84) (some (Operand.tmp 85)) none none, type := 9, pos := _, after := _, guard := some (5, false) }) (v := _) rfl (by kernel_rfl) (by kernel_rfl) (by kernel_rfl) (fun _ _ _ h => h) (by rfl) (by intro w'; go_simp; try with_reducible rfl) ?_
        simp only [Act.put, List.setIfInBounds_toArray, List.set_cons_zero, List.set_cons_succ]
        refine free_take (i := 16) (oi := { dst := some 87, op := Op.binOp BinOp.add 9 (Operand.tmp 83) (Operand.tmp 86) 9, type := 9, pos := _, after := _, guard := some (5, false) }) (v := _) rfl (by kernel_rfl) (by kernel_rfl) (by kernel_rfl) (fun _ _ _ h => h) (by rfl) (by intro w'; have c2 : ¬ 9223372036854775807 < n + x.size + (T.size - n) := (by omega); go_simp; try with_reducible rfl) ?_
        simp only [Act.put, List.setIfInBounds_toArray, List.set_cons_zero, List.set_cons_succ]
        refine free_step (i := 7) (o := { dst := some 78, op := Op.call { callee := Callee.value (Operand.func 31), args := #[Operand.tmp 77], argTypes := #[25] }, type := 9, pos := _, after := _, guard := some (5, false) }) (by kernel_rfl) rfl (by rfl) (fun K hK => ?_)
        go_simp
        refine (HTX.out _ HST.out).mono ?_
        clear HST
        rintro e w6 ⟨rfl, hst⟩
        have HST := hide hst
        clear hst
        refine hK.out _ _ ?_
        clear hK K
        try simp only [Act.put, List.setIfInBounds_toArray, List.set_cons_zero, List.set_cons_succ]
        refine free_take (i := 17) (oi := { dst := some 88, op := Op.binOp BinOp.neq 9 (Operand.tmp 78) (Operand.tmp 87) 9, type := 4, pos := _, after := _, guard := some (5, false) }) (v := _) rfl (by kernel_rfl) (by kernel_rfl) (by kernel_rfl) (fun _ _ _ h => h) (by rfl) (by intro w'; go_simp; try with_reducible rfl) ?_
        simp only [Act.put, List.setIfInBounds_toArray, List.set_cons_zero, List.set_cons_succ]
        refine free_take (i := 18) (oi := { dst := some 89, op := Op.pick (Operand.tmp 76) (Operand.const (Value.bool true)) (Operand.tmp 88), type := 4, pos := _, after := _, guard := none }) (v := _) rfl (by kernel_rfl) (by kernel_rfl) (by kernel_rfl) (fun _ _ _ h => h) (by rfl) (by intro w'; go_simp; try with_reducible rfl) ?_
        simp only [Act.put, List.setIfInBounds_toArray, List.set_cons_zero, List.set_cons_succ]
        refine free_take (i := 19) (oi := { dst := some 90, op := Op.move (Operand.tmp 89), type := 4, pos := _, after := _, guard := none }) (v := _) rfl (by kernel_rfl) (by kernel_rfl) (by kernel_rfl) (fun _ _ _ h => h) (by rfl) (by intro w'; go_simp; try with_reducible rfl) ?_
        simp only [Act.put, List.setIfInBounds_toArray, List.set_cons_zero, List.set_cons_succ]
        refine free_take (i := 20) (oi := { dst := some 91, op := Op.move (Operand.tmp 9), type := 25, pos := _, after := _, guard := some (19, false) }) (v := _) rfl (by kernel_rfl) (by kernel_rfl) (by kernel_rfl) (fun _ _ _ h => h) (by rfl) (by intro w'; go_simp; try with_reducible rfl) ?_
        simp only [Act.put, List.setIfInBounds_toArray, List.set_cons_zero, List.set_cons_succ]
        refine free_take (i := 21) (oi := { dst := some 92, op := Op.move (Operand.tmp 14), type := 3, pos := _, after := _, guard := some (19, false) }) (v := _) rfl (by kernel_rfl) (by kernel_rfl) (by kernel_rfl) (fun _ _ _ h => h) (by rfl) (by intro w'; go_simp; try with_reducible rfl) ?_
        simp only [Act.put, List.setIfInBounds_toArray, List.set_cons_zero, List.set_cons_succ]
        refine free_take (i := 22) (oi := { dst := some 93, op := Op.move (Operand.tmp 3), type := 9, pos := _, after := _, guard := some (19, false) }) (v := _) rfl (by kernel_rfl) (by kernel_rfl) (by kernel_rfl) (fun _ _ _ h => h) (by rfl) (by intro w'; go_simp; try with_reducible rfl) ?_
        simp only [Act.put, List.setIfInBounds_toArray, List.set_cons_zero, List.set_cons_succ]
        refine free_take (i := 23) (oi := { dst := some 94, op := Op.call { callee := Callee.builtin Builtin.len, args := #[Operand.tmp 93], argTypes := #[9] }, type := 3, pos := _, after := _, guard := some (19, false) }) (v := _) rfl (by kernel_rfl) (by kernel_rfl) (by kernel_rfl) (fun _ _ _ h => h) (by rfl) (by intro w'; go_simp; try with_reducible rfl) ?_
        simp only [Act.put, List.setIfInBounds_toArray, List.set_cons_zero, List.set_cons_succ]
        refine free_step (i := 24) (o := { dst := some 95, op := Op.call { callee := Callee.value (Operand.func 29), args := #[Operand.tmp 91, Operand.tmp 92, Operand.tmp 94], argTypes := #[25, 3, 3] }, type := 26, pos := _, after := _, guard := some (19, false) }) (by kernel_rfl) rfl (by rfl) (fun K hK => ?_)
        go_simp
        refine (HDE.out _ HST.out).mono ?_
        clear HST
        rintro e w7 ⟨rfl, hst⟩
        have HST := hide hst
        clear hst
        refine hK.out _ _ ?_
        clear hK K
        try simp only [Act.put, List.setIfInBounds_toArray, List.set_cons_zero, List.set_cons_succ]
        refine free_take (i := 25) (oi := { dst := some 96, op := Op.binOp BinOp.neq 26 (Operand.tmp 95) (Operand.const (Value.int IntKind.i64 0)) 26, type := 4, pos := _, after := _, guard := some (19, false) }) (v := _) rfl (by kernel_rfl) (by kernel_rfl) (by kernel_rfl) (fun _ _ _ h => h) (by rfl) (by intro w'; go_simp; try with_reducible rfl) ?_
        simp only [Act.put, List.setIfInBounds_toArray, List.set_cons_zero, List.set_cons_succ]
        refine free_take (i := 26) (oi := { dst := some 97, op := Op.pick (Operand.tmp 90) (Operand.const (Value.bool true)) (Operand.tmp 96), type := 4, pos := _, after := _, guard := none }) (v := _) rfl (by kernel_rfl) (by kernel_rfl) (by kernel_rfl) (fun _ _ _ h => h) (by rfl) (by intro w'; go_simp; try with_reducible rfl) ?_
        simp only [Act.put, List.setIfInBounds_toArray, List.set_cons_zero, List.set_cons_succ]
        refine free_done (by kernel_rfl) ?_
        go_wp2_with (first
          | (go_at_call 31; refine (HFI.out _ HST.out).mono ?_; rintro e w8 ⟨rfl, hb8, hg8⟩; have HB8 := hide hb8; have HG8 := hide hg8; clear hb8 hg8)
          | (go_at_call 24; refine (lives_piece _).mono ?_; rintro e w9 ⟨rfl, hb9⟩; have HB9 := hide hb9; clear hb9))
        go_ret
        exact ⟨rfl, HB1.out.trans (((HBd.out.trans HB8.out).trans (HB9.out.mono HG8.out)).mono hgl)⟩
  · exact absurd HL.out hn

end Go.Proofs.Ytpmijaplkbmbiaa
