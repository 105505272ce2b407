/- Whatever bytes, place and bits come in, the call Sum32Bursts returns true and writes nothing that was there. -/
import Derived.Test.YtaichjkenfnkbabTells
import Derived.Test.YtaichjkenfnkbabBurst
namespace Go.Proofs.Ytaichjkenfnkbab
open Go.RowKit Go.By
set_option linter.unusedVariables false
attribute [local go_sem ↓] Go.wp_at_zero Go.wp_at_succ

theorem place_of (x : Int) (n : Nat) (hn : n ≤ 5000) : ∃ k : Nat, wrap64 ((IntKind.u64.wrap x).tmod (8 * ((n : Int) + 4) - 31)) = (k : Int) ∧ k + 31 < 8 * (n + 4) := by
  have h0 : 0 ≤ IntKind.u64.wrap x := by simp [IntKind.wrap, IntKind.bits, IntKind.signed]; omega
  generalize IntKind.u64.wrap x = u at *
  have h1 := Int.emod_nonneg u (b := 8 * ((n : Int) + 4) - 31) (by omega)
  have h2 := Int.emod_lt_of_pos u (b := 8 * ((n : Int) + 4) - 31) (by omega)
  rw [Int.tmod_eq_emod_of_nonneg h0]
  generalize u % (8 * ((n : Int) + 4) - 31) = y at *
  refine ⟨y.toNat, ?_, by omega⟩
  unfold wrap64
  omega

theorem bit_form (t i : Nat) (ht : t < 4294967296) : bits BinOp.and IntKind.u32 ((t : Int) / 2 ^ i) 1 = ((t / 2 ^ i % 2 : Nat) : Int) := by
  have e : ((t : Int) / 2 ^ i) = ((t / 2 ^ i : Nat) : Int) := by simp
  have hl : t / 2 ^ i < 4294967296 := Nat.lt_of_le_of_lt (Nat.div_le_self _ _) ht
  rw [e]
  have := u32_and_nat (t / 2 ^ i) 1 hl (by omega)
  rw [nat_mask1] at this
  exact this

theorem bit_on (t i : Nat) (ht : t < 4294967296) (h : (bits BinOp.and IntKind.u32 ((t : Int) / 2 ^ i) 1 == 1) = true) : t / 2 ^ i % 2 = 1 := by
  rw [bit_form t i ht] at h
  have := beq_iff_eq.1 h
  omega

theorem bit_off (t i : Nat) (ht : t < 4294967296) (h : (bits BinOp.and IntKind.u32 ((t : Int) / 2 ^ i) 1 == 1) = false) : t / 2 ^ i % 2 = 0 := by
  rw [bit_form t i ht] at h
  have := beq_eq_false_iff_ne.1 h
  have : t / 2 ^ i % 2 < 2 := Nat.mod_lt _ (by omega)
  omega

theorem pow_small {r : Nat} (hr : r < 8) : 2 ^ r < 256 := by
  have : 2 ^ r ≤ 2 ^ 7 := Nat.pow_le_pow_right (by omega) (by omega)
  omega

theorem flip_form (y r : Nat) (hy : y < 256) (hr : r < 8) : bits BinOp.xor IntKind.u8 (y : Int) (2 ^ min r 8 % 256) = ((y ^^^ 2 ^ r : Nat) : Int) := by
  have h1 := pow_small hr
  have e : ((2 : Int) ^ min r 8 % 256) = ((2 ^ r : Nat) : Int) := by
    rw [Nat.min_eq_left (by omega)]
    have : ((2 : Int) ^ r) = ((2 ^ r : Nat) : Int) := by simp
    rw [this]
    generalize 2 ^ r = q at *
    omega
  rw [e, u8_xor_nat y (2 ^ r) hy h1]

set_option maxHeartbeats 2000000 in
theorem bursts_walk (a : Option Addr) (l : List Nat) (cap : Nat) (at_ : Int) (t : Nat) (w : World) (hL : Came w.heap.size w a l) (hnil : a = none → l = [] ∧ cap = 0) (hm : l.length ≤ 5000)
    (h1 : -9223372036854775808 ≤ at_) (h2 : at_ ≤ 9223372036854775807) (ht : t < 4294967296) (h0 : t ≠ 0) :
    Calls Try.prog 5 #[.slice a l.length cap, .int .i64 at_, .int .u32 t] w fun e w' => e = .returned (.bool true) ∧ Below w.heap.size w w' := by
  have HL := hide hL
  have HN := hide hnil
  have hq0 : ((t : Int) == 0) = false := by simp; omega
  clear hL hnil
  go_enter Try.func5, Try.ntmps5
  go_wp2_with fail
  refine (seal_any a l cap w HL.out HN.out (by omega)).mono ?_
  rintro e w1 ⟨v, rfl, hown, hb1⟩
  obtain ⟨g, cp, rfl, hg, hgl⟩ := hown.1.form (by rw [Crc.sealed_length]; omega)
  have hsl := Crc.sealed_length l
  have HO := hide hown
  have HB := hide hb1
  clear hown hb1
  generalize hS : Crc.sealed l = s at *
  have HS := hide hS
  clear hS
  go_wp2_with fail
  obtain ⟨k, hk, hkl⟩ := place_of at_ l.length hm
  rw [hk]
  clear hk h1 h2 hq0
  go_loopw [37] (fun z wr => ∃ i : Nat, ∃ s' : List Nat, i ≤ 32 ∧ z = .int .i64 i ∧ s'.length = l.length + 4 ∧ Crc.run Crc.top s' = Crc.run Crc.top s ^^^ Crc.bits (t % 2 ^ i) (8 * (l.length + 4) - k) ∧ Owns wr w.heap.size (.slice (some ⟨g, 0, none⟩) (l.length + 4) cp) s' ∧ Below w.heap.size w wr) (fun z _ => 32 - (intOf z).toNat)
  case atStart => exact ⟨0, s, by omega, rfl, hsl, by simp [Nat.mod_one, Crc.bits_zero], by have := HO.out; rw [hsl] at this; exact this, HB.out⟩
  case round =>
    obtain ⟨i, s', hi, rfl, hsl', hrun, hown, hbel⟩ := hrel
    have HO' := hide hown
    have HB' := hide hbel
    have HR := hide hrun
    clear hown hbel hrun
    by_cases hlt : i < 32
    · obtain ⟨p, hp⟩ : ∃ p, p = k + i := ⟨_, rfl⟩
      have e1 : IntKind.i64.wrap ((k : Int) + (i : Int)) = (p : Int) := by rw [wrapI _ (by omega)]; omega
      have hpl : p / 8 < l.length + 4 := by omega
      have ho1 : wr.ownsRow w.heap.size 5 1 (.slice (some ⟨g, 0, none⟩) (l.length + 4) cp) (l.length + 4) (s'.map B8) := by have := HO'.out.1; rw [hsl'] at this; exact this
      have hc : wr.cell? ⟨g, p / 8, none⟩ = some (.int .u8 ((s'.getD (p / 8) 0 : Nat) : Int)) := by
        have := ho1.cellAt (p / 8) (by omega)
        rw [this]
        simp [List.getD, B8, hsl', hpl]
      have hf : wr.frozen? ⟨g, p / 8, none⟩ = false := ho1.frozenAt (p / 8)
      have HO1 := hide ho1
      clear ho1
      have HP := hide hp
      clear hp
      generalize hy : s'.getD (p / 8) 0 = y at *
      have HY := hide hy
      clear hy
      have e3 : (p : Int).tmod 8 = ((p % 8 : Nat) : Int) := by rw [Int.tmod_eq_emod_of_nonneg (by omega)]; omega
      have e4 : IntKind.i64.wrap ((p : Int) / 8) = ((p / 8 : Nat) : Int) := by rw [wrapI _ (by omega)]; omega
      have b1 : (0 : Int) ≤ ((p / 8 : Nat) : Int) := by omega
      have b2 : ((p / 8 : Nat) : Int) < (l.length : Int) + 4 := by omega
      have b3 : (0 : Int) ≤ ((p % 8 : Nat) : Int) := by omega
      have b4 : ((p % 8 : Nat) : Int) ≤ 64 := by omega
      generalize hj : p / 8 = j at *
      generalize hr : p % 8 = r at *
      have HJ := hide hj
      have HR8 := hide hr
      clear hj hr
      go_wp2
      · skip
        refine free_start (by kernel_rfl) ?_
        refine free_take (i := 0) (oi := { dst := some 45, op := Op.move (Operand.tmp 7), type := 22, pos := _, after := _, guard := none }) (v := _) rfl (by kernel_rfl) (by kernel_rfl) (by kernel_rfl) (fun _ _ _ h => h) (by rfl) (by intro w'; go_simp; try with_reducible rfl) ?_
        simp only [Act.put, List.setIfInBounds_toArray, List.set_cons_zero, List.set_cons_succ]
        refine free_take (i := 1) (oi := { dst := some 46, op := Op.move (Operand.tmp 8), type := 3, pos := _, after := _, guard := none }) (v := _) rfl (by kernel_rfl) (by kernel_rfl) (by kernel_rfl) (fun _ _ _ h => h) (by rfl) (by intro w'; go_simp; try with_reducible rfl) ?_
        simp only [Act.put, List.setIfInBounds_toArray, List.set_cons_zero, List.set_cons_succ]
        refine free_take (i := 2) (oi := { dst := some 47, op := Op.move (Operand.tmp 9), type := 3, pos := _, after := _, guard := none }) (v := _) rfl (by kernel_rfl) (by kernel_rfl) (by kernel_rfl) (fun _ _ _ h => h) (by rfl) (by intro w'; go_simp; try with_reducible rfl) ?_
        simp only [Act.put, List.setIfInBounds_toArray, List.set_cons_zero, List.set_cons_succ]
        refine free_take (i := 3) (oi := { dst := some 48, op := Op.binOp BinOp.add 3 (Operand.tmp 46) (Operand.tmp 47) 3, type := 3, pos := _, after := _, guard := none }) (v := _) rfl (by kernel_rfl) (by kernel_rfl) (by kernel_rfl) (fun _ _ _ h => h) (by rfl) (by intro w'; go_simp; try with_reducible rfl) ?_
        simp only [Act.put, List.setIfInBounds_toArray, List.set_cons_zero, List.set_cons_succ]
        refine free_take (i := 4) (oi := { dst := some 49, op := Op.binOp BinOp.quo 3 (Operand.tmp 48) (Operand.const (Value.int IntKind.i64 8)) 3, type := 3, pos := _, after := _, guard := none }) (v := _) rfl (by kernel_rfl) (by kernel_rfl) (by kernel_rfl) (fun _ _ _ h => h) (by rfl) (by intro w'; go_simp; try with_reducible rfl) ?_
        simp only [Act.put, List.setIfInBounds_toArray, List.set_cons_zero, List.set_cons_succ]
        refine free_take (i := 5) (oi := { dst := some 50, op := Op.indexAddr 22 (Operand.tmp 45) (Operand.tmp 49), type := 0, pos := _, after := _, guard := none }) (v := _) rfl (by kernel_rfl) (by kernel_rfl) (by kernel_rfl) (fun _ _ _ h => h) (by rfl) (by intro w'; go_simp; try with_reducible rfl) ?_
        simp only [Act.put, List.setIfInBounds_toArray, List.set_cons_zero, List.set_cons_succ]
        refine free_take (i := 7) (oi := { dst := some 52, op := Op.move (Operand.tmp 8), type := 3, pos := _, after := _, guard := none }) (v := _) rfl (by kernel_rfl) (by kernel_rfl) (by kernel_rfl) (fun _ _ _ h => h) (by rfl) (by intro w'; go_simp; try with_reducible rfl) ?_
        simp only [Act.put, List.setIfInBounds_toArray, List.set_cons_zero, List.set_cons_succ]
        refine free_take (i := 8) (oi := { dst := some 53, op := Op.move (Operand.tmp 9), type := 3, pos := _, after := _, guard := none }) (v := _) rfl (by kernel_rfl) (by kernel_rfl) (by kernel_rfl) (fun _ _ _ h => h) (by rfl) (by intro w'; go_simp; try with_reducible rfl) ?_
        simp only [Act.put, List.setIfInBounds_toArray, List.set_cons_zero, List.set_cons_succ]
        refine free_take (i := 9) (oi := { dst := some 54, op := Op.binOp BinOp.add 3 (Operand.tmp 52) (Operand.tmp 53) 3, type := 3, pos := _, after := _, guard := none }) (v := _) rfl (by kernel_rfl) (by kernel_rfl) (by kernel_rfl) (fun _ _ _ h => h) (by rfl) (by intro w'; go_simp; try with_reducible rfl) ?_
        simp only [Act.put, List.setIfInBounds_toArray, List.set_cons_zero, List.set_cons_succ]
        refine free_take (i := 10) (oi := { dst := some 55, op := Op.binOp BinOp.rem 3 (Operand.tmp 54) (Operand.const (Value.int IntKind.i64 8)) 3, type := 3, pos := _, after := _, guard := none }) (v := _) rfl (by kernel_rfl) (by kernel_rfl) (by kernel_rfl) (fun _ _ _ h => h) (by rfl) (by intro w'; go_simp; try with_reducible rfl) ?_
        simp only [Act.put, List.setIfInBounds_toArray, List.set_cons_zero, List.set_cons_succ]
        refine free_take (i := 11) (oi := { dst := some 56, op := Op.binOp BinOp.shl 5 (Operand.const (Value.int IntKind.u8 1)) (Operand.tmp 55) 3, type := 5, pos := _, after := _, guard := none }) (v := _) rfl (by kernel_rfl) (by kernel_rfl) (by kernel_rfl) (fun _ _ _ h => h) (by rfl) (by intro w'; go_simp; try with_reducible rfl) ?_
        simp only [Act.put, List.setIfInBounds_toArray, List.set_cons_zero, List.set_cons_succ]
        refine free_step (i := 6) (o := { dst := some 51, op := Op.load 5 (Operand.tmp 50), type := 5, pos := _, after := _, guard := none }) (by kernel_rfl) rfl (by rfl) (fun K hK => ?_)
        go_simp
        refine hK.out _ _ ?_
        clear hK K
        try simp only [Act.put, List.setIfInBounds_toArray, List.set_cons_zero, List.set_cons_succ]
        refine free_take (i := 12) (oi := { dst := some 57, op := Op.binOp BinOp.xor 5 (Operand.tmp 51) (Operand.tmp 56) 5, type := 5, pos := _, after := _, guard := none }) (v := _) rfl (by kernel_rfl) (by kernel_rfl) (by kernel_rfl) (fun _ _ _ h => h) (by rfl) (by intro w'; go_simp; try with_reducible rfl) ?_
        simp only [Act.put, List.setIfInBounds_toArray, List.set_cons_zero, List.set_cons_succ]
        refine free_take (i := 13) (oi := { dst := some 58, op := Op.indexAddr 22 (Operand.tmp 45) (Operand.tmp 49), type := 0, pos := _, after := _, guard := none }) (v := _) rfl (by kernel_rfl) (by kernel_rfl) (by kernel_rfl) (fun _ _ _ h => h) (by rfl) (by intro w'; go_simp; try with_reducible rfl) ?_
        simp only [Act.put, List.setIfInBounds_toArray, List.set_cons_zero, List.set_cons_succ]
        refine free_step (i := 14) (o := { dst := none, op := Op.store 5 (Operand.tmp 58) (Operand.tmp 57), type := 0, pos := _, after := _, guard := none }) (by kernel_rfl) rfl (by rfl) (fun K hK => ?_)
        go_simp
        refine hK.out _ _ ?_
        clear hK K
        try simp only [Act.put, List.setIfInBounds_toArray, List.set_cons_zero, List.set_cons_succ]
        refine free_done (by kernel_rfl) ?_
        go_wp2
        go_roundw
        case rel =>
          have hbit : t / 2 ^ i % 2 = 1 := bit_on t i ht ‹_›
          have hj8 : j < s'.length := by omega
          have hy8 : y < 256 := by rw [← HY.out]; exact getD_lt HO'.out.2 j
          have hr8 : r < 8 := by have := HR8.out; omega
          rw [flip_form y r hy8 hr8]
          refine ⟨i + 1, s'.set j (y ^^^ 2 ^ r), by omega, by go_num, by simpa using hsl', ?_, ?_, (HB'.out.setCell hg _).drew⟩
          · have e5 := Crc.run_flip s' Crc.top j (2 ^ r) hj8
            rw [HY.out, HR.out, hsl', ← HJ.out, ← HR8.out, HP.out, Crc.bits_one (l.length + 4) k i (by omega), Nat.xor_assoc, ← Crc.bits_xor] at e5
            rw [Crc.mod_next, hbit, Nat.mul_one, ← e5, ← HJ.out, ← HR8.out, HP.out]
          · refine ⟨?_, ?_⟩
            · have := (HO1.out.stored j (B8 (y ^^^ 2 ^ r))).1
              rw [← List.map_set] at this
              have hl2 : (s'.set j (y ^^^ 2 ^ r)).length = l.length + 4 := by simpa using hsl'
              rw [hl2]
              exact this
            · intro c hc
              rcases List.mem_or_eq_of_mem_set hc with h | h
              · exact HO'.out.2 c h
              · rw [h]; exact Nat.xor_lt_two_pow (n := 8) hy8 (pow_small hr8)
        case measure => simp [intOf]; omega
      · go_roundw
        case rel =>
          have hbit : t / 2 ^ i % 2 = 0 := bit_off t i ht ‹_›
          refine ⟨i + 1, s', by omega, by go_num, hsl', ?_, HO'.out, HB'.out⟩
          rw [Crc.mod_next, hbit, Nat.mul_zero, Nat.xor_zero]
          exact HR.out
        case measure => simp [intOf]; omega
    · have hi32 : i = 32 := by omega
      subst hi32
      have hng : ¬ Crc.Good s' l.length := by
        have hr := HR.out
        rw [Nat.mod_eq_of_lt (by omega)] at hr
        exact Crc.burst_found s s' l.length k t hsl hsl' HO.out.2 HO'.out.2 ht h0 (by rw [← HS.out]; exact Crc.good_sealed l) hr
      have HG := hide hng
      clear hng
      obtain ⟨a2, c2, e2, k1, k2, k3, _⟩ := HO'.out.form
      simp only [Value.slice.injEq] at e2
      obtain ⟨rfl, hx2, rfl⟩ := e2
      clear hx2
      have K3 := hide k3
      have K2 := hide k2
      clear k3 k2
      go_wp2_with fail
      refine (open_long (some ⟨g, 0, none⟩) s' l.length cp _ K3.out.came hsl' (by omega) K2.out (by omega)).mono ?_
      rintro e w2 ⟨hb2, ⟨h, _⟩ | ⟨_, rfl⟩⟩
      · exact absurd h HG.out
      · have HB2 := hide (HB'.out.trans (hb2.mono HB'.out.size))
        clear hb2
        go_wp2_with (go_at_call 7; refine (lives_any _).mono ?_; rintro e w' ⟨rfl, hlv⟩)
        go_ret
        exact ⟨rfl, HB2.out.trans (hlv.mono HB2.out.size)⟩

set_option maxHeartbeats 400000 in
theorem bursts_big (a : Option Addr) (n cap : Nat) (at_ : Int) (t : Int) (w : World) (hm : 5000 < n) :
    Calls Try.prog 5 #[.slice a n cap, .int .i64 at_, .int .u32 t] w fun e w' => e = .returned (.bool true) ∧ Below w.heap.size w w' := by
  have hd : decide ((5000 : Int) < (n : Int)) = true := by simp; omega
  go_enter Try.func5, Try.ntmps5
  go_wp2_with (go_at_call 7; refine (lives_any _).mono ?_; rintro e w' ⟨rfl, hlv⟩)
  go_ret
  exact ⟨rfl, hlv⟩

set_option maxHeartbeats 400000 in
theorem bursts_none (a : Option Addr) (n cap : Nat) (at_ : Int) (w : World) (hm : n ≤ 5000) :
    Calls Try.prog 5 #[.slice a n cap, .int .i64 at_, .int .u32 0] w fun e w' => e = .returned (.bool true) ∧ Below w.heap.size w w' := by
  have hd : decide ((5000 : Int) < (n : Int)) = false := by simp; omega
  go_enter Try.func5, Try.ntmps5
  go_wp2_with (go_at_call 7; refine (lives_any _).mono ?_; rintro e w' ⟨rfl, hlv⟩)
  go_ret
  exact ⟨rfl, hlv⟩

theorem i64_bounds {n : Int} (h : (Lit.int .i64 n).wf = true) : -9223372036854775808 ≤ n ∧ n ≤ 9223372036854775807 := by
  simp [Lit.wf, IntKind.min, IntKind.max, IntKind.bits, IntKind.signed] at h
  omega

theorem u32_bounds {n : Int} (h : (Lit.int .u32 n).wf = true) : 0 ≤ n ∧ n ≤ 4294967295 := by
  simp [Lit.wf, IntKind.min, IntKind.max, IntKind.bits, IntKind.signed] at h
  omega

theorem bursts_all (a : Option Addr) (n cap : Nat) (zs : List Int) (at_ t : Int) (w : World) (h : IsRow .u8 w a n cap zs) (w1 : (Lit.int .i64 at_).wf = true) (w2 : (Lit.int .u32 t).wf = true) :
    Calls Try.prog 5 #[.slice a n cap, .int .i64 at_, .int .u32 t] w fun e w' => e = .returned (.bool true) ∧ Below w.heap.size w w' := by
  by_cases hm : n ≤ 5000
  · by_cases h0 : t = 0
    · subst h0; exact bursts_none a n cap at_ w hm
    · obtain ⟨l, rfl, hc, hx, hg⟩ := came_of_row h
      have hb := i64_bounds w1
      have ht := u32_bounds w2
      obtain ⟨u, rfl⟩ := Int.eq_ofNat_of_zero_le ht.1
      exact bursts_walk a l cap at_ u w hg (fun e => ⟨List.length_eq_zero_iff.1 (row_nil h e).1, (row_nil h e).2⟩) hm hb.1 hb.2 (by omega) (by omega)
  · exact bursts_big a n cap at_ t w (by omega)
end Go.Proofs.Ytaichjkenfnkbab
