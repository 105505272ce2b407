/- What many steps of the byte 0 do, as the program makes it: by closures, by halves. -/
import Derived.Test.YtaichjkenfnkbabBursts
namespace Go.Proofs.Ytaichjkenfnkbab
open Go.RowKit Go.By
set_option linter.unusedVariables false
attribute [local go_sem ↓] Go.wp_at_zero Go.wp_at_succ

set_option maxHeartbeats 400000 in
theorem same_any (x : Nat) (w : World) : Calls Try.prog 20 #[.int .u32 (x : Int)] w fun e w' => e = .returned (.int .u32 (x : Int)) ∧ w' = w := by
  go_enter Try.func20, Try.ntmps20
  go_wp2
  go_ret
  exact ⟨rfl, rfl⟩

theorem mul_bit_u32 (y c b : Nat) (hy : y < 4294967296) (hc : c < 4294967296) (hb : b < 2) :
    bits BinOp.xor IntKind.u32 (y : Int) ((c : Int) * (b : Int) % 4294967296) = ((y ^^^ (c * b) : Nat) : Int) := by
  have e : (c : Int) * (b : Int) % 4294967296 = ((c * b : Nat) : Int) := by
    have : b = 0 ∨ b = 1 := by omega
    rcases this with rfl | rfl
    · simp
    · simp; omega
  have hl : c * b < 4294967296 := by
    have : b = 0 ∨ b = 1 := by omega
    rcases this with rfl | rfl <;> omega
  rw [e, u32_xor_nat y (c * b) hy hl]

set_option maxHeartbeats 1000000 in
theorem linear_any (x m g : Nat) (w : World) (hx : x < 4294967296) (hc : ∀ i, i < 32 → w.cell? ⟨g, i, none⟩ = some (.int .u32 ((Crc.bits (2 ^ i) m : Nat) : Int))) :
    Calls Try.prog 23 #[.int .u32 (x : Int), .pointer (some ⟨g, 0, none⟩)] w fun e w' => e = .returned (.int .u32 ((Crc.bits x m : Nat) : Int)) ∧ ∃ n, w' = w.drewN n := by
  have HC := hide hc
  clear hc
  go_enter Try.func23, Try.ntmps23
  go_wp2
  go_loopw [4, 6] (fun y z wr => ∃ i : Nat, i ≤ 32 ∧ z = .int .i64 i ∧ y = .int .u32 ((Crc.bits (x % 2 ^ i) m : Nat) : Int) ∧ ∃ n, wr = w.drewN n) (fun _ z _ => 32 - (intOf z).toNat)
  case atStart => exact ⟨0, by omega, rfl, by simp [Nat.mod_one, Crc.bits_zero], 0, rfl⟩
  case round =>
    obtain ⟨i, hi, rfl, rfl, n, rfl⟩ := hrel
    by_cases hlt : i < 32
    · have hcell : w.cell? ⟨g, i, none⟩ = some (.int .u32 ((Crc.bits (2 ^ i) m : Nat) : Int)) := HC.out i hlt
      have hk0 : (0 : Int) ≤ i := by omega
      have hk4 : (i : Int) < 32 := by omega
      generalize hy : Crc.bits (x % 2 ^ i) m = y at *
      generalize hz : Crc.bits (2 ^ i) m = z at *
      have HY := hide hy
      have HZ := hide hz
      clear hy hz
      go_wp2
      go_region_held3 (fun w' => w'.cell? ⟨g, i, none⟩ = some (.int .u32 (z : Int))) (go_keep) (fail)
      go_wp2
      go_roundw
      case rel =>
        have hb2 : x / 2 ^ i % 2 < 2 := Nat.mod_lt _ (by omega)
        have hyl : y < 4294967296 := by rw [← HY.out]; exact Crc.bits_lt (Nat.lt_of_le_of_lt (Nat.mod_le _ _) hx) m
        have hzl : z < 4294967296 := by
          rw [← HZ.out]
          refine Crc.bits_lt ?_ m
          have : 2 ^ i ≤ 2 ^ 31 := Nat.pow_le_pow_right (by omega) (by omega)
          omega
        refine ⟨i + 1, by omega, by go_num, ?_, n + 1, rfl⟩
        rw [bit_form x i hx, IntKind.wrap_u32', mul_bit_u32 y z _ hyl hzl hb2, Crc.mod_next, Crc.bits_xor, HY.out]
        have : Crc.bits (2 ^ i * (x / 2 ^ i % 2)) m = z * (x / 2 ^ i % 2) := by
          have h2 : x / 2 ^ i % 2 = 0 ∨ x / 2 ^ i % 2 = 1 := by omega
          rcases h2 with h2 | h2
          · rw [h2, Nat.mul_zero, Nat.mul_zero, Crc.bits_zero]
          · rw [h2, Nat.mul_one, Nat.mul_one, HZ.out]
        rw [this]
      case measure => simp [intOf]; omega
    · go_wp2
      go_ret
      have : i = 32 := by omega
      subst this
      exact ⟨ret_int (by rw [Nat.mod_eq_of_lt (by omega)]), n, rfl⟩

/-- A function value that does k steps of the byte 0, now and later. -/
def PowV (w : World) (v : Value) (k : Nat) : Prop :=
  ∃ f caps, v = .func (.func f) #[] caps ∧ ((f = 20 ∧ caps = #[]) ∨ ((f = 22 ∨ f = 23) ∧ ∃ p, caps = #[.pointer (some p)])) ∧
    ∀ w', Below w.heap.size w w' → ∀ x : Nat, x < 4294967296 → Calls Try.prog f (#[.int .u32 (x : Int)] ++ caps) w' fun e w'' => e = .returned (.int .u32 ((Crc.bits x (8 * k) : Nat) : Int)) ∧ ∃ n, w'' = w'.drewN n

set_option maxHeartbeats 1000000 in
theorem squared_any (v : Value) (k : Nat) (w : World) (hv : PowV w v k) :
    Calls Try.prog 21 #[v] w fun e w' => ∃ g, e = .returned (.func (.func 23) #[] #[.pointer (some ⟨g, 0, none⟩)]) ∧ Below w.heap.size w w' ∧ g < w'.heap.size ∧ ∀ i, i < 32 → w'.cell? ⟨g, i, none⟩ = some (.int .u32 ((Crc.bits (2 ^ i) (8 * (2 * k)) : Nat) : Int)) := by
  obtain ⟨f, caps, rfl, hf, hrun⟩ := hv
  have HR := hide hrun
  clear hrun
  rcases hf with ⟨rfl, rfl⟩ | ⟨rfl | rfl, p, rfl⟩
  all_goals
    go_enter Try.func21, Try.ntmps21
    go_wp2_with fail
    go_loopw [5] (fun z wr => ∃ i : Nat, ∃ cs : Array Value, i ≤ 32 ∧ z = .int .i64 i ∧ Below w.heap.size w wr ∧ wr.heap[w.heap.size]? = some (.cells cs 39 (0, 0)) ∧ cs.size = 32 ∧ ∀ j, j < i → cs[j]? = some (.int .u32 ((Crc.bits (2 ^ j) (8 * (2 * k)) : Nat) : Int))) (fun z _ => 32 - (intOf z).toNat)
    case atStart => exact ⟨0, _, by omega, rfl, (Below.refl _ _).alloc (Nat.le_refl _) _, heap_alloc_new _ _, rfl, fun j h => absurd h (Nat.not_lt_zero _)⟩
    case round =>
      obtain ⟨i, cs, hi, rfl, hbel, hheap, hcs, hall⟩ := hrel
      have HB := hide hbel
      have HH := hide hheap
      have HA := hide hall
      clear hbel hheap hall
      by_cases hlt : i < 32
      · have ec : wr.cell? ⟨w.heap.size, i, none⟩ = some cs[i] := by rw [Joins.cell_of_block HH.out]; simp
        have ef := Joins.unfrozen_of_block HH.out i
        have hk0 : (0 : Int) ≤ i := by omega
        have hk4 : (i : Int) < 32 := by omega
        have hp : 2 ^ i < 4294967296 := by
          have : 2 ^ i ≤ 2 ^ 31 := Nat.pow_le_pow_right (by omega) (by omega)
          omega
        have hq : Crc.bits (2 ^ i) (8 * k) < 4294967296 := Crc.bits_lt hp _
        have e2 : ((2 : Int) ^ i % 4294967296) = ((2 ^ i : Nat) : Int) := by
          have : ((2 : Int) ^ i) = ((2 ^ i : Nat) : Int) := by simp
          rw [this]
          generalize 2 ^ i = q at *
          omega
        have E2 := hide e2
        have HQ := hide hq
        have HP := hide hp
        clear e2 hq hp
        go_wp2_with fail
        rw [E2.out]
        refine (HR.out _ HB.out (2 ^ i) HP.out).mono ?_
        rintro e w1 ⟨rfl, n1, rfl⟩
        go_wp2_with fail
        refine (HR.out _ (below_drewN HB.out n1) _ HQ.out).mono ?_
        rintro e w1 ⟨rfl, n2, rfl⟩
        rw [← Crc.bits_add, show 8 * k + 8 * k = 8 * (2 * k) by omega]
        go_wp2
        go_roundw
        case rel =>
          refine ⟨i + 1, cs.setIfInBounds i (.int .u32 ((Crc.bits (2 ^ i) (8 * (2 * k)) : Nat) : Int)), by omega, by go_num, (below_drewN HB.out _).setCell (Nat.le_refl _) _, ?_, by simp [hcs], ?_⟩
          · exact Joins.block_setCell (w := wr.drewN (n1 + n2)) (by exact HH.out) _
          · intro j hj
            by_cases hji : j = i
            · subst hji
              simp [hcs, hlt]
            · rw [Array.getElem?_setIfInBounds_ne (by omega)]
              exact HA.out j (by omega)
        case measure => simp [intOf]; omega
      · go_wp2
        go_ret
        have : i = 32 := by omega
        subst this
        refine ⟨_, rfl, HB.out, ?_, fun i hi => ?_⟩
        · rcases Nat.lt_or_ge w.heap.size wr.heap.size with h1 | h1
          · exact h1
          · have := HH.out; rw [Array.getElem?_eq_none h1] at this; cases this
        · rw [Joins.cell_of_block HH.out]; exact HA.out i hi

theorem PowV.after {w w' : World} {v : Value} {k : Nat} (h : PowV w v k) (hb : Below w.heap.size w w') : PowV w' v k := by
  obtain ⟨f, caps, rfl, hf, hrun⟩ := h
  exact ⟨f, caps, rfl, hf, fun w2 h2 => hrun w2 (hb.trans (h2.mono hb.size))⟩

theorem step_nought (y : Nat) : Crc.step y 0 = Crc.bits y 8 := by simp [Crc.step]

set_option maxHeartbeats 1000000 in
theorem more_any (x k : Nat) (p : Addr) (v : Value) (w : World) (hx : x < 4294967296) (hc : w.cell? p = some v) (hv : PowV w v k) :
    Calls Try.prog 22 #[.int .u32 (x : Int), .pointer (some p)] w fun e w' => e = .returned (.int .u32 ((Crc.bits x (8 * (k + 1)) : Nat) : Int)) ∧ ∃ n, w' = w.drewN n := by
  obtain ⟨f, caps, rfl, hf, hrun⟩ := hv
  have HR := hide hrun
  clear hrun
  have hq : Crc.bits x (8 * k) < 4294967296 := Crc.bits_lt hx _
  have HQ := hide hq
  clear hq
  rcases hf with ⟨rfl, rfl⟩ | ⟨rfl | rfl, q, rfl⟩
  all_goals
    go_enter Try.func22, Try.ntmps22
    go_wp2_with fail
    refine (HR.out _ (Below.refl _ _) x hx).mono ?_
    rintro e w1 ⟨rfl, n1, rfl⟩
    go_wp2_with fail
    refine (step_any _ 0 _ HQ.out (by omega)).mono ?_
    rintro e w1 ⟨rfl, rfl⟩
    go_wp2
    go_ret
    exact ⟨ret_int (by rw [step_nought, ← Crc.bits_add, ← Nat.mul_succ]), n1, rfl⟩

theorem powV_20 (w : World) : PowV w (.func (.func 20) #[] #[]) 0 :=
  ⟨20, #[], rfl, .inl ⟨rfl, rfl⟩, fun w' _ x _ => (same_any x w').mono fun e w'' ⟨h1, h2⟩ => ⟨h1, 0, h2⟩⟩

theorem powV_23 (w : World) (g k : Nat) (hg : g < w.heap.size) (hc : ∀ i, i < 32 → w.cell? ⟨g, i, none⟩ = some (.int .u32 ((Crc.bits (2 ^ i) (8 * k) : Nat) : Int))) :
    PowV w (.func (.func 23) #[] #[.pointer (some ⟨g, 0, none⟩)]) k :=
  ⟨23, _, rfl, .inr ⟨.inr rfl, _, rfl⟩, fun w' hb x hx => linear_any x (8 * k) g w' hx fun i hi => (hb.cell (p := ⟨g, i, none⟩) hg).trans (hc i hi)⟩

theorem powV_22 (w : World) (p : Addr) (v : Value) (k : Nat) (hc : w.cell? p = some v) (hv : PowV w v k) :
    PowV w (.func (.func 22) #[] #[.pointer (some p)]) (k + 1) :=
  ⟨22, _, rfl, .inr ⟨.inl rfl, _, rfl⟩, fun w' hb x hx => more_any x k p v w' hx ((hb.cell (World.block_lt_of_cell? w p hc)).trans hc) (hv.after hb)⟩

theorem store_func (W : World) (fn : Fn) (caps : Array Value) :
    Sem.run Try.prog (store { block := W.heap.size, off := 0 } (Value.func fn #[] caps)) (W.alloc (Obj.cells #[Value.nilFunc] 36)) = .ok () (W.alloc (Obj.cells #[Value.func fn #[] caps] 36)) := by
  rw [run_store Try.prog _ _ _ _ rfl]
  have h1 : (W.alloc (Obj.cells #[Value.nilFunc] 36)).cell? { block := W.heap.size, off := 0 } = some .nilFunc := by simp [go_sem]
  have h2 : (W.alloc (Obj.cells #[Value.nilFunc] 36)).frozen? { block := W.heap.size, off := 0 } = false := by simp [go_sem]
  rw [h1, h2]
  simp [go_sem]

set_option maxHeartbeats 1000000 in
theorem power_any (n : Nat) : ∀ (w : World), n ≤ 1048576 →
    Calls Try.prog 19 #[.int .i64 (n : Int)] w fun e w' => ∃ v, e = .returned v ∧ Below w.heap.size w w' ∧ PowV w' v n := by
  induction n using Nat.strongRecOn with
  | _ n ih =>
    intro w hn
    by_cases h0 : n = 0
    · subst h0
      go_enter Try.func19, Try.ntmps19
      go_wp2
      go_ret
      exact ⟨_, rfl, Below.refl _ _, powV_20 w⟩
    · have IH := hide (ih (n / 2) (by omega))
      clear ih
      have hne : ((n : Int) == 0) = false := by simp; omega
      have hst := store_func
      rcases Nat.mod_two_eq_zero_or_one n with hm | hm
      · have hmod : ((n : Int) % 2 == 0) = true := by simp; omega
        have HM := hide hm
        clear hm
        go_enter Try.func19, Try.ntmps19
        go_wp2_with fail
        rw [show ((n : Int) / 2) = ((n / 2 : Nat) : Int) by omega]
        refine (IH.out w (by omega)).mono ?_
        rintro e w1 ⟨v, rfl, hb1, hv⟩
        have HV := hide hv
        have HB := hide hb1
        clear hv hb1
        go_wp2_with fail
        refine (squared_any v (n / 2) _ HV.out).mono ?_
        rintro e w2 ⟨g, rfl, hb2, hg, hcells⟩
        have HP := hide (powV_23 w2 g (2 * (n / 2)) hg hcells)
        have HB2 := hide (HB.out.trans (hb2.mono HB.out.size))
        clear hb2 hg hcells
        go_wp2
        go_ret
        have e : 2 * (n / 2) = n := by have := HM.out; omega
        exact ⟨_, rfl, HB2.out.alloc HB2.out.size _, by have := HP.out.after ((Below.refl _ w2).alloc (Nat.le_refl _) (Obj.cells #[Value.func (Fn.func 23) #[] #[Value.pointer (some ⟨g, 0, none⟩)]] 36)); rw [e] at this; exact this⟩
      · have hmod : ((n : Int) % 2 == 0) = false := by simp; omega
        have HM := hide hm
        clear hm
        go_enter Try.func19, Try.ntmps19
        go_wp2_with fail
        rw [show ((n : Int) / 2) = ((n / 2 : Nat) : Int) by omega]
        refine (IH.out w (by omega)).mono ?_
        rintro e w1 ⟨v, rfl, hb1, hv⟩
        have HV := hide hv
        have HB := hide hb1
        clear hv hb1
        go_wp2_with fail
        refine (squared_any v (n / 2) _ HV.out).mono ?_
        rintro e w2 ⟨g, rfl, hb2, hg, hcells⟩
        have HP := hide (powV_23 w2 g (2 * (n / 2)) hg hcells)
        have HB2 := hide (HB.out.trans (hb2.mono HB.out.size))
        clear hb2 hg hcells
        go_wp2
        go_ret
        have e : 2 * (n / 2) + 1 = n := by have := HM.out; omega
        refine ⟨_, rfl, HB2.out.alloc HB2.out.size _, ?_⟩
        have h1 := HP.out.after ((Below.refl _ w2).alloc (Nat.le_refl _) (Obj.cells #[Value.func (Fn.func 23) #[] #[Value.pointer (some ⟨g, 0, none⟩)]] 36))
        have h2 := powV_22 (w2.alloc (Obj.cells #[Value.func (Fn.func 23) #[] #[Value.pointer (some ⟨g, 0, none⟩)]] 36)) ⟨w2.heap.size, 0, none⟩ _ _ (by simp [go_sem]) h1
        rw [e] at h2
        exact h2
end Go.Proofs.Ytaichjkenfnkbab
