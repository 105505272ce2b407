/- Whatever bytes come in, the call Sum32Tells returns true and writes nothing that was there. -/
import Derived.Test.YtaichjkenfnkbabRefOpen
namespace Crc
theorem good_sealed (l : List Nat) : Good (sealed l) l.length := by
  rw [good_iff _ _ (sealed_length l)]
  simp [sealed]
theorem take_sealed (l : List Nat) : (sealed l).take l.length = l := by simp [sealed]
theorem sealed_small {l : List Nat} (h : ∀ c ∈ l, c < 256) : ∀ c ∈ sealed l, c < 256 := by
  intro c hc
  rcases List.mem_append.1 hc with h1 | h1
  · exact h c h1
  · exact tail4_small _ c h1
/-- What is opened of l. -/
def Opens (l : List Nat) (b : Bool) (x : List Nat) : Prop :=
  (b = true ∧ ∃ m, l.length = m + 4 ∧ Good l m ∧ x = l.take m) ∨ (b = false ∧ x = [] ∧ (l.length < 4 ∨ ∃ m, l.length = m + 4 ∧ ¬ Good l m))
theorem opens_some (l : List Nat) : ∃ b x, Opens l b x := by
  by_cases h : l.length < 4
  · exact ⟨false, [], .inr ⟨rfl, rfl, .inl h⟩⟩
  · have hm : l.length = (l.length - 4) + 4 := by omega
    by_cases g : Good l (l.length - 4)
    · exact ⟨true, _, .inl ⟨rfl, _, hm, g, rfl⟩⟩
    · exact ⟨false, [], .inr ⟨rfl, rfl, .inr ⟨_, hm, g⟩⟩⟩
end Crc
namespace Go.Proofs.Ytaichjkenfnkbab
open Go.RowKit Go.By
set_option linter.unusedVariables false
attribute [local go_sem ↓] Go.wp_at_zero Go.wp_at_succ

/-- The value's string is that of l, and stays so. -/
def Says (w : World) (v : Value) (l : List Nat) : Prop := ∀ w', Below w.heap.size w w' → (convert 22 9 v).run Try.prog w' = .ok (.string (str l)) w'

theorem Says.after {w w' : World} {v : Value} {l : List Nat} (h : Says w v l) (hb : Below w.heap.size w w') : Says w' v l :=
  fun w2 h2 => h w2 (hb.trans (h2.mono hb.size))

theorem says_owns {w : World} {base : Nat} {v : Value} {l : List Nat} (h : Owns w base v l) : Says w v l := fun w' hb => run_str_owns (h.below hb)

theorem says_came {w : World} {a : Option Addr} {l : List Nat} {n cap : Nat} (h : Came w.heap.size w a l) (hn : l.length = n) : Says w (.slice a n cap) l := fun w' hb =>
  run_str 22 5 9 Try.underlying22 Try.underlying5 Try.underlying9 (h.below hb).lies n cap hn

theorem open_says (a : Option Addr) (l : List Nat) (n cap : Nat) (w : World) (b : Bool) (x : List Nat) (hn : l.length = n) (hL : Came w.heap.size w a l) (hcap : n ≤ cap) (hmx : cap ≤ maxLen) (hm : n ≤ 100000) (ho : Crc.Opens l b x) :
    Calls Try.prog 8 #[.slice a n cap] w fun e w' => ∃ v, e = .returned (.tuple #[v, .bool b]) ∧ Says w' v x ∧ Below w.heap.size w w' := by
  subst hn
  rcases ho with ⟨rfl, m, hm2, g, rfl⟩ | ⟨rfl, rfl, h⟩
  · rw [hm2]
    refine (open_long a l m cap w hL hm2 (by omega) hmx hm).mono ?_
    rintro e w' ⟨hb, ⟨_, v, rfl, hown⟩ | ⟨h, _⟩⟩
    · exact ⟨v, rfl, says_owns hown, hb⟩
    · exact absurd g h
  · rcases h with h | ⟨m, hm2, g⟩
    · refine (open_short a l cap w h).mono ?_
      rintro e w' ⟨rfl, rfl⟩
      exact ⟨_, rfl, says_owns (Owns.nil _ 0), Below.refl _ _⟩
    · rw [hm2]
      refine (open_long a l m cap w hL hm2 (by omega) hmx hm).mono ?_
      rintro e w' ⟨hb, ⟨h, _⟩ | ⟨_, rfl⟩⟩
      · exact absurd h g
      · exact ⟨_, rfl, says_owns (Owns.nil _ 0), hb⟩

theorem refOpen_says (a : Option Addr) (l : List Nat) (n cap : Nat) (w : World) (b : Bool) (x : List Nat) (hn : l.length = n) (hL : Came w.heap.size w a l) (hcap : n ≤ cap) (hmx : cap ≤ maxLen) (hm : n ≤ 100000) (ho : Crc.Opens l b x) :
    Calls Try.prog 9 #[.slice a n cap] w fun e w' => ∃ v, e = .returned (.tuple #[v, .bool b]) ∧ Says w' v x ∧ Below w.heap.size w w' := by
  subst hn
  rcases ho with ⟨rfl, m, hm2, g, rfl⟩ | ⟨rfl, rfl, h⟩
  · rw [hm2]
    refine (refOpen_long a l m cap w hL hm2 (by omega) hmx hm g).mono ?_
    rintro e w' ⟨rfl, hb⟩
    exact ⟨_, rfl, (says_came (hL.take m) (by simp; omega)).after hb, hb⟩
  · rcases h with h | ⟨m, hm2, g⟩
    · refine (refOpen_short a l cap w h).mono ?_
      rintro e w' ⟨rfl, hb⟩
      exact ⟨_, rfl, says_owns (Owns.nil _ 0), hb⟩
    · rw [hm2]
      refine (refOpen_bad a l m cap w hL hm2 (by omega) hmx hm g).mono ?_
      rintro e w' ⟨rfl, hb⟩
      exact ⟨_, rfl, says_owns (Owns.nil _ 0), hb⟩

set_option maxHeartbeats 2000000 in
theorem tells_walk (a : Option Addr) (l : List Nat) (cap : Nat) (w : World) (hL : Came w.heap.size w a l) (hnil : a = none → l = [] ∧ cap = 0) (hcap : l.length ≤ cap) (hmx : cap ≤ maxLen) (hm : l.length ≤ 5000) :
    Calls Try.prog 3 #[.slice a l.length cap] w fun e w' => e = .returned (.bool true) ∧ Below w.heap.size w w' := by
  have HL := hide hL
  have HN := hide hnil
  have HM := hide hmx
  clear hL hnil hmx
  obtain ⟨b, x, ho⟩ := Crc.opens_some l
  have HO := hide ho
  clear ho
  go_enter Try.func3, Try.ntmps3
  go_wp2_with fail
  refine (open_says a l l.length cap w b x rfl HL.out hcap HM.out (by omega) HO.out).mono ?_
  rintro e w1 ⟨v1, rfl, hx, hb1⟩
  have HX := hide hx
  clear hx
  go_wp2_with fail
  refine (refOpen_says a l l.length cap w1 b x rfl ((HL.out.below hb1).mono hb1.size) hcap HM.out (by omega) HO.out).mono ?_
  rintro e w2 ⟨v2, rfl, hy, hb2⟩
  have hbx2 := hb1.trans (hb2.mono hb1.size)
  have HY := hide hy
  clear hy
  go_wp2_with fail
  refine (seal_any a l cap w2 ((HL.out.below hbx2).mono hbx2.size) HN.out (by omega)).mono ?_
  rintro e w3 ⟨v3, rfl, hown, hb3⟩
  have hbx3 := hbx2.trans (hb3.mono hbx2.size)
  obtain ⟨a3, c3, rfl, k1, k2, k3, k4, k5⟩ := hown.form
  have hk : (Crc.sealed l).length ≤ 100000 := by rw [Crc.sealed_length]; omega
  clear hown
  have K3 := hide k3
  have K2 := hide k2
  clear k3 k4 k5 k2
  go_wp2_with fail
  refine (open_says a3 (Crc.sealed l) (Crc.sealed l).length c3 w3 true l rfl K3.out.came k1 K2.out (by omega) (.inl ⟨rfl, l.length, Crc.sealed_length l, Crc.good_sealed l, (Crc.take_sealed l).symm⟩)).mono ?_
  rintro e wz ⟨vz, rfl, hz, hbz⟩
  have hbx := hbx3.trans (hbz.mono hbx3.size)
  have hx := HX.out.after (hb2.trans ((hb3.trans (hbz.mono hb3.size)).mono hb2.size))
  have hy := HY.out.after (hb3.trans (hbz.mono hb3.size))
  clear hbx3 hbx2 hb1 hb2 hb3 hbz hk k1 K2 K3 HX HY
  have HX := hide hx
  have HY := hide hy
  have HZ := hide hz
  have HB := hide hbx
  clear hx hy hz hbx
  go_wp2_with fail
  refine going_start (by kernel_rfl) ?_
  refine going_take (i := 0) (oi := { dst := some 29, op := Op.move (Operand.tmp 0), type := 22, pos := _, after := _, guard := none }) (v := _) rfl (by kernel_rfl) (by kernel_rfl) (by kernel_rfl) (fun _ _ _ h => h) (by rfl) (by intro w' hSw; go_simp; try with_reducible rfl) ?_
  simp only [Act.put, List.setIfInBounds_toArray, List.set_cons_zero, List.set_cons_succ]
  refine going_take (i := 2) (oi := { dst := some 31, op := Op.move (Operand.tmp 0), type := 22, pos := _, after := _, guard := none }) (v := _) rfl (by kernel_rfl) (by kernel_rfl) (by kernel_rfl) (fun _ _ _ h => h) (by rfl) (by intro w' hSw; go_simp; try with_reducible rfl) ?_
  simp only [Act.put, List.setIfInBounds_toArray, List.set_cons_zero, List.set_cons_succ]
  refine going_step (i := 1) (o := { dst := some 30, op := Op.call { callee := Callee.value (Operand.func 11), args := #[Operand.tmp 29], argTypes := #[22] }, type := 27, pos := _, after := _, guard := none }) (by kernel_rfl) rfl (by rfl) (fun K hK => ?_)
  go_simp
  refine (sum_any a l cap _ (HL.out.below HB.out.drew).lies (by omega)).mono ?_
  rintro e w1 ⟨rfl, hw⟩
  subst hw
  refine hK.out _ _ (Below.refl _ _) ?_
  clear hK K
  try simp only [Act.put, List.setIfInBounds_toArray, List.set_cons_zero, List.set_cons_succ]
  refine going_step (i := 3) (o := { dst := some 32, op := Op.call { callee := Callee.value (Operand.func 12), args := #[Operand.tmp 31], argTypes := #[22] }, type := 27, pos := _, after := _, guard := none }) (by kernel_rfl) rfl (by rfl) (fun K hK => ?_)
  go_simp
  refine (refSum_any a l cap _ (HL.out.below HB.out.drew).lies (by omega)).mono ?_
  rintro e w1 ⟨rfl, hw⟩
  subst hw
  refine hK.out _ _ (Below.refl _ _) ?_
  clear hK K
  try simp only [Act.put, List.setIfInBounds_toArray, List.set_cons_zero, List.set_cons_succ]
  refine going_take (i := 4) (oi := { dst := some 33, op := Op.binOp BinOp.eql 27 (Operand.tmp 30) (Operand.tmp 32) 27, type := 4, pos := _, after := _, guard := none }) (v := _) rfl (by kernel_rfl) (by kernel_rfl) (by kernel_rfl) (fun _ _ _ h => h) (by rfl) (by intro w' hSw; go_simp; try with_reducible rfl) ?_
  simp only [Act.put, List.setIfInBounds_toArray, List.set_cons_zero, List.set_cons_succ]
  refine going_take (i := 5) (oi := { dst := some 34, op := Op.move (Operand.tmp 33), type := 4, pos := _, after := _, guard := none }) (v := _) rfl (by kernel_rfl) (by kernel_rfl) (by kernel_rfl) (fun _ _ _ h => h) (by rfl) (by intro w' hSw; go_simp; try with_reducible rfl) ?_
  simp only [Act.put, List.setIfInBounds_toArray, List.set_cons_zero, List.set_cons_succ]
  refine going_take (i := 6) (oi := { dst := some 35, op := Op.move (Operand.tmp 0), type := 22, pos := _, after := _, guard := some (5, true) }) (v := _) rfl (by kernel_rfl) (by kernel_rfl) (by kernel_rfl) (fun _ _ _ h => h) (by rfl) (by intro w' hSw; go_simp; try with_reducible rfl) ?_
  simp only [Act.put, List.setIfInBounds_toArray, List.set_cons_zero, List.set_cons_succ]
  refine going_take (i := 9) (oi := { dst := some 38, op := Op.move (Operand.tmp 0), type := 22, pos := _, after := _, guard := some (5, true) }) (v := _) rfl (by kernel_rfl) (by kernel_rfl) (by kernel_rfl) (fun _ _ _ h => h) (by rfl) (by intro w' hSw; go_simp; try with_reducible rfl) ?_
  simp only [Act.put, List.setIfInBounds_toArray, List.set_cons_zero, List.set_cons_succ]
  refine going_step (i := 7) (o := { dst := some 36, op := Op.call { callee := Callee.value (Operand.func 10), args := #[Operand.tmp 35], argTypes := #[22] }, type := 22, pos := _, after := _, guard := some (5, true) }) (by kernel_rfl) rfl (by rfl) (fun K hK => ?_)
  go_simp
  refine (seal_any a l cap _ ((HL.out.below HB.out.drew).mono HB.out.drew.size) HN.out (by omega)).mono ?_
  rintro e w4 ⟨v4, rfl, hown4, hb4⟩
  refine hK.out _ _ hb4 ?_
  have hc4 := hide (says_owns hown4)
  have hbx4 := hide (HB.out.drew.trans (hb4.mono HB.out.drew.size))
  have hz4 := hide ((Below.refl _ wz).drew.trans hb4)
  clear hown4 hb4
  clear hK K
  try simp only [Act.put, List.setIfInBounds_toArray, List.set_cons_zero, List.set_cons_succ]
  refine going_take (i := 8) (oi := { dst := some 37, op := Op.convert 22 9 (Operand.tmp 36), type := 9, pos := _, after := _, guard := some (5, true) }) (v := _) rfl (by kernel_rfl) (by kernel_rfl) (by kernel_rfl) (fun _ _ _ h => h) (by rfl) (by intro w' hSw; have hq := hc4.out w' hSw; go_simp; try with_reducible rfl) ?_
  simp only [Act.put, List.setIfInBounds_toArray, List.set_cons_zero, List.set_cons_succ]
  refine going_step (i := 10) (o := { dst := some 39, op := Op.call { callee := Callee.value (Operand.func 13), args := #[Operand.tmp 38], argTypes := #[22] }, type := 22, pos := _, after := _, guard := some (5, true) }) (by kernel_rfl) rfl (by rfl) (fun K hK => ?_)
  go_simp
  refine (refSeal_any a l cap _ ((HL.out.below hbx4.out).mono hbx4.out.size) HN.out (by omega)).mono ?_
  rintro e w5 ⟨v5, rfl, hown5, hb5⟩
  refine hK.out _ _ hb5 ?_
  have hc5 := hide (says_owns hown5)
  have hbx5 := hide (hbx4.out.trans (hb5.mono hbx4.out.size))
  have hz5 := hide (hz4.out.trans (hb5.mono hz4.out.size))
  clear hown5 hb5
  clear hK K
  try simp only [Act.put, List.setIfInBounds_toArray, List.set_cons_zero, List.set_cons_succ]
  refine going_take (i := 11) (oi := { dst := some 40, op := Op.convert 22 9 (Operand.tmp 39), type := 9, pos := _, after := _, guard := some (5, true) }) (v := _) rfl (by kernel_rfl) (by kernel_rfl) (by kernel_rfl) (fun _ _ _ h => h) (by rfl) (by intro w' hSw; have hq := hc5.out w' hSw; go_simp; try with_reducible rfl) ?_
  simp only [Act.put, List.setIfInBounds_toArray, List.set_cons_zero, List.set_cons_succ]
  refine going_take (i := 12) (oi := { dst := some 41, op := Op.binOp BinOp.eql 9 (Operand.tmp 37) (Operand.tmp 40) 9, type := 4, pos := _, after := _, guard := some (5, true) }) (v := _) rfl (by kernel_rfl) (by kernel_rfl) (by kernel_rfl) (fun _ _ _ h => h) (by rfl) (by intro w' hSw; go_simp; try with_reducible rfl) ?_
  simp only [Act.put, List.setIfInBounds_toArray, List.set_cons_zero, List.set_cons_succ]
  refine going_take (i := 13) (oi := { dst := some 42, op := Op.pick (Operand.tmp 34) (Operand.tmp 41) (Operand.const (Value.bool false)), type := 4, pos := _, after := _, guard := none }) (v := _) rfl (by kernel_rfl) (by kernel_rfl) (by kernel_rfl) (fun _ _ _ h => h) (by rfl) (by intro w' hSw; go_simp; try with_reducible rfl) ?_
  simp only [Act.put, List.setIfInBounds_toArray, List.set_cons_zero, List.set_cons_succ]
  refine going_take (i := 14) (oi := { dst := some 43, op := Op.move (Operand.tmp 42), type := 4, pos := _, after := _, guard := none }) (v := _) rfl (by kernel_rfl) (by kernel_rfl) (by kernel_rfl) (fun _ _ _ h => h) (by rfl) (by intro w' hSw; go_simp; try with_reducible rfl) ?_
  simp only [Act.put, List.setIfInBounds_toArray, List.set_cons_zero, List.set_cons_succ]
  refine going_take (i := 15) (oi := { dst := some 44, op := Op.move (Operand.tmp 3), type := 22, pos := _, after := _, guard := some (14, true) }) (v := _) rfl (by kernel_rfl) (by kernel_rfl) (by kernel_rfl) (fun _ _ _ h => h) (by rfl) (by intro w' hSw; go_simp; try with_reducible rfl) ?_
  simp only [Act.put, List.setIfInBounds_toArray, List.set_cons_zero, List.set_cons_succ]
  refine going_take (i := 16) (oi := { dst := some 45, op := Op.convert 22 9 (Operand.tmp 44), type := 9, pos := _, after := _, guard := some (14, true) }) (v := _) rfl (by kernel_rfl) (by kernel_rfl) (by kernel_rfl) (fun _ _ _ h => h) (by rfl) (by intro w' hSw; have hq := HX.out.after hz5.out w' hSw; go_simp; try with_reducible rfl) ?_
  simp only [Act.put, List.setIfInBounds_toArray, List.set_cons_zero, List.set_cons_succ]
  refine going_take (i := 17) (oi := { dst := some 46, op := Op.move (Operand.tmp 5), type := 22, pos := _, after := _, guard := some (14, true) }) (v := _) rfl (by kernel_rfl) (by kernel_rfl) (by kernel_rfl) (fun _ _ _ h => h) (by rfl) (by intro w' hSw; go_simp; try with_reducible rfl) ?_
  simp only [Act.put, List.setIfInBounds_toArray, List.set_cons_zero, List.set_cons_succ]
  refine going_take (i := 18) (oi := { dst := some 47, op := Op.convert 22 9 (Operand.tmp 46), type := 9, pos := _, after := _, guard := some (14, true) }) (v := _) rfl (by kernel_rfl) (by kernel_rfl) (by kernel_rfl) (fun _ _ _ h => h) (by rfl) (by intro w' hSw; have hq := HY.out.after hz5.out w' hSw; go_simp; try with_reducible rfl) ?_
  simp only [Act.put, List.setIfInBounds_toArray, List.set_cons_zero, List.set_cons_succ]
  refine going_take (i := 19) (oi := { dst := some 48, op := Op.binOp BinOp.eql 9 (Operand.tmp 45) (Operand.tmp 47) 9, type := 4, pos := _, after := _, guard := some (14, true) }) (v := _) rfl (by kernel_rfl) (by kernel_rfl) (by kernel_rfl) (fun _ _ _ h => h) (by rfl) (by intro w' hSw; go_simp; try with_reducible rfl) ?_
  simp only [Act.put, List.setIfInBounds_toArray, List.set_cons_zero, List.set_cons_succ]
  refine going_take (i := 20) (oi := { dst := some 49, op := Op.pick (Operand.tmp 43) (Operand.tmp 48) (Operand.const (Value.bool false)), type := 4, pos := _, after := _, guard := none }) (v := _) rfl (by kernel_rfl) (by kernel_rfl) (by kernel_rfl) (fun _ _ _ h => h) (by rfl) (by intro w' hSw; go_simp; try with_reducible rfl) ?_
  simp only [Act.put, List.setIfInBounds_toArray, List.set_cons_zero, List.set_cons_succ]
  refine going_take (i := 21) (oi := { dst := some 50, op := Op.move (Operand.tmp 49), type := 4, pos := _, after := _, guard := none }) (v := _) rfl (by kernel_rfl) (by kernel_rfl) (by kernel_rfl) (fun _ _ _ h => h) (by rfl) (by intro w' hSw; go_simp; try with_reducible rfl) ?_
  simp only [Act.put, List.setIfInBounds_toArray, List.set_cons_zero, List.set_cons_succ]
  refine going_take (i := 22) (oi := { dst := some 51, op := Op.move (Operand.tmp 4), type := 4, pos := _, after := _, guard := some (21, true) }) (v := _) rfl (by kernel_rfl) (by kernel_rfl) (by kernel_rfl) (fun _ _ _ h => h) (by rfl) (by intro w' hSw; go_simp; try with_reducible rfl) ?_
  simp only [Act.put, List.setIfInBounds_toArray, List.set_cons_zero, List.set_cons_succ]
  refine going_take (i := 23) (oi := { dst := some 52, op := Op.move (Operand.tmp 6), type := 4, pos := _, after := _, guard := some (21, true) }) (v := _) rfl (by kernel_rfl) (by kernel_rfl) (by kernel_rfl) (fun _ _ _ h => h) (by rfl) (by intro w' hSw; go_simp; try with_reducible rfl) ?_
  simp only [Act.put, List.setIfInBounds_toArray, List.set_cons_zero, List.set_cons_succ]
  refine going_take (i := 24) (oi := { dst := some 53, op := Op.binOp BinOp.eql 4 (Operand.tmp 51) (Operand.tmp 52) 4, type := 4, pos := _, after := _, guard := some (21, true) }) (v := _) rfl (by kernel_rfl) (by kernel_rfl) (by kernel_rfl) (fun _ _ _ h => h) (by rfl) (by intro w' hSw; go_simp; try with_reducible rfl) ?_
  simp only [Act.put, List.setIfInBounds_toArray, List.set_cons_zero, List.set_cons_succ]
  refine going_take (i := 25) (oi := { dst := some 54, op := Op.pick (Operand.tmp 50) (Operand.tmp 53) (Operand.const (Value.bool false)), type := 4, pos := _, after := _, guard := none }) (v := _) rfl (by kernel_rfl) (by kernel_rfl) (by kernel_rfl) (fun _ _ _ h => h) (by rfl) (by intro w' hSw; go_simp; try with_reducible rfl) ?_
  simp only [Act.put, List.setIfInBounds_toArray, List.set_cons_zero, List.set_cons_succ]
  refine going_take (i := 26) (oi := { dst := some 55, op := Op.move (Operand.tmp 54), type := 4, pos := _, after := _, guard := none }) (v := _) rfl (by kernel_rfl) (by kernel_rfl) (by kernel_rfl) (fun _ _ _ h => h) (by rfl) (by intro w' hSw; go_simp; try with_reducible rfl) ?_
  simp only [Act.put, List.setIfInBounds_toArray, List.set_cons_zero, List.set_cons_succ]
  refine going_take (i := 27) (oi := { dst := some 56, op := Op.move (Operand.tmp 8), type := 4, pos := _, after := _, guard := some (26, true) }) (v := _) rfl (by kernel_rfl) (by kernel_rfl) (by kernel_rfl) (fun _ _ _ h => h) (by rfl) (by intro w' hSw; go_simp; try with_reducible rfl) ?_
  simp only [Act.put, List.setIfInBounds_toArray, List.set_cons_zero, List.set_cons_succ]
  refine going_take (i := 28) (oi := { dst := some 57, op := Op.pick (Operand.tmp 55) (Operand.tmp 56) (Operand.const (Value.bool false)), type := 4, pos := _, after := _, guard := none }) (v := _) rfl (by kernel_rfl) (by kernel_rfl) (by kernel_rfl) (fun _ _ _ h => h) (by rfl) (by intro w' hSw; go_simp; try with_reducible rfl) ?_
  simp only [Act.put, List.setIfInBounds_toArray, List.set_cons_zero, List.set_cons_succ]
  refine going_take (i := 29) (oi := { dst := some 58, op := Op.move (Operand.tmp 57), type := 4, pos := _, after := _, guard := none }) (v := _) rfl (by kernel_rfl) (by kernel_rfl) (by kernel_rfl) (fun _ _ _ h => h) (by rfl) (by intro w' hSw; go_simp; try with_reducible rfl) ?_
  simp only [Act.put, List.setIfInBounds_toArray, List.set_cons_zero, List.set_cons_succ]
  refine going_take (i := 30) (oi := { dst := some 59, op := Op.move (Operand.tmp 7), type := 22, pos := _, after := _, guard := some (29, true) }) (v := _) rfl (by kernel_rfl) (by kernel_rfl) (by kernel_rfl) (fun _ _ _ h => h) (by rfl) (by intro w' hSw; go_simp; try with_reducible rfl) ?_
  simp only [Act.put, List.setIfInBounds_toArray, List.set_cons_zero, List.set_cons_succ]
  refine going_take (i := 31) (oi := { dst := some 60, op := Op.convert 22 9 (Operand.tmp 59), type := 9, pos := _, after := _, guard := some (29, true) }) (v := _) rfl (by kernel_rfl) (by kernel_rfl) (by kernel_rfl) (fun _ _ _ h => h) (by rfl) (by intro w' hSw; have hq := HZ.out.after hz5.out w' hSw; go_simp; try with_reducible rfl) ?_
  simp only [Act.put, List.setIfInBounds_toArray, List.set_cons_zero, List.set_cons_succ]
  refine going_take (i := 32) (oi := { dst := some 61, op := Op.move (Operand.tmp 0), type := 22, pos := _, after := _, guard := some (29, true) }) (v := _) rfl (by kernel_rfl) (by kernel_rfl) (by kernel_rfl) (fun _ _ _ h => h) (by rfl) (by intro w' hSw; go_simp; try with_reducible rfl) ?_
  simp only [Act.put, List.setIfInBounds_toArray, List.set_cons_zero, List.set_cons_succ]
  refine going_take (i := 33) (oi := { dst := some 62, op := Op.convert 22 9 (Operand.tmp 61), type := 9, pos := _, after := _, guard := some (29, true) }) (v := _) rfl (by kernel_rfl) (by kernel_rfl) (by kernel_rfl) (fun _ _ _ h => h) (by rfl) (by intro w' hSw; have hq := (says_came (n := l.length) (cap := cap) HL.out rfl).after hbx5.out w' hSw; go_simp; try with_reducible rfl) ?_
  simp only [Act.put, List.setIfInBounds_toArray, List.set_cons_zero, List.set_cons_succ]
  refine going_take (i := 34) (oi := { dst := some 63, op := Op.binOp BinOp.eql 9 (Operand.tmp 60) (Operand.tmp 62) 9, type := 4, pos := _, after := _, guard := some (29, true) }) (v := _) rfl (by kernel_rfl) (by kernel_rfl) (by kernel_rfl) (fun _ _ _ h => h) (by rfl) (by intro w' hSw; go_simp; try with_reducible rfl) ?_
  simp only [Act.put, List.setIfInBounds_toArray, List.set_cons_zero, List.set_cons_succ]
  refine going_take (i := 35) (oi := { dst := some 64, op := Op.pick (Operand.tmp 58) (Operand.tmp 63) (Operand.const (Value.bool false)), type := 4, pos := _, after := _, guard := none }) (v := _) rfl (by kernel_rfl) (by kernel_rfl) (by kernel_rfl) (fun _ _ _ h => h) (by rfl) (by intro w' hSw; go_simp; try with_reducible rfl) ?_
  simp only [Act.put, List.setIfInBounds_toArray, List.set_cons_zero, List.set_cons_succ]
  refine going_take (i := 36) (oi := { dst := some 65, op := Op.move (Operand.tmp 64), type := 4, pos := _, after := _, guard := none }) (v := _) rfl (by kernel_rfl) (by kernel_rfl) (by kernel_rfl) (fun _ _ _ h => h) (by rfl) (by intro w' hSw; go_simp; try with_reducible rfl) ?_
  simp only [Act.put, List.setIfInBounds_toArray, List.set_cons_zero, List.set_cons_succ]
  refine going_step (i := 37) (o := { dst := some 66, op := Op.call { callee := Callee.value (Operand.func 7), args := #[], argTypes := #[] }, type := 4, pos := _, after := _, guard := some (36, true) }) (by kernel_rfl) rfl (by rfl) (fun K hK => ?_)
  go_simp
  refine (lives_any _).mono ?_
  rintro e w6 ⟨rfl, hb6⟩
  refine hK.out _ _ hb6 ?_
  have hbx6 := hide (hbx5.out.trans (hb6.mono hbx5.out.size))
  clear hb6
  clear hK K
  try simp only [Act.put, List.setIfInBounds_toArray, List.set_cons_zero, List.set_cons_succ]
  refine going_take (i := 38) (oi := { dst := some 67, op := Op.pick (Operand.tmp 65) (Operand.tmp 66) (Operand.const (Value.bool false)), type := 4, pos := _, after := _, guard := none }) (v := _) rfl (by kernel_rfl) (by kernel_rfl) (by kernel_rfl) (fun _ _ _ h => h) (by rfl) (by intro w' hSw; go_simp; try with_reducible rfl) ?_
  simp only [Act.put, List.setIfInBounds_toArray, List.set_cons_zero, List.set_cons_succ]
  refine going_take (i := 39) (oi := { dst := some 2, op := Op.assign (Operand.tmp 67), type := 4, pos := _, after := _, guard := none }) (v := _) rfl (by kernel_rfl) (by kernel_rfl) (by kernel_rfl) (fun _ _ _ h => h) (by rfl) (by intro w' hSw; go_simp; try with_reducible rfl) ?_
  simp only [Act.put, List.setIfInBounds_toArray, List.set_cons_zero, List.set_cons_succ]
  refine going_done (by kernel_rfl) ?_
  go_wp2
  go_ret
  exact ⟨rfl, hbx6.out⟩

set_option maxHeartbeats 400000 in
theorem tells_big (a : Option Addr) (n cap : Nat) (w : World) (hm : 5000 < n) :
    Calls Try.prog 3 #[.slice a n cap] w fun e w' => e = .returned (.bool true) ∧ Below w.heap.size w w' := by
  go_enter Try.func3, Try.ntmps3
  go_wp2_with (go_at_call 7; refine (lives_any _).mono ?_; rintro e w' ⟨rfl, hlv⟩)
  go_ret
  exact ⟨rfl, hlv⟩

theorem row_nil {k : IntKind} {w : World} {a : Option Addr} {len cap : Nat} {zs : List Int} (h : IsRow k w a len cap zs) : a = none → len = 0 ∧ cap = 0 := by
  rcases h with ⟨rfl, rfl, rfl, rfl⟩ | ⟨x, rfl, _⟩
  · exact fun _ => ⟨rfl, rfl⟩
  · intro h; cases h

theorem tells_all (a : Option Addr) (n cap : Nat) (zs : List Int) (w : World) (h : IsRow .u8 w a n cap zs) :
    Calls Try.prog 3 #[.slice a n cap] w fun e w' => e = .returned (.bool true) ∧ Below w.heap.size w w' := by
  by_cases hm : n ≤ 5000
  · obtain ⟨l, rfl, hc, hx, hg⟩ := came_of_row h
    exact tells_walk a l cap w hg (fun e => ⟨List.length_eq_zero_iff.1 (row_nil h e).1, (row_nil h e).2⟩) hc hx hm
  · exact tells_big a n cap w (by omega)
end Go.Proofs.Ytaichjkenfnkbab
