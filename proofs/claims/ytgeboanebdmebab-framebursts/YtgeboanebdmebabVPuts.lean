/- Numbers and texts that are put behind bytes, as the program does it. -/
import Derived.Test.YtgeboanebdmebabChecked
import Derived.Test.YtgeboanebdmebabVMath
import Derived.Test.YtgeboanebdmebabBytes
import Derived.Test.YtgeboanebdmebabDraw
namespace Go.Proofs.Ytgeboanebdmebab.V
open Go.RowKit Go.By
set_option linter.unusedVariables false

theorem Try.info5 : (Try.prog.info? 5).map (fun i => (i.zero, i.size, i.bytes)) = some (some (.int .u8 0), 1, 1) := by kernel_rfl

theorem eql_nil (w : World) (a : Option Addr) (n c n' c' : Nat) : (binOp .eql 27 (.slice a n c) (.slice none n' c')).run Try.prog w = .ok (.bool a.isNone) w :=
  Lib.run_eql_slice_nil w _ _ a n c n' c' Try.underlying27

set_option maxHeartbeats 400000 in
theorem clone_any (a : Option Addr) (l : List Nat) (n cap : Nat) (w : World) (hn : l.length = n) (hL : Came w.heap.size w a l) (hnil : a = none → l = [] ∧ cap = 0) (hm : n ≤ 20000) :
    Calls Try.prog 25 #[.slice a n cap] w fun e w' => ∃ v, e = .returned v ∧ Owns w' w.heap.size v l ∧ Below w.heap.size w w' := by
  have hq := eql_nil
  subst hn
  cases a with
  | none =>
    obtain ⟨rfl, rfl⟩ := hnil rfl
    go_enter Try.func25, Try.ntmps25
    go_wp2
    go_ret
    exact ⟨_, rfl, Owns.nil _ _, Below.refl _ _⟩
  | some x =>
    have HL := hide hL
    clear hL
    have hW : Below w.heap.size w (w.alloc (.cells #[] 5)) := (Below.refl _ _).alloc (Nat.le_refl _) _
    have HW := hide hW
    clear hW
    go_enter Try.func25, Try.ntmps25
    go_wp2_with (at_builtin; refine wpList_append_bytes rfl _ _ rfl Try.underlying27 Try.info5 w.heap.size _ [] rfl (owns_empty w _ (Nat.le_refl _)) (some x) l l.length cap rfl rfl (HL.out.below HW.out).lies (by simp) (by simp; omega) (by simp) ?_)
    intro v' w1 hown hgrow
    go_wp2
    go_ret
    exact ⟨v', rfl, hown, Below.app HW.out hgrow (owns_empty w _ (Nat.le_refl _)) (Nat.le_refl _) (by simp)⟩

/-- The store that grows: its one cell holds the slice of the bytes so far. -/
def St (w : World) (base h : Nat) (l : List Nat) : Prop :=
  ∃ v, w.heap[h]? = some (.cells #[v] 67 (0, 0)) ∧ base ≤ h ∧ Owns w base v l

/-- A store into a block that is no row of bytes leaves what is owned. -/
theorem Owns.aside {w : World} {base h : Nat} {v u : Value} {l : List Nat} {cs : Array Value} {fr : Nat × Nat} (ho : Owns w base v l) (hh : w.heap[h]? = some (.cells cs 67 fr)) : Owns (w.setCell ⟨h, 0, none⟩ u) base v l := by
  obtain ⟨⟨h0, h1⟩, h2⟩ := ho
  refine ⟨⟨h0, h1.elim .inl fun ⟨g, cap, cur, hv, hg, hx, r⟩ => .inr ⟨g, cap, cur, hv, hg, ?_, r⟩⟩, h2⟩
  have hne : g ≠ h := by
    intro e
    subst e
    rw [hh] at hx
    simp at hx
  rw [Below.heap_setCell w _ u g hne, hx]

/-- The block of the store is no row of bytes. -/
theorem own_ne {w : World} {base h : Nat} {v : Value} {l : List Nat} {cs : Array Value} {fr : Nat × Nat} (ho : Owns w base v l) (hh : w.heap[h]? = some (.cells cs 67 fr)) : some h ≠ v.ownBlock := by
  obtain ⟨⟨h0, h1⟩, h2⟩ := ho
  rcases h1 with ⟨rfl, _⟩ | ⟨g, cap, cur, rfl, hg, hx, _⟩
  · simp [Value.ownBlock]
  · intro e
    simp [Value.ownBlock] at e
    subst e
    rw [hh] at hx
    simp at hx

set_option maxHeartbeats 1000000 in
set_option maxRecDepth 20000 in
theorem num_any (n h base : Nat) (l : List Nat) (w : World) (hs : St w base h l) (hb : base ≤ w.heap.size) (hn : n ≤ Vary.maxNum) (hl : l.length ≤ 20000) :
    Calls Try.prog 22 #[.pointer (some ⟨h, 0, none⟩), .int .i64 (n : Int)] w fun e w' => e = .returned (.tuple #[]) ∧ St w' base h (l ++ Vary.put n) ∧ Below base w w' := by
  have h1 : decide ((n : Int) < 0) = false := by simp
  have h2 : decide ((4611686018427387904 : Int) < (n : Int)) = false := by unfold Vary.maxNum at hn; simp; omega
  have HS := hide hs
  clear hs
  go_enter Try.func22, Try.ntmps22
  go_wp2_with fail
  have hstart : n < 128 ^ (9 + 1) := by
    have := Vary.max_lt
    have : (128 : Nat) ^ 9 ≤ 128 ^ (9 + 1) := Nat.pow_le_pow_right (by omega) (by omega)
    omega
  have hlen := Vary.put_length n
  go_loopw [1] (fun z wr => ∃ m f : Nat, ∃ pre : List Nat, z = .int .i64 m ∧ m ≤ Vary.maxNum ∧ m < 128 ^ (f + 1) ∧ St wr base h pre ∧ pre ++ Vary.putF f m = l ++ Vary.put n ∧ Below base w wr) (fun z _ => (intOf z).toNat)
  case atStart => exact ⟨n, 9, l, rfl, hn, hstart, HS.out, rfl, Below.refl _ _⟩
  case round =>
    obtain ⟨m, f, pre, rfl, hm, hmf, hst, heq, hbel⟩ := hrel
    have hpre : pre.length ≤ 20010 := by
      have := congrArg List.length heq
      simp only [List.length_append] at this
      omega
    obtain ⟨v, hheap, hbh, hown⟩ := hst
    have hne := own_ne hown hheap
    obtain ⟨av, cv, rfl, -⟩ := hown.form
    have hc : wr.cell? ⟨h, 0, none⟩ = some (.slice av pre.length cv) := by rw [Joins.cell_of_block hheap]; rfl
    have hf : wr.frozen? ⟨h, 0, none⟩ = false := Joins.unfrozen_of_block hheap 0
    have hlth : h < wr.heap.size := World.block_lt_of_cell? wr _ hc
    have hbs : base ≤ wr.heap.size := Nat.le_trans hb hbel.size
    have hmi : (m : Int) ≤ 4611686018427387904 := by unfold Vary.maxNum at hm; omega
    have HMX := hide hm
    clear hm
    have HH := hide hheap
    have HO := hide hown
    have HB := hide hbel
    have HE := hide heq
    have HM := hide hmf
    have HNE := hide hne
    clear hheap hown hbel heq hmf hne hstart hlen hn h1 h2
    by_cases hge : 128 ≤ m
    · go_wp2_with (at_builtin; refine wpList_append_byte rfl _ _ rfl Try.underlying27 Try.info5 base _ pre rfl HO.out (m % 128 + 128) _ (by omega) (by omega) _ rfl rfl (by omega) hbs ?_)
      intro v' w1 hown1 hgrow
      obtain ⟨av', cv', rfl, -⟩ := hown1.form
      rw [List.length_append, List.length_singleton] at hown1
      have hh1 : w1.heap[h]? = some (.cells #[.slice av pre.length cv] 67 (0, 0)) := by
        rw [hgrow.block h (by simp; omega) HNE.out, Below.heap_alloc _ _ _ hlth]; exact HH.out
      have hb1 : Below base w w1 := Below.app (HB.out.alloc hbs _) hgrow (HO.out.alloc _) (Nat.le_refl _) (by simp; omega)
      have hc1 : w1.cell? ⟨h, 0, none⟩ = some (.slice av pre.length cv) := by rw [Joins.cell_of_block hh1]; rfl
      have hf1 : w1.frozen? ⟨h, 0, none⟩ = false := Joins.unfrozen_of_block hh1 0
      have HO1 := hide hown1
      have HH1 := hide hh1
      have HB1 := hide hb1
      clear hown1 hh1 hb1 hgrow
      go_wp2
      go_roundw
      case rel =>
        obtain ⟨f, rfl⟩ : ∃ k, f = k + 1 := by
          refine ⟨f - 1, ?_⟩
          rcases f with _ | f
          · have := HM.out; simp at this; omega
          · omega
        refine ⟨m / 128, f, pre ++ [m % 128 + 128], by go_num, ?_, ?_, ⟨_, Joins.block_setCell HH1.out _, hbh, Owns.aside HO1.out HH1.out⟩, ?_, HB1.out.setCell hbh _⟩
        · have := HMX.out; omega
        · have := HM.out
          rw [Nat.pow_succ] at this
          exact Nat.div_lt_of_lt_mul (by rw [Nat.mul_comm]; exact this)
        · rw [← HE.out, Vary.putF_more f m hge, List.append_assoc]; rfl
      case measure => simp [intOf]; omega
    · go_wp2_with (at_builtin; refine wpList_append_byte rfl _ _ rfl Try.underlying27 Try.info5 base _ pre rfl HO.out m _ rfl (by omega) _ rfl rfl (by omega) hbs ?_)
      intro v' w1 hown1 hgrow
      obtain ⟨av', cv', rfl, -⟩ := hown1.form
      rw [List.length_append, List.length_singleton] at hown1
      have hh1 : w1.heap[h]? = some (.cells #[.slice av pre.length cv] 67 (0, 0)) := by
        rw [hgrow.block h (by simp; omega) HNE.out, Below.heap_alloc _ _ _ hlth]; exact HH.out
      have hb1 : Below base w w1 := Below.app (HB.out.alloc hbs _) hgrow (HO.out.alloc _) (Nat.le_refl _) (by simp; omega)
      have hc1 : w1.cell? ⟨h, 0, none⟩ = some (.slice av pre.length cv) := by rw [Joins.cell_of_block hh1]; rfl
      have hf1 : w1.frozen? ⟨h, 0, none⟩ = false := Joins.unfrozen_of_block hh1 0
      have HO1 := hide hown1
      have HH1 := hide hh1
      have HB1 := hide hb1
      clear hown1 hh1 hb1 hgrow
      go_wp2
      go_end0
      refine ⟨rfl, ⟨_, Joins.block_setCell HH1.out _, hbh, ?_⟩, HB1.out.setCell hbh _⟩
      rw [← HE.out, Vary.putF_less f m (by omega)]
      exact Owns.aside HO1.out HH1.out

set_option maxHeartbeats 400000 in
set_option maxRecDepth 20000 in
theorem num_out (z : Int) (p : Value) (w : World) (hz : z < 0 ∨ 4611686018427387904 < z) :
    Calls Try.prog 22 #[p, .int .i64 z] w fun e w' => e = .returned (.tuple #[]) ∧ w' = w := by
  rcases hz with hz | hz
  · have h1 : decide (z < 0) = true := by simp; omega
    go_enter Try.func22, Try.ntmps22
    go_wp2
    exact bodyPost_ret (results_none rfl _ _ _) rfl ⟨rfl, rfl⟩
  · have h1 : decide (z < 0) = false := by simp; omega
    have h2 : decide ((4611686018427387904 : Int) < z) = true := by simp; omega
    go_enter Try.func22, Try.ntmps22
    go_wp2
    exact bodyPost_ret (results_none rfl _ _ _) rfl ⟨rfl, rfl⟩


theorem numI_any (z : Int) (h base : Nat) (l : List Nat) (w : World) (hs : St w base h l) (hb : base ≤ w.heap.size) (hl : l.length ≤ 20000) :
    Calls Try.prog 22 #[.pointer (some ⟨h, 0, none⟩), .int .i64 z] w fun e w' => e = .returned (.tuple #[]) ∧ St w' base h (l ++ Vary.putI z) ∧ Below base w w' := by
  by_cases hz : z < 0 ∨ 4611686018427387904 < z
  · refine (num_out z _ w hz).mono ?_
    rintro e w' ⟨rfl, rfl⟩
    have : Vary.putI z = [] := by unfold Vary.putI; rw [if_neg (by omega)]
    rw [this, List.append_nil]
    exact ⟨rfl, hs, Below.refl _ _⟩
  · obtain ⟨n, rfl⟩ := Int.eq_ofNat_of_zero_le (show 0 ≤ z by omega)
    have : Vary.putI (n : Int) = Vary.put n := by unfold Vary.putI; rw [if_pos (by omega)]; rfl
    rw [this]
    exact num_any n h base l w hs hb (by unfold Vary.maxNum; omega) hl

end Go.Proofs.Ytgeboanebdmebab.V
