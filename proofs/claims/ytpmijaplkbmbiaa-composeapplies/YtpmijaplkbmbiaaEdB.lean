/- Light; the reference's Idle and Nothing. -/
import Derived.Test.YtpmijaplkbmbiaaEdA
namespace Go.Proofs.Ytpmijaplkbmbiaa.E
open Go.Proofs.Ytpmijaplkbmbiaa Go.RowKit Go.By Go.Shelf
set_option linter.unusedVariables false

def LightR (rs : List Rn) : Prop := rs.length ≤ 100 ∧ ∀ x ∈ rs, x.add.size ≤ 200
instance (rs : List Rn) : Decidable (LightR rs) := by unfold LightR; infer_instance

/-- Runs are told. -/
def Gives (n₀ : Nat) (w : World) (rs : List Rn) (e : Ending) (W' : World) : Prop := ∃ a cap, e = .returned (.slice a rs.length cap) ∧ CameR W'.heap.size W' a rs ∧ Below n₀ w W'

set_option maxRecDepth 100000 in
set_option maxHeartbeats 8000000 in
theorem light_any (a : Option Addr) (cap : Nat) (rs : List Rn) (w : World) (hS : CameR w.heap.size w a rs) :
    Calls Try.prog 49 #[.slice a rs.length cap] w fun e W' => e = .returned (.bool (decide (LightR rs))) ∧ Below w.heap.size w W' := by
  go_enter Try.func49, Try.ntmps49
  by_cases hle : rs.length ≤ 100
  · have hle' : ¬ (100 : Int) < (rs.length : Int) := by omega
    go_wp2
    go_loopw [10] (fun c wr => ∃ k : Nat, k ≤ rs.length ∧ c = .int .i64 k ∧ (∀ x ∈ rs.take k, x.add.size ≤ 200) ∧ Below w.heap.size w wr)
      (fun c _ => rs.length - (intOf c).toNat)
    case atStart => exact ⟨0, Nat.zero_le _, rfl, by simp, Below.refl _ _⟩
    case round =>
      obtain ⟨k, hk, rfl, hs, hnx⟩ := hrel
      by_cases hlt : k < rs.length
      · obtain ⟨b, off, rfl, s0, s1, s2⟩ := came_at (hS.below hnx) hlt
        have hsn : rs.take (k + 1) = rs.take k ++ [rs.getD k rn0] := by rw [List.take_succ_eq_append_getElem hlt]; simp [List.getD, hlt]
        have hmem : rs.getD k rn0 ∈ rs := by simp [List.getD, hlt]
        obtain ⟨x, hx⟩ : ∃ x, x = rs.getD k rn0 := ⟨_, rfl⟩
        rw [← hx] at s0 s1 s2 hsn hmem
        obtain ⟨xk, xa, xd⟩ := x
        dsimp only at s0 s1 s2
        have hlt' : (k : Int) < (rs.length : Int) := by omega
        have HB := hide (hnx.alloc hnx.size (.cells #[.int .i64 xk, .string xa, .int .i64 xd] 91))
        by_cases hz : xa.size ≤ 200
        · have hz' : ¬ (200 : Int) < (xa.size : Int) := by omega
          have HQ : Hid (∀ x ∈ rs.take (k + 1), x.add.size ≤ 200) := by
            show ∀ x ∈ rs.take (k + 1), x.add.size ≤ 200
            rw [hsn]
            intro x hx
            rcases List.mem_append.1 hx with h | h
            · exact hs x h
            · rw [List.mem_singleton.1 h]; exact hz
          clear hx hsn hmem hs hnx hS
          go_wp2
          go_roundw
          case rel => exact ⟨k + 1, by omega, by simp, HQ.out, HB.out⟩
          case measure => simp [intOf]; omega
        · have hz' : (200 : Int) < (xa.size : Int) := by omega
          have HQ : Hid (¬ LightR rs) := fun h => hz (h.2 _ hmem)
          clear hx hsn hmem hs hnx hS
          go_wp2
          go_ret
          exact ⟨ret_bool (decide_eq_false HQ.out).symm, HB.out⟩
      · obtain rfl : k = rs.length := by omega
        have HQ : Hid (LightR rs) := ⟨hle, by rw [List.take_length] at hs; exact hs⟩
        clear hs
        go_wp2
        go_ret
        exact ⟨ret_bool (decide_eq_true HQ.out).symm, hnx⟩
  · have hle' : (100 : Int) < (rs.length : Int) := by omega
    go_wp2
    go_ret
    exact ⟨ret_bool (decide_eq_false (fun h => hle h.1)).symm, Below.refl _ _⟩

def nothR (n : Int) : List Rn := if n < 1 ∨ 16777216 < n then [] else [⟨n, ⟨#[]⟩, 0⟩]

set_option maxRecDepth 20000 in
set_option maxHeartbeats 4000000 in
theorem rnothing_any (n : Int) (w : World) : Calls Try.prog 68 #[.int .i64 n] w fun e W' => Gives w.heap.size w (nothR n) e W' := by
  go_enter Try.func68, Try.ntmps68
  by_cases h1 : n < 1
  · have HQ : Hid (nothR n = []) := by show _ = _; rw [nothR, if_pos (.inl h1)]
    go_wp2
    go_ret
    rw [HQ.out]
    exact ⟨none, 0, rfl, .inl rfl, Below.refl _ _⟩
  by_cases h2 : 16777216 < n
  · have HQ : Hid (nothR n = []) := by show _ = _; rw [nothR, if_pos (.inr h2)]
    go_wp2
    go_ret
    rw [HQ.out]
    exact ⟨none, 0, rfl, .inl rfl, Below.refl _ _⟩
  have HQ : Hid (nothR n = [⟨n, ⟨#[]⟩, 0⟩]) := by show _ = _; rw [nothR, if_neg (fun h => h.elim h1 h2)]
  go_wp2
  go_ret
  rw [HQ.out]
  have hn := World.alloc_heap_new w (.cells #[.int .i64 n, .string ⟨#[]⟩, .int .i64 0] 91)
  refine ⟨_, _, rfl, .inr ⟨_, 0, rfl, by simp, fun i hi => ?_⟩, (Below.refl _ w).alloc (Nat.le_refl _) _⟩
  obtain rfl : i = 0 := by simp at hi; exact hi
  refine ⟨?_, ?_, ?_⟩
  · rw [Joins.cell_of_block hn]; rfl
  · rw [Joins.cell_of_block hn]; rfl
  · rw [Joins.cell_of_block hn]; rfl

def idleB (rs : List Rn) : Bool := isG rs && decide (rs.length = 0 ∨ (rs.length = 1 ∧ kind (rs.getD 0 rn0) = 1))

set_option maxRecDepth 20000 in
set_option maxHeartbeats 4000000 in
theorem ridle_any (a : Option Addr) (cap : Nat) (rs : List Rn) (w : World) (hS : CameR w.heap.size w a rs) (hl : rs.length ≤ 1000000) :
    Calls Try.prog 58 #[.slice a rs.length cap] w fun e W' => e = .returned (.bool (idleB rs)) ∧ Below w.heap.size w W' := by
  have hg := rgood_any a cap rs w hS hl
  go_enter Try.func58, Try.ntmps58
  go_wp2_with fail
  refine hg.mono ?_
  rintro e w1 ⟨rfl, hb⟩
  have HB := hide hb
  cases hG : isG rs with
  | false =>
    have HQ : Hid (idleB rs = false) := by show _ = _; rw [idleB, hG]; rfl
    clear hb
    go_wp2
    go_ret
    exact ⟨ret_bool HQ.out.symm, HB.out⟩
  | true =>
    by_cases h0 : rs.length = 0
    · have HQ : Hid (idleB rs = true) := by show _ = _; rw [idleB, hG]; simp [h0]
      have h0' : ((rs.length : Int) == 0) = true := by simp [h0]
      clear hb
      go_wp2
      go_ret
      exact ⟨ret_bool HQ.out.symm, HB.out⟩
    have h0' : ((rs.length : Int) == 0) = false := beq_eq_false_iff_ne.2 (by omega)
    by_cases h1 : rs.length = 1
    · have h1' : ((rs.length : Int) == 1) = true := by simp [h1]
      have h1l : (0 : Int) < (rs.length : Int) := by omega
      obtain ⟨b, off, rfl, s0, s1, s2⟩ := came_at (k := 0) (hS.below hb) (by omega)
      have HQ : Hid (idleB rs = ((kind (rs.getD 0 rn0) : Int) == 1)) := by
        show _ = _
        rw [idleB, hG, Bool.true_and]
        by_cases hk : kind (rs.getD 0 rn0) = 1
        · rw [hk]; simp [h1]
        · rw [decide_eq_false (by omega), beq_eq_false_iff_ne.2 (by omega)]
      generalize rs.getD 0 rn0 = x at s0 s1 s2 HQ
      obtain ⟨xk, xa, xd⟩ := x
      simp only [Nat.zero_mul, Nat.add_zero] at s0 s1 s2
      clear hb
      go_wp2_with fail
      refine (rkind_any xk xd xa _).mono ?_
      rintro e w2 ⟨rfl, hb2⟩
      have HB2 := hide (HB.out.trans (hb2.mono HB.out.size))
      clear hb2
      go_wp2
      go_ret
      exact ⟨ret_bool HQ.out.symm, HB2.out⟩
    · have h1' : ((rs.length : Int) == 1) = false := beq_eq_false_iff_ne.2 (by omega)
      have HQ : Hid (idleB rs = false) := by show _ = _; rw [idleB, hG]; simp [h0, h1]
      clear hb
      go_wp2
      go_ret
      exact ⟨ret_bool HQ.out.symm, HB.out⟩

end Go.Proofs.Ytpmijaplkbmbiaa.E
