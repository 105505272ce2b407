/- What the program opens: just the bytes that are sealed. -/
import Derived.Test.YtgeboanebdmebabCSeal
import Derived.Deep.RegionHeld3
import Derived.Deep.DrawnRows
import Derived.Deep.QuietTactic
import Derived.BigQuiet
namespace Crc
/-- The last four are the sum of those ahead, m of them. -/
def Good (l : List Nat) (m : Nat) : Prop := ∀ j, j < 4 → l.getD (m + j) 0 = sum (l.take m) / 256 ^ j % 256
end Crc
namespace Go.Proofs.Ytgeboanebdmebab.C
open Go.RowKit Go.By
set_option linter.unusedVariables false
set_option maxRecDepth 20000
attribute [local go_sem ↓] Go.wp_at_zero Go.wp_at_succ

theorem wrapI (n : Int) (h : -9223372036854775808 ≤ n ∧ n ≤ 9223372036854775807) : IntKind.i64.wrap n = n := by rw [IntKind.wrap_i64]; omega

theorem tail_test (y s k : Nat) : (((y : Int) != IntKind.u8.wrap ((s : Int) / 2 ^ (8 * (k : Int)).toNat)) = false → y = s / 256 ^ k % 256) ∧ (((y : Int) != IntKind.u8.wrap ((s : Int) / 2 ^ (8 * (k : Int)).toNat)) = true → ¬ y = s / 256 ^ k % 256) := by
  have e : IntKind.u8.wrap ((s : Int) / 2 ^ (8 * (k : Int)).toNat) = ((s / 256 ^ k % 256 : Nat) : Int) := by
    rw [IntKind.wrap_u8, ← byte_of s k]
    have : (8 * (k : Int)).toNat = 8 * k := by omega
    rw [this]
  rw [e]
  constructor
  · intro h
    have := bne_eq_false_iff_eq.1 h
    omega
  · intro h h2
    rw [h2] at h
    simp at h

theorem clone_at (a : Option Addr) (l : List Nat) (n cap : Nat) (w : World) (hn : l.length = n) (hL : Came w.heap.size w a l) (hnil : a = none → l = [] ∧ cap = 0) (hm : n ≤ 1000000) :
    Calls Try.prog 25 #[.slice a n cap] w fun e w' => ∃ v, e = .returned v ∧ Owns w' w.heap.size v l ∧ Below w.heap.size w w' := by
  subst hn; exact clone_any a l cap w hL hnil hm

theorem slice_h (a : Option Addr) (n cap k : Nat) (h : k ≤ cap) (w : World) :
    (Instr.slice 27 (.slice a n cap) none (some (.int .i64 (k : Int))) none).run Try.prog w = .ok (.slice a k cap) w := by
  rw [run_slice_h w 27 a n cap (by exact Try.underlying27) .i64 k (by omega) (by omega)]
  have hs : (sizeOf (Try.prog.elem 27)).run Try.prog w = .ok 1 w := by kernel_rfl
  rw [hs]
  simp [Result.andThen, sliced]
  cases a with
  | none => simp
  | some x => simp [Addr.add]

theorem slice_l (b off n cap k : Nat) (h : k ≤ n) (hc : n ≤ cap) (hk : k < cap) (w : World) :
    (Instr.slice 27 (.slice (some ⟨b, off, none⟩) n cap) (some (.int .i64 (k : Int))) none none).run Try.prog w = .ok (.slice (some ⟨b, off + k, none⟩) (n - k) (cap - k)) w := by
  rw [run_slice_l w 27 _ n cap (by exact Try.underlying27) .i64 k (by omega) (by omega)]
  have hs : (sizeOf (Try.prog.elem 27)).run Try.prog w = .ok 1 w := by kernel_rfl
  rw [hs]
  have : ¬ cap = k := by omega
  simp [Result.andThen, sliced, this, Addr.add]

set_option maxHeartbeats 400000 in
theorem open_short (a : Option Addr) (l : List Nat) (cap : Nat) (w : World) (hs : l.length < 4) :
    Calls Try.prog 31 #[.slice a l.length cap] w fun e w' => e = .returned (.tuple #[.slice none 0 0, .bool false]) ∧ w' = w := by
  go_enter Try.func31, Try.ntmps31
  go_wp2
  go_ret2
  exact ⟨rfl, rfl⟩

set_option maxHeartbeats 1000000 in
theorem open_long (a : Option Addr) (l : List Nat) (m cap : Nat) (w : World) (hL : Came w.heap.size w a l) (hs : l.length = m + 4) (hcap : m + 4 ≤ cap) (hmx : cap ≤ maxLen) (hm : l.length ≤ 100000) :
    Calls Try.prog 31 #[.slice a (m + 4) cap] w fun e w' => Below w.heap.size w w' ∧ ((Crc.Good l m ∧ ∃ v, e = .returned (.tuple #[v, .bool true]) ∧ Owns w' w.heap.size v (l.take m)) ∨ (¬ Crc.Good l m ∧ e = .returned (.tuple #[.slice none 0 0, .bool false]))) := by
  unfold maxLen at hmx
  rcases hL.2 with rfl | ⟨b, off, rfl, hb, hc⟩
  · simp at hs
  have HL := hide hL
  have HC := hide hc
  have HS := hide hs
  clear hL hc hs
  have hm' : m ≤ 100000 := by have := HS.out; omega
  have s1 := slice_h (some ⟨b, off, none⟩) (m + 4) cap m (by omega)
  have s2 := slice_l b off (m + 4) cap m (by omega) (by omega) (by omega)
  have hw1 : IntKind.i64.wrap (m : Int) = m := wrapI _ (by omega)
  go_enter Try.func31, Try.ntmps31
  go_wp2
  go_region_held3 (fun w' => True) (trivial) (fail)
  go_wp2_with fail
  refine (sum_at (some ⟨b, off, none⟩) (l.take m) m cap (Crc.sum (l.take m)) _ (by have := HS.out; simp; omega) rfl (by exact (HL.out.take m).lies) (by omega)).mono ?_
  rintro e w1 ⟨rfl, hw⟩
  subst hw
  have hb2 := Crc.sum_lt (HL.out.take m).1
  generalize hS : Crc.sum (l.take m) = s at *
  have HZ := hide hS
  clear hS s1 s2
  go_wp2_with fail
  go_loopw [23] (fun i wr => ∃ k : Nat, k ≤ 4 ∧ i = .int .i64 k ∧ Below w.heap.size w wr ∧ ∀ j, j < k → l.getD (m + j) 0 = s / 256 ^ j % 256) (fun i _ => 4 - (intOf i).toNat)
  case atStart => exact ⟨0, by omega, rfl, (Below.refl _ _).drew, fun j h => absurd h (Nat.not_lt_zero _)⟩
  case round =>
    obtain ⟨k, hk, rfl, hbel, hall⟩ := hrel
    by_cases hlt : k < 4
    · have hck : wr.cell? ⟨b, off + m + k, none⟩ = some (.int .u8 ((l.getD (m + k) 0 : Nat) : Int)) := by
        have := (hbel.cell (p := ⟨b, off + (m + k), none⟩) hb).trans (HC.out (m + k) (by have := HS.out; omega))
        rw [← Nat.add_assoc] at this; exact this
      have hd := getD_lt HL.out.1 (m + k)
      have HA := hide hall
      have HB := hide hbel
      clear hall hbel
      generalize hy : l.getD (m + k) 0 = y at *
      have HY := hide hy
      clear hy
      have hw2 : IntKind.i64.wrap (8 * (k : Int)) = 8 * k := wrapI _ (by omega)
      have hk0 : (0 : Int) ≤ k := by omega
      have hk4 : (k : Int) < 4 := by omega
      go_wp2
      go_region_held3 (fun w' => w'.cell? ⟨b, off + m + k, none⟩ = some (.int .u8 (y : Int))) (go_keep) (fail)
      go_wp2
      · go_ret2
        refine ⟨HB.out.drew, .inr ⟨fun hg => ?_, rfl⟩⟩
        have h1 := hg k hlt
        rw [HY.out, HZ.out] at h1
        exact (tail_test y s k).2 ‹_› h1
      · go_roundw
        case rel =>
          refine ⟨k + 1, by omega, by go_num, HB.out.drew, fun j hj => ?_⟩
          by_cases hjk : j = k
          · subst hjk; rw [HY.out]; exact (tail_test y s j).1 ‹_›
          · exact HA.out j (by omega)
        case measure => simp [intOf]; omega
    · have HA := hide hall
      have HB := hide hbel
      clear hall hbel
      go_wp2_with fail
      refine (clone_at (some ⟨b, off, none⟩) (l.take m) m cap _ (by have := HS.out; simp; omega) (((HL.out.take m).below HB.out).mono HB.out.size) (by simp) (by omega)).mono ?_
      rintro e w1 ⟨v, rfl, hown, hb1⟩
      go_wp2
      go_ret2
      refine ⟨HB.out.trans (hb1.mono HB.out.size), .inl ⟨fun j hj => ?_, v, rfl, hown.mono HB.out.size⟩⟩
      rw [HZ.out]
      exact HA.out j (by omega)
end Go.Proofs.Ytgeboanebdmebab.C
