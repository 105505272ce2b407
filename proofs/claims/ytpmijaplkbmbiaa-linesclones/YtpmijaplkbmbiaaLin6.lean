/- The law's steps, light and lives, of lines. -/
import Derived.Test.YtpmijaplkbmbiaaLin5
import Derived.WalkKit
import Derived.ProofKit
import Derived.OpenShut
import Derived.ShutString
import Derived.ChangeOld
import Derived.Below
import Derived.Deep.Slices
import Derived.ChangeArms
namespace Go.Proofs.Ytpmijaplkbmbiaa.I
open Go.Proofs.Ytpmijaplkbmbiaa Go.RowKit Go.By Go.Shelf
set_option linter.unusedVariables false

/-- A step: where; how many bytes go; what comes. -/
structure Stp where
  at_ : Int
  drop : Int
  s : ByteArray
def stp0 : Stp := ⟨0, 0, ⟨#[]⟩⟩
def IntOk (n : Int) : Prop := IntKind.i64.wrap n = n

/-- Steps that came in. -/
def CameP (n₀ : Nat) (W : World) (a : Option Addr) (ss : List Stp) : Prop := ss = [] ∨ ∃ b off, a = some ⟨b, off, none⟩ ∧ b < n₀ ∧ ∀ i, i < ss.length →
  W.cell? ⟨b, off + i * 3, none⟩ = some (.int .i64 (ss.getD i stp0).at_) ∧ W.cell? ⟨b, off + i * 3 + 1, none⟩ = some (.int .i64 (ss.getD i stp0).drop) ∧ W.cell? ⟨b, off + i * 3 + 2, none⟩ = some (.string (ss.getD i stp0).s)

theorem CameP.below {n₀ : Nat} {W W' : World} {a : Option Addr} {ss : List Stp} (h : CameP n₀ W a ss) (hb : Below n₀ W W') : CameP n₀ W' a ss := by
  rcases h with h | ⟨b, off, e, hl, hc⟩
  · exact .inl h
  · exact .inr ⟨b, off, e, hl, fun i hi => ⟨(hb.cell (p := ⟨b, _, none⟩) hl).trans (hc i hi).1, (hb.cell (p := ⟨b, _, none⟩) hl).trans (hc i hi).2.1, (hb.cell (p := ⟨b, _, none⟩) hl).trans (hc i hi).2.2⟩⟩

theorem CameP.get {n₀ k : Nat} {W : World} {a : Option Addr} {ss : List Stp} (h : CameP n₀ W a ss) (hk : k < ss.length) : ∃ b off at_ dr s, a = some ⟨b, off, none⟩ ∧ b < n₀ ∧ ss.getD k stp0 = ⟨at_, dr, s⟩ ∧
    W.cell? ⟨b, off + k * 3, none⟩ = some (.int .i64 at_) ∧ W.cell? ⟨b, off + k * 3 + 1, none⟩ = some (.int .i64 dr) ∧ W.cell? ⟨b, off + k * 3 + 2, none⟩ = some (.string s) := by
  rcases h with rfl | ⟨b, off, e, hl, hc⟩
  · simp at hk
  · exact ⟨b, off, _, _, _, e, hl, rfl, (hc k hk).1, (hc k hk).2.1, (hc k hk).2.2⟩

def Light (s : ByteArray) (ss : List Stp) : Prop := s.size ≤ 200 ∧ ss.length ≤ 30 ∧ ∀ i, i < ss.length → (ss.getD i stp0).s.size ≤ 30
def LightOut (s : ByteArray) (ss : List Stp) (W : World) (e : Ending) (W' : World) : Prop := Below W.heap.size W W' ∧ ((Light s ss ∧ e = .returned (.bool true)) ∨ (¬ Light s ss ∧ e = .returned (.bool false)))

set_option maxRecDepth 20000 in
set_option maxHeartbeats 2000000 in
theorem light_any (s : ByteArray) (a : Option Addr) (ss : List Stp) (cap : Nat) (w : World) (hc : CameP w.heap.size w a ss) (hsz : ∀ i, (ss.getD i stp0).s.size ≤ 9223372036854775807) :
    Calls Try.prog 37 #[.string s, .slice a ss.length cap] w (LightOut s ss w) := by
  by_cases h200 : s.size ≤ 200
  · have hn0 : ¬ (200 : Int) < (s.size : Int) := by omega
    by_cases h30 : ss.length ≤ 30
    · have hn : ¬ (30 : Int) < (ss.length : Int) := by omega
      have HC := hide hc
      have HSZ := hide hsz
      clear hc hsz
      go_enter Try.func37, Try.ntmps37
      go_wp2_with fail
      go_loopw [17] (fun iv wr => ∃ k : Nat, iv = .int .i64 (k : Int) ∧ k ≤ ss.length ∧ Hid (Below w.heap.size w wr ∧ ∀ i, i < k → (ss.getD i stp0).s.size ≤ 30)) (fun iv _ => ss.length - (intOf iv).toNat)
      case atStart => exact ⟨0, rfl, Nat.zero_le _, hide ⟨Below.refl _ _, fun i hi => by omega⟩⟩
      case round =>
        obtain ⟨k, rfl, hk, HI⟩ := hrel
        by_cases hlt : k < ss.length
        · obtain ⟨b, off, at_, dr, x, rfl, hbl, hkd, s0, s1, s2⟩ := (HC.out.below HI.out.1).get hlt
          have hs := HSZ.out k
          rw [hkd] at hs
          replace hs : x.size ≤ 9223372036854775807 := hs
          have hlt' : (k : Int) < (ss.length : Int) := by omega
          have HKD := hide (show (ss.getD k stp0).s = x by rw [hkd])
          clear hkd hs
          by_cases h5 : x.size ≤ 30
          · have h5' : ¬ (30 : Int) < (x.size : Int) := by omega
            go_wp2
            go_roundw
            case rel =>
              refine ⟨k + 1, by go_num, by omega, hide ⟨HI.out.1.alloc HI.out.1.size _, fun i hi => ?_⟩⟩
              rcases Nat.lt_or_ge i k with h | h
              · exact HI.out.2 i h
              · obtain rfl : i = k := by omega
                rw [HKD.out]; exact h5
            case measure => simp [intOf]; omega
          · have h5' : (30 : Int) < (x.size : Int) := by omega
            go_wp2
            go_ret
            exact ⟨HI.out.1.alloc HI.out.1.size _, .inr ⟨fun h => h5 (by have := h.2.2 k hlt; rwa [HKD.out] at this), rfl⟩⟩
        · obtain rfl : k = ss.length := by omega
          go_wp2
          go_ret
          exact ⟨HI.out.1, .inl ⟨⟨h200, h30, HI.out.2⟩, rfl⟩⟩
    · have hn : (30 : Int) < (ss.length : Int) := by omega
      clear hc hsz
      go_enter Try.func37, Try.ntmps37
      go_wp2
      go_ret
      exact ⟨Below.refl _ _, .inr ⟨fun h => h30 h.2.1, rfl⟩⟩
  · have hn0 : (200 : Int) < (s.size : Int) := by omega
    clear hc hsz
    go_enter Try.func37, Try.ntmps37
    go_wp2
    go_ret
    exact ⟨Below.refl _ _, .inr ⟨fun h => h200 h.1, rfl⟩⟩

set_option maxRecDepth 20000 in
set_option maxHeartbeats 2000000 in
theorem lives_any (w : World) : Calls Try.prog 38 #[] w fun e w' => e = .returned (.bool true) ∧ Below w.heap.size w w' := by
  have hnew := new_line ⟨#[97, 10, 98, 99]⟩ w (by decide)
  go_enter Try.func38, Try.ntmps38
  go_wp2_with fail
  refine hnew.mono ?_
  rintro e w1 ⟨rfl, sv, h1, hb1⟩
  have HB1 := hide hb1
  have hst : starts (⟨#[97, 10, 98, 99]⟩ : ByteArray).data.toList = [0, 2] := by decide
  have hpo : Calls Try.prog 43 #[.pointer (some ⟨w.heap.size + 1, 0, none⟩), .int .i64 3] w1 fun e W' => e = .returned (.tuple #[.int .i64 1, .int .i64 1, .bool true]) ∧ Below w1.heap.size w1 W' := (pos_line h1).mono fun e W' ⟨q1, q2⟩ => by
    refine ⟨?_, q2⟩
    rcases q1 with ⟨a, e1, _, rfl⟩ | ⟨hn, _⟩
    · obtain rfl : a = 3 := by omega
      rfl
    · exact absurd ⟨by decide, by decide⟩ hn
  have HOF : Hid (∀ w2, Below w1.heap.size w1 w2 → Calls Try.prog 44 #[.pointer (some ⟨w.heap.size + 1, 0, none⟩), .int .i64 0, .int .i64 2] w2 fun e W' => e = .returned (.tuple #[.int .i64 0, .bool false]) ∧ W' = w2) := hide fun w2 hb => (offset_line (h1.below hb)).mono fun e W' ⟨q1, q2⟩ => by
    refine ⟨?_, q2⟩
    rcases q1 with ⟨a, ha, _⟩ | ⟨_, rfl⟩
    · obtain ⟨m, e1, _, _, q5, _⟩ := ha.inv
      obtain rfl : m = 0 := by omega
      exact absurd q5 (by decide)
    · rfl
  have HLN : Hid (∀ w2, Below w1.heap.size w1 w2 → Calls Try.prog 46 #[.pointer (some ⟨w.heap.size + 1, 0, none⟩)] w2 fun e W' => e = .returned (.int .i64 2) ∧ W' = w2) := hide fun w2 hb => (lines_line (h1.below hb)).mono fun e W' ⟨q1, q2⟩ => ⟨by rw [q1, hst]; rfl, q2⟩
  clear h1 hb1 hnew hst
  go_wp2_with (first
    | (go_at_call 43; refine hpo.mono ?_; rintro e w2 ⟨rfl, hb2⟩; have HB2 := hide hb2; clear hb2 hpo)
    | (go_at_call 44; refine (HOF.out _ HB2.out).mono ?_; rintro e w' ⟨rfl, hw'⟩; have hw2 := hw'.symm; clear hw'; subst hw2)
    | (go_at_call 46; refine (HLN.out _ HB2.out).mono ?_; rintro e w' ⟨rfl, hw'⟩; have hw2 := hw'.symm; clear hw'; subst hw2))
  go_ret
  exact ⟨rfl, HB1.out.trans (HB2.out.mono HB1.out.size)⟩

end Go.Proofs.Ytpmijaplkbmbiaa.I
