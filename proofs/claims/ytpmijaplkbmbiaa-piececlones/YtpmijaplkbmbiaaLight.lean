/- The law's light, over steps that came in. -/
import Derived.Test.YtpmijaplkbmbiaaBuf2
namespace Go.Proofs.Ytpmijaplkbmbiaa
open Go.RowKit Go.By Go.Shelf
set_option linter.unusedVariables false

/-- A step: is it a deletion; where; how many; what. -/
structure Stp where
  del : Bool
  at_ : Int
  many : Int
  s : ByteArray
def stp0 : Stp := ⟨false, 0, 0, ⟨#[]⟩⟩

/-- Steps that came in. -/
def CameP (n₀ : Nat) (W : World) (a : Option Addr) (ss : List Stp) : Prop := ss = [] ∨ ∃ b off, a = some ⟨b, off, none⟩ ∧ b < n₀ ∧ ∀ i, i < ss.length →
  W.cell? ⟨b, off + i * 4, none⟩ = some (.bool (ss.getD i stp0).del) ∧ W.cell? ⟨b, off + i * 4 + 1, none⟩ = some (.int .i64 (ss.getD i stp0).at_) ∧ W.cell? ⟨b, off + i * 4 + 2, none⟩ = some (.int .i64 (ss.getD i stp0).many) ∧ W.cell? ⟨b, off + i * 4 + 3, none⟩ = some (.string (ss.getD i stp0).s)

theorem CameP.below {n₀ : Nat} {W W' : World} {a : Option Addr} {ss : List Stp} (h : CameP n₀ W a ss) (hb : Below n₀ W W') : CameP n₀ W' a ss := by
  rcases h with h | ⟨b, off, e, hl, hc⟩
  · exact .inl h
  · exact .inr ⟨b, off, e, hl, fun i hi => ⟨(hb.cell (p := ⟨b, _, none⟩) hl).trans (hc i hi).1, (hb.cell (p := ⟨b, _, none⟩) hl).trans (hc i hi).2.1, (hb.cell (p := ⟨b, _, none⟩) hl).trans (hc i hi).2.2.1, (hb.cell (p := ⟨b, _, none⟩) hl).trans (hc i hi).2.2.2⟩⟩

def Light (ss : List Stp) : Prop := ss.length ≤ 100 ∧ ∀ i, i < ss.length → (ss.getD i stp0).s.size ≤ 500

def LightOut (ss : List Stp) (W : World) (e : Ending) (W' : World) : Prop := Below W.heap.size W W' ∧ ((Light ss ∧ e = .returned (.bool true)) ∨ (¬ Light ss ∧ e = .returned (.bool false)))

set_option maxRecDepth 20000 in
set_option maxHeartbeats 2000000 in
theorem light_any (a : Option Addr) (ss : List Stp) (cap : Nat) (w : World) (hc : CameP w.heap.size w a ss) (hsz : ∀ i, (ss.getD i stp0).s.size ≤ 9223372036854775807) :
    Calls Try.prog 23 #[.slice a ss.length cap] w (LightOut ss w) := by
  by_cases h100 : ss.length ≤ 100
  · have hn : ¬ (100 : Int) < (ss.length : Int) := by omega
    have HC := hide hc
    have HSZ := hide hsz
    clear hc hsz
    go_enter Try.func23, Try.ntmps23
    go_wp2_with fail
    go_loopw [10] (fun iv wr => ∃ k : Nat, iv = .int .i64 (k : Int) ∧ k ≤ ss.length ∧ Hid (Below w.heap.size w wr ∧ ∀ i, i < k → (ss.getD i stp0).s.size ≤ 500)) (fun iv _ => ss.length - (intOf iv).toNat)
    case atStart => exact ⟨0, rfl, Nat.zero_le _, hide ⟨Below.refl _ _, fun i hi => by omega⟩⟩
    case round =>
      obtain ⟨k, rfl, hk, HI⟩ := hrel
      by_cases hlt : k < ss.length
      · obtain ⟨b, off, rfl, hbl, hcell⟩ : ∃ b off, a = some ⟨b, off, none⟩ ∧ b < w.heap.size ∧ _ := by
          rcases HC.out.below HI.out.1 with rfl | h
          · simp at hlt
          · exact h
        obtain ⟨s0, s1, s2, s3⟩ := hcell k hlt
        have hs := HSZ.out k
        obtain ⟨⟨dl, at_, mn, s⟩, hkd⟩ : ∃ t, t = ss.getD k stp0 := ⟨_, rfl⟩
        rw [← hkd] at s0 s1 s2 s3 hs
        replace s0 : wr.cell? ⟨b, off + k * 4, none⟩ = some (.bool dl) := s0
        replace s1 : wr.cell? ⟨b, off + k * 4 + 1, none⟩ = some (.int .i64 at_) := s1
        replace s2 : wr.cell? ⟨b, off + k * 4 + 2, none⟩ = some (.int .i64 mn) := s2
        replace s3 : wr.cell? ⟨b, off + k * 4 + 3, none⟩ = some (.string s) := s3
        have hlt' : (k : Int) < (ss.length : Int) := by omega
        have HKD := hide (show (ss.getD k stp0).s = s by rw [← hkd])
        clear hcell hkd hs
        by_cases h5 : s.size ≤ 500
        · have h5' : ¬ (500 : Int) < (s.size : Int) := by omega
          go_wp2
          go_roundw
          case rel =>
            refine ⟨k + 1, by go_num, by omega, hide ⟨HI.out.1.alloc HI.out.1.size _, fun i hi => ?_⟩⟩
            rcases Nat.lt_or_ge i k with h | h
            · exact HI.out.2 i h
            · obtain rfl : i = k := by omega
              rw [HKD.out]; exact h5
          case measure => simp [intOf]; omega
        · have h5' : (500 : Int) < (s.size : Int) := by omega
          go_wp2
          go_ret
          exact ⟨HI.out.1.alloc HI.out.1.size _, .inr ⟨fun h => h5 (by have := h.2 k hlt; rwa [HKD.out] at this), rfl⟩⟩
      · obtain rfl : k = ss.length := by omega
        go_wp2
        go_ret
        exact ⟨HI.out.1, .inl ⟨⟨h100, HI.out.2⟩, rfl⟩⟩
  · have hn : (100 : Int) < (ss.length : Int) := by omega
    clear hc hsz
    go_enter Try.func23, Try.ntmps23
    go_wp2
    go_ret
    exact ⟨Below.refl _ _, .inr ⟨fun h => h100 h.1, rfl⟩⟩

end Go.Proofs.Ytpmijaplkbmbiaa
